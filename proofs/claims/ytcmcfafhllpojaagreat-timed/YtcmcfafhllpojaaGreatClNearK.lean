/-
  A case of wallskeep: near.
-/
import Derived.Test.YtcmcfafhllpojaaGreatClPackAI
import Derived.Deep.RegionHeld3
namespace Go.Proofs.YtcmcfafhllpojaaGreat
open Go.RowKit

theorem ts17 {w : World} {g : Nat} {x : Cs} {l : Cl} (h : Row w g (csL x l) 33) : w.cell? ⟨g, 0, none⟩ = some (.int .i64 x.c.cores) ∧ w.cell? ⟨g, 1, none⟩ = some (.int .i64 x.c.domains) ∧ w.cell? ⟨g, 2, none⟩ = some (.int .i64 x.c.line) ∧ w.cell? ⟨g, 3, none⟩ = some (.int .i64 x.c.priv) ∧ w.cell? ⟨g, 4, none⟩ = some (.int .i64 x.c.shared) ∧ w.cell? ⟨g, 5, none⟩ = some (.int .i64 x.c.near) ∧ w.cell? ⟨g, 6, none⟩ = some (.int .i64 x.c.sets) ∧ w.cell? ⟨g, 7, none⟩ = some (.slice l.s.wa l.s.wl l.s.wc) ∧ w.cell? ⟨g, 8, none⟩ = some (.int .i64 x.c.slot) ∧ w.cell? ⟨g, 9, none⟩ = some (.slice l.s.sa l.s.sl l.s.sc) ∧ w.cell? ⟨g, 10, none⟩ = some (.slice l.s.ta l.s.tl l.s.tc) ∧ w.cell? ⟨g, 11, none⟩ = some (.int .i64 x.c.quantum) ∧ w.cell? ⟨g, 12, none⟩ = some (.int .i64 x.c.flush) ∧ w.cell? ⟨g, 13, none⟩ = some (.slice l.pa l.pl l.pc) ∧ w.cell? ⟨g, 14, none⟩ = some (.slice l.oa l.ol l.oc) ∧ w.cell? ⟨g, 15, none⟩ = some (.slice l.ma l.ml l.mc) ∧ w.cell? ⟨g, 16, none⟩ = some (.slice l.ra l.rl l.rc) :=
  ⟨h.cell 0, h.cell 1, h.cell 2, h.cell 3, h.cell 4, h.cell 5, h.cell 6, h.cell 7, h.cell 8, h.cell 9, h.cell 10, h.cell 11, h.cell 12, h.cell 13, h.cell 14, h.cell 15, h.cell 16⟩

theorem beq_dec (a b : Int) : (a == b) = decide (a = b) := by
  by_cases h : a = b <;> simp [h]

/-- While near looks through a trace. -/
structure NS (w wr : World) (x : Cs) (l : Cl) (gE : Nat) (ec ei evl ef eis edn : Int) : Prop where
  box : Row wr w.heap.size (csL x l) 33
  ebx : Row wr gE [.int .i64 ec, .int .i64 ei, .int .i64 evl, .int .i64 ef, .int .i64 eis, .int .i64 edn] 88
  bel : Below w.heap.size w wr
theorem NS.below {w wr wr' : World} {x : Cs} {l : Cl} {gE : Nat} {ec ei evl ef eis edn : Int} (h : NS w wr x l gE ec ei evl ef eis edn) (hb : Below wr.heap.size wr wr') : NS w wr' x l gE ec ei evl ef eis edn :=
  ⟨h.box.below hb h.box.lt, h.ebx.below hb h.ebx.lt, below_step h.bel hb rfl⟩
theorem NS.drew {w wr : World} {x : Cs} {l : Cl} {gE : Nat} {ec ei evl ef eis edn : Int} (h : NS w wr x l gE ec ei evl ef eis edn) (n : Nat) : NS w (wr.drewN n) x l gE ec ei evl ef eis edn :=
  ⟨h.box, h.ebx, h.bel.trans ⟨rfl, rfl, rfl, Nat.le_refl _, fun _ _ => rfl⟩⟩

set_option maxRecDepth 100000 in
set_option maxHeartbeats 6400000 in
theorem kNear_any (x : Cs) (l : Cl) (hz : chk x.c = 0) (d nc : Nat) (hd : (d : Int) < x.c.domains) (hnc : x.c.cores.toNat = nc) (es : List Ev) (hr : ReadOk (datK x) d es) (hn : NearOk (datK x) d es) (hbd : ∀ v ∈ es, 0 ≤ v.issue ∧ v.issue ≤ 10000 ∧ 0 ≤ v.done ∧ v.done ≤ 10000) (sa : Option Addr) (len cap i : Nat) (w0 w : World) (hCA : CaseAt w0 x l) (hE : EvsAt w0 sa len cap es) (hb0 : Below w0.heap.size w0 w) (hi : i < len) (hl : len ≤ 192) :
    Calls Tryz.prog 38 #[csV x l, .slice sa len cap, .int .i64 i, .int .i64 d] w fun r w' => r = .returned (.bool true) ∧ Below w.heap.size w w' := by
  have R := right_of hz
  have hb1 : Below w.heap.size w (w.alloc (.cells (csA x l) 33)) := (Below.refl _ _).alloc (Nat.le_refl _) _
  have RC : Row (w.alloc (.cells (csA x l) 33)) w.heap.size (csL x l) 33 := heap_alloc_new w _
  have hsz : (w.alloc (.cells (csA x l) 33)).heap.size = w.heap.size + 1 := by simp
  have HEL : Hid _ := hE.hlen
  have hlE : i < es.length := by rw [hE.hlen]; exact hi
  have hGi := tread_each hr i hlE
  have hNi := near_each hn i hlE
  have hmem : ∀ j, j < len → es.getD j evZ ∈ es := fun j hj => by
    rw [List.getD_eq_getElem?_getD, List.getElem?_eq_getElem (by rw [hE.hlen]; exact hj)]; exact List.getElem_mem _
  have hbi := hbd _ (hmem i hi)
  obtain ⟨lk0, lk1⟩ := lineK_nn hz hGi
  have HNO : Hid _ := near_once hNi
  have HNR : Hid (∀ k, (es.getD i evZ).fault = 0 → 0 ≤ lineK x d (es.getD i evZ) → (es.getD i evZ).done ≠ (es.getD i evZ).issue → Alone (datK x) d k → nb2 x d (es.getD i evZ) (es.take i) = false) := fun k a b c e => near_right hNi a b c e
  obtain ⟨eb, eoff, hsa, c0, c1, c2, c3, c4, c5⟩ := (hE.below (below_step hb0 hb1 rfl) (Nat.le_refl _)).hat i hi
  subst hsa
  have HLK : Hid _ := fun W (hb : Below w0.heap.size w0 W) => klineOf_any x l hz d nc hd hnc _ _ hGi w0 W hCA hb
  have HLJ : Hid _ := fun j (hj : j < len) W (hb : Below w0.heap.size w0 W) => klineOf_any x l hz d nc hd hnc _ _ (tread_each hr j (by rw [hE.hlen]; exact hj)) w0 W hCA hb
  obtain ⟨kc, hkc1, hkc2, _⟩ := hGi
  have hkc3 : kc < nc := by have : (datK x).c.cores.toNat = nc := hnc; omega
  have HBD : Hid (∀ j, j < len → 0 ≤ (es.getD j evZ).issue ∧ (es.getD j evZ).issue ≤ 10000 ∧ 0 ≤ (es.getD j evZ).done ∧ (es.getD j evZ).done ≤ 10000) := fun j hj => hbd _ (hmem j hj)
  have HON : Hid _ := fun W (hb : Below w0.heap.size w0 W) => konly_any x l hz d nc kc hd hnc w0 W hCA hb
  obtain ⟨ev, hev⟩ : ∃ ev, es.getD i evZ = ev := ⟨_, rfl⟩
  rw [hev] at c0 c1 c2 c3 c4 c5 hbi lk0 lk1 HNO HNR HLK hkc1
  have HEV : Hid _ := hev
  obtain ⟨ec, ei, evl, ef, eis, edn⟩ := ev
  simp only at c0 c1 c2 c3 c4 c5 hbi lk0 lk1 hkc1
  subst hkc1
  have HNO' : Hid (ef = 0 → edn = eis → nb1 x d ⟨(kc : Int), ei, evl, ef, eis, edn⟩ (es.take i) = true) := HNO.out
  have HNR' : Hid (∀ k, ef = 0 → 0 ≤ lineK x d ⟨(kc : Int), ei, evl, ef, eis, edn⟩ → edn ≠ eis → Alone (datK x) d k → nb2 x d ⟨(kc : Int), ei, evl, ef, eis, edn⟩ (es.take i) = false) := HNR.out
  have HE : Hid _ := hE
  have HB0 : Hid _ := hb0
  have lE := cell_lt c0
  have hcap := hE.hle
  have hcm := hE.hmax
  unfold maxLen at hcm
  have q1 : 0 < x.c.quantum := by have := R.q1; have := R.w0; have := R.f1; omega
  have q2 := R.q2
  have HTK : Hid (∀ j, j < len → es.take (j + 1) = es.take j ++ [es.getD j evZ]) := fun j hj => ttake_one (by rw [HEL.out]; exact hj)
  have S0 : NS w ((w.alloc (.cells (csA x l) 33)).alloc (.cells #[.int .i64 kc, .int .i64 ei, .int .i64 evl, .int .i64 ef, .int .i64 eis, .int .i64 edn] 88)) x l (w.heap.size + 1) kc ei evl ef eis edn := by
    refine ⟨Row.alloc RC _, ?_, hb1.alloc (by simp) _⟩
    have := heap_alloc_new (w.alloc (.cells (csA x l) 33)) (.cells #[.int .i64 kc, .int .i64 ei, .int .i64 evl, .int .i64 ef, .int .i64 eis, .int .i64 edn] 88)
    rw [hsz] at this
    exact this
  have lnd := HLK.out _ (HB0.out.trans (S0.bel.mono HB0.out.size))
  have HS0 : Hid _ := S0
  have hrow := S0.box
  obtain ⟨v0, v1, v2, v3, v4, v5⟩ := ev_cells S0.ebx
  obtain ⟨LN, hLN⟩ : ∃ LN, lineK x d ⟨(kc : Int), ei, evl, ef, eis, edn⟩ = LN := ⟨_, rfl⟩
  have HLN : Hid _ := hLN
  rw [hLN] at lk0 lk1 lnd HNR'
  clear R hb1 RC hz hr hn hbd hCA hE hb0 hlE hNi hmem hev S0 hd hnc hsz hLN HNO HNR
  go_enter Tryz.func38, Tryz.ntmps38
  go_wp2_with (refine wpList_load_row (by rfl) 33 (.tmp 4) (by rfl) w.heap.size (by rfl) 33 (csL x l).toArray (0, 0) _ hrow Tryz.underlying33 (by rfl) (size_case x l) ?_)
  refine lnd.mono ?_; rintro r w1 ⟨rfl, hb1⟩
  have S1 := HS0.out.below hb1
  have HS1 : Hid _ := S1
  clear lnd hrow v0 v1 v2 v3 v4 v5 c0 c1 c2 c3 c4 c5 lE hb1 S1 HS0
  by_cases hf : ef = 0
  · subst hf
    obtain ⟨ln0, _⟩ := lk0 rfl
    have HNO2 : Hid _ := HNO'.out rfl
    have HNR2 : Hid (∀ k, edn ≠ eis → Alone (datK x) d k → nb2 x d ⟨(kc : Int), ei, evl, 0, eis, edn⟩ (es.take i) = false) := fun k a b => HNR'.out k rfl ln0 a b
    clear lk0 lk1 HNO' HNR' HLK
    obtain ⟨i1, i2, i3, i4⟩ := hbi
    obtain ⟨ev, hEV2⟩ : ∃ ev : Ev, ⟨(kc : Int), ei, evl, 0, eis, edn⟩ = ev := ⟨_, rfl⟩
    rw [hEV2] at HNO2 HNR2 HLN
    have HE2 : Hid (ev.core = kc ∧ ev.issue = eis) := by unfold Hid; rw [← hEV2]; exact ⟨rfl, rfl⟩
    clear hEV2 HEV
    go_wp2_with fail
    go_loopw [11, 12, 13] (fun b1 b2 u wr => ∃ (K : Nat), K ≤ i ∧ u = .int .i64 K ∧ b1 = .bool (nb1 x d ev (es.take K)) ∧ b2 = .bool (nb2 x d ev (es.take K)) ∧ NS w wr x l (w.heap.size + 1) kc ei evl 0 eis edn) (fun _ _ u _ => i - (intOf u).toNat)
    case atStart => exact ⟨0, by omega, rfl, rfl, rfl, HS1.out⟩
    case round =>
      obtain ⟨K, hK, rfl, rfl, rfl, S⟩ := hrel
      have HS : Hid _ := S
      obtain ⟨v0, v1, v2, v3, v4, v5⟩ := ev_cells S.ebx
      have lbx := S.box.lt
      have lex := S.ebx.lt
      have hBW := HB0.out.trans (S.bel.mono HB0.out.size)
      by_cases hlt : K < i
      · obtain ⟨eb', eoff', hsa', c0, c1, c2, c3, c4, c5⟩ := (HE.out.below hBW (Nat.le_refl _)).hat K (by omega)
        simp only [Option.some.injEq, Addr.mk.injEq, and_true] at hsa'
        obtain ⟨rfl, rfl⟩ := hsa'
        have lE := cell_lt c0
        have hLJ : ∀ W, Below w0.heap.size w0 W → _ := HLJ.out K (by omega)
        have hbj := HBD.out K (by omega)
        have HT1 : Hid _ := HTK.out K (by omega)
        have HN1 : Hid _ := nb1_snoc x d ev (es.take K) (es.getD K evZ)
        have HN2 : Hid _ := nb2_snoc x d ev (es.take K) (es.getD K evZ)
        rw [← HT1.out] at HN1 HN2
        obtain ⟨v, hv⟩ : ∃ v, es.getD K evZ = v := ⟨_, rfl⟩
        rw [hv] at c0 c1 c2 c3 c4 c5 hLJ hbj HN1 HN2
        obtain ⟨vc, vi, vv, vf, vis, vdn⟩ := v
        simp only at c0 c1 c2 c3 c4 c5 hbj
        obtain ⟨j1, j2, j3, j4⟩ := hbj
        obtain ⟨x0, x1, x2, x3, x4, x5, x6, x7, x8, x9, x10, x11, x12, x13, x14, x15, x16⟩ := ts17 S.box
        have HLV : Hid _ := hLJ
        have HC6 : Hid (∀ W, Below wr.heap.size wr W → W.cell? ⟨eb, eoff + K * 6, none⟩ = some (.int .i64 vc) ∧ W.cell? ⟨eb, eoff + K * 6 + 1, none⟩ = some (.int .i64 vi) ∧ W.cell? ⟨eb, eoff + K * 6 + 2, none⟩ = some (.int .i64 vv) ∧ W.cell? ⟨eb, eoff + K * 6 + 3, none⟩ = some (.int .i64 vf) ∧ W.cell? ⟨eb, eoff + K * 6 + 4, none⟩ = some (.int .i64 vis) ∧ W.cell? ⟨eb, eoff + K * 6 + 5, none⟩ = some (.int .i64 vdn)) := fun W hb => ⟨(hb.cell (p := ⟨eb, eoff + K * 6, none⟩) lE).trans c0, (hb.cell (p := ⟨eb, eoff + K * 6 + 1, none⟩) lE).trans c1, (hb.cell (p := ⟨eb, eoff + K * 6 + 2, none⟩) lE).trans c2, (hb.cell (p := ⟨eb, eoff + K * 6 + 3, none⟩) lE).trans c3, (hb.cell (p := ⟨eb, eoff + K * 6 + 4, none⟩) lE).trans c4, (hb.cell (p := ⟨eb, eoff + K * 6 + 5, none⟩) lE).trans c5⟩
        have HBW : Hid _ := hBW
        have hk0 : (0 : Int) ≤ (K : Int) := by omega
        have hk1 : (K : Int) < (len : Int) := by omega
        clear S HT1 hv v0 v1 v2 v3 v4 v5 hBW hLJ
        go_wp2_with fail
        go_region_held3 (fun w' => w'.cell? ⟨eb, eoff + K * 6, none⟩ = some (.int .i64 vc) ∧ w'.cell? ⟨eb, eoff + K * 6 + 1, none⟩ = some (.int .i64 vi) ∧ w'.cell? ⟨eb, eoff + K * 6 + 2, none⟩ = some (.int .i64 vv) ∧ w'.cell? ⟨eb, eoff + K * 6 + 3, none⟩ = some (.int .i64 vf) ∧ w'.cell? ⟨eb, eoff + K * 6 + 4, none⟩ = some (.int .i64 vis) ∧ w'.cell? ⟨eb, eoff + K * 6 + 5, none⟩ = some (.int .i64 vdn) ∧ w'.cell? ⟨w.heap.size, 0, none⟩ = some (.int .i64 x.c.cores) ∧ w'.cell? ⟨w.heap.size, 1, none⟩ = some (.int .i64 x.c.domains) ∧ w'.cell? ⟨w.heap.size, 2, none⟩ = some (.int .i64 x.c.line) ∧ w'.cell? ⟨w.heap.size, 3, none⟩ = some (.int .i64 x.c.priv) ∧ w'.cell? ⟨w.heap.size, 4, none⟩ = some (.int .i64 x.c.shared) ∧ w'.cell? ⟨w.heap.size, 5, none⟩ = some (.int .i64 x.c.near) ∧ w'.cell? ⟨w.heap.size, 6, none⟩ = some (.int .i64 x.c.sets) ∧ w'.cell? ⟨w.heap.size, 7, none⟩ = some (.slice l.s.wa l.s.wl l.s.wc) ∧ w'.cell? ⟨w.heap.size, 8, none⟩ = some (.int .i64 x.c.slot) ∧ w'.cell? ⟨w.heap.size, 9, none⟩ = some (.slice l.s.sa l.s.sl l.s.sc) ∧ w'.cell? ⟨w.heap.size, 10, none⟩ = some (.slice l.s.ta l.s.tl l.s.tc) ∧ w'.cell? ⟨w.heap.size, 11, none⟩ = some (.int .i64 x.c.quantum) ∧ w'.cell? ⟨w.heap.size, 12, none⟩ = some (.int .i64 x.c.flush) ∧ w'.cell? ⟨w.heap.size, 13, none⟩ = some (.slice l.pa l.pl l.pc) ∧ w'.cell? ⟨w.heap.size, 14, none⟩ = some (.slice l.oa l.ol l.oc) ∧ w'.cell? ⟨w.heap.size, 15, none⟩ = some (.slice l.ma l.ml l.mc) ∧ w'.cell? ⟨w.heap.size, 16, none⟩ = some (.slice l.ra l.rl l.rc)) (first | exact ⟨k0, k1, k2, k3, k4, k5, ts17 S2.box⟩ | go_keep) (first
          | (go_at_call 74; refine (HLV.out _ (by exact HBW.out.drew)).mono ?_; rintro r w2 ⟨rfl, hb2⟩; have b2 : Below wr.heap.size wr w2 := (below_step ((Below.refl _ _).drew) hb2 rfl); have S2 : NS w w2 x l (w.heap.size + 1) kc ei evl 0 eis edn := (HS.out.below b2); obtain ⟨k0, k1, k2, k3, k4, k5⟩ := HC6.out w2 b2))
        all_goals clear x0 x1 x2 x3 x4 x5 x6 x7 x8 x9 x10 x11 x12 x13 x14 x15 x16 c0 c1 c2 c3 c4 c5 HLV HC6
        all_goals
          obtain ⟨v0, _, _, _, v4, _⟩ := ev_cells S2.ebx
          have z11 : w2.cell? ⟨w.heap.size, 11, none⟩ = some (.int .i64 x.c.quantum) := S2.box.cell 11
          have lb2 := S2.box.lt
          have le2 := S2.ebx.lt
          have lE2 := cell_lt k0
          have HS2 : Hid _ := S2
          clear S2 b2 hb2
        all_goals
          obtain ⟨LV, hLV⟩ : ∃ LV, lineK x d ⟨vc, vi, vv, vf, vis, vdn⟩ = LV := ⟨_, rfl⟩
          rw [hLV] at HN1 HN2
          rw [hLV]
          simp only [HE2.out.1, HE2.out.2, HLN.out] at HN1 HN2
          clear hLV
        all_goals
          by_cases hin : vc = (kc : Int) ∧ LV = LN
          · obtain ⟨rfl, rfl⟩ := hin
            have HM1 : Hid (nb1 x d ev (es.take (K + 1)) = (nb1 x d ev (es.take K) || decide (vis / x.c.quantum = eis / x.c.quantum))) := by unfold Hid; rw [HN1.out]; simp
            have HM2 : Hid (nb2 x d ev (es.take (K + 1)) = (nb2 x d ev (es.take K) || decide (vdn + 1 = eis))) := by unfold Hid; rw [HN2.out]; simp
            have y1 : 0 ≤ vis / x.c.quantum := Int.ediv_nonneg j1 (by omega)
            have y2 : vis / x.c.quantum ≤ vis := Int.ediv_le_self _ j1
            have y3 : 0 ≤ eis / x.c.quantum := Int.ediv_nonneg i1 (by omega)
            have y4 : eis / x.c.quantum ≤ eis := Int.ediv_le_self _ i1
            have hwv : IntKind.i64.wrap (vis / x.c.quantum) = vis / x.c.quantum := by rw [IntKind.wrap_i64]; omega
            have hwe : IntKind.i64.wrap (eis / x.c.quantum) = eis / x.c.quantum := by rw [IntKind.wrap_i64]; omega
            have hwd : IntKind.i64.wrap (vdn + 1) = vdn + 1 := by rw [IntKind.wrap_i64]; omega
            go_wp2_with fail
            go_quiet (fail)
            have S3 : NS w (w2.drewN nq) x l (w.heap.size + 1) kc ei evl 0 eis edn := HS2.out.drew nq
            have k4w3 : (w2.drewN nq).cell? ⟨eb, eoff + K * 6 + 4, none⟩ = some (.int .i64 vis) := k4
            have k5w3 : (w2.drewN nq).cell? ⟨eb, eoff + K * 6 + 5, none⟩ = some (.int .i64 vdn) := k5
            obtain ⟨w3, hw3⟩ : ∃ W, w2.drewN nq = W := ⟨_, rfl⟩
            rw [hw3] at S3 k4w3 k5w3
            rw [hw3]
            have q11w3 : w3.cell? ⟨w.heap.size, 11, none⟩ = some (.int .i64 x.c.quantum) := S3.box.cell 11
            have e4w3 : w3.cell? ⟨w.heap.size + 1, 4, none⟩ = some (.int .i64 eis) := S3.ebx.cell 4
            have lbw3 := S3.box.lt
            have lew3 := S3.ebx.lt
            have lEw3 := cell_lt k4w3
            have HSw3 : Hid _ := S3
            clear hw3 S3
            clear v0 v4 z11 k0 k1 k2 k3 k4 k5
            cases hb1 : nb1 x d ev (es.take K) with
            | true =>
              go_wp2_with fail
              go_quiet (fail)
              have S4 : NS w (w3.drewN nq) x l (w.heap.size + 1) kc ei evl 0 eis edn := HSw3.out.drew nq
              have k5w4 : (w3.drewN nq).cell? ⟨eb, eoff + K * 6 + 5, none⟩ = some (.int .i64 vdn) := k5w3
              obtain ⟨w4, hw4⟩ : ∃ W, w3.drewN nq = W := ⟨_, rfl⟩
              rw [hw4] at S4 k5w4
              rw [hw4]
              have q11w4 : w4.cell? ⟨w.heap.size, 11, none⟩ = some (.int .i64 x.c.quantum) := S4.box.cell 11
              have e4w4 : w4.cell? ⟨w.heap.size + 1, 4, none⟩ = some (.int .i64 eis) := S4.ebx.cell 4
              have lbw4 := S4.box.lt
              have lew4 := S4.ebx.lt
              have lEw4 := cell_lt k5w4
              have HSw4 : Hid _ := S4
              clear hw4 S4
              clear k4w3 k5w3 q11w3 e4w3
              cases hb2 : nb2 x d ev (es.take K) with
              | true =>
                have HR1 : Hid (nb1 x d ev (es.take (K + 1)) = true) := by unfold Hid; rw [HM1.out, hb1]; rfl
                have HR2 : Hid (nb2 x d ev (es.take (K + 1)) = true) := by unfold Hid; rw [HM2.out, hb2]; rfl
                go_wp2_with fail
                go_quiet (fail)
                go_wp2_with fail
                go_roundw
                case rel => exact ⟨K + 1, by omega, by go_num, by rw [HR1.out], by rw [HR2.out], HSw4.out.drew _⟩
                case measure => simp [intOf]; omega
              | false =>
                have HR1 : Hid (nb1 x d ev (es.take (K + 1)) = true) := by unfold Hid; rw [HM1.out, hb1]; rfl
                have HR2 : Hid (nb2 x d ev (es.take (K + 1)) = decide (vdn + 1 = eis)) := by unfold Hid; rw [HM2.out, hb2]; rfl
                go_wp2_with fail
                go_quiet (fail)
                go_wp2_with fail
                go_roundw
                case rel => exact ⟨K + 1, by omega, by go_num, by rw [HR1.out], by rw [HR2.out]; exact congrArg Value.bool (beq_dec _ _), HSw4.out.drew _⟩
                case measure => simp [intOf]; omega
            | false =>
              go_wp2_with fail
              go_quiet (fail)
              have S4 : NS w (w3.drewN nq) x l (w.heap.size + 1) kc ei evl 0 eis edn := HSw3.out.drew nq
              have k5w4 : (w3.drewN nq).cell? ⟨eb, eoff + K * 6 + 5, none⟩ = some (.int .i64 vdn) := k5w3
              obtain ⟨w4, hw4⟩ : ∃ W, w3.drewN nq = W := ⟨_, rfl⟩
              rw [hw4] at S4 k5w4
              rw [hw4]
              have q11w4 : w4.cell? ⟨w.heap.size, 11, none⟩ = some (.int .i64 x.c.quantum) := S4.box.cell 11
              have e4w4 : w4.cell? ⟨w.heap.size + 1, 4, none⟩ = some (.int .i64 eis) := S4.ebx.cell 4
              have lbw4 := S4.box.lt
              have lew4 := S4.ebx.lt
              have lEw4 := cell_lt k5w4
              have HSw4 : Hid _ := S4
              clear hw4 S4
              clear k4w3 k5w3 q11w3 e4w3
              cases hb2 : nb2 x d ev (es.take K) with
              | true =>
                have HR1 : Hid (nb1 x d ev (es.take (K + 1)) = decide (vis / x.c.quantum = eis / x.c.quantum)) := by unfold Hid; rw [HM1.out, hb1]; rfl
                have HR2 : Hid (nb2 x d ev (es.take (K + 1)) = true) := by unfold Hid; rw [HM2.out, hb2]; rfl
                go_wp2_with fail
                go_quiet (fail)
                go_wp2_with fail
                go_roundw
                case rel => exact ⟨K + 1, by omega, by go_num, by rw [HR1.out]; exact congrArg Value.bool (beq_dec _ _), by rw [HR2.out], HSw4.out.drew _⟩
                case measure => simp [intOf]; omega
              | false =>
                have HR1 : Hid (nb1 x d ev (es.take (K + 1)) = decide (vis / x.c.quantum = eis / x.c.quantum)) := by unfold Hid; rw [HM1.out, hb1]; rfl
                have HR2 : Hid (nb2 x d ev (es.take (K + 1)) = decide (vdn + 1 = eis)) := by unfold Hid; rw [HM2.out, hb2]; rfl
                go_wp2_with fail
                go_quiet (fail)
                go_wp2_with fail
                go_roundw
                case rel => exact ⟨K + 1, by omega, by go_num, by rw [HR1.out]; exact congrArg Value.bool (beq_dec _ _), by rw [HR2.out]; exact congrArg Value.bool (beq_dec _ _), HSw4.out.drew _⟩
                case measure => simp [intOf]; omega
          · have HR1 : Hid (nb1 x d ev (es.take (K + 1)) = nb1 x d ev (es.take K)) := by unfold Hid; rw [HN1.out, decide_eq_false hin]; simp
            have HR2 : Hid (nb2 x d ev (es.take (K + 1)) = nb2 x d ev (es.take K)) := by unfold Hid; rw [HN2.out, decide_eq_false hin]; simp
            by_cases hc : vc = (kc : Int)
            · have hl1 : (LV == LN) = false := by
                simp only [beq_eq_false_iff_ne]
                exact fun q => hin ⟨hc, q⟩
              subst hc
              clear hin HN1 HN2
              go_wp2_with fail
              go_quiet (fail)
              go_wp2_with fail
              go_roundw
              case rel => exact ⟨K + 1, by omega, by go_num, by rw [HR1.out], by rw [HR2.out], HS2.out.drew _⟩
              case measure => simp [intOf]; omega
            · have hc1 : (vc == (kc : Int)) = false := by simp [hc]
              clear hin HN1 HN2
              go_wp2_with fail
              go_quiet (fail)
              go_wp2_with fail
              go_roundw
              case rel => exact ⟨K + 1, by omega, by go_num, by rw [HR1.out], by rw [HR2.out], HS2.out.drew _⟩
              case measure => simp [intOf]; omega
      · have eK : K = i := by omega
        subst eK
        have hrow := S.box
        have HBB : Hid _ := S.bel
        by_cases hde : edn = eis
        · have hn1 := HNO2.out hde
          subst hde
          rw [hn1]
          clear S
          go_wp2
          go_ret
          exact ⟨rfl, HBB.out⟩
        · have hde1 : (edn == eis) = false := by simp [hde]
          have hOn := HON.out wr hBW
          have HNRR : Hid (∀ k, Alone (datK x) d k → nb2 x d ev (es.take K) = false) := fun k a => HNR2.out k hde a
          clear S
          go_wp2_with (refine wpList_load_row (by rfl) 33 (.tmp 4) (by rfl) w.heap.size (by rfl) 33 (csL x l).toArray (0, 0) _ hrow Tryz.underlying33 (by rfl) (size_case x l) ?_)
          refine hOn.mono ?_; rintro r w5 ⟨b, rfl, hal, hb5⟩
          have HB5 : Hid _ := below_step HBB.out hb5 rfl
          clear hOn hb5
          cases b with
          | true =>
            rw [HNRR.out kc (hal rfl)]
            clear hal
            go_wp2
            go_ret
            exact ⟨rfl, HB5.out⟩
          | false =>
            clear hal
            cases nb2 x d ev (es.take K) with
            | true =>
              go_wp2
              go_ret
              exact ⟨rfl, HB5.out⟩
            | false =>
              go_wp2
              go_ret
              exact ⟨rfl, HB5.out⟩
  · have ln1 := lk1 hf
    subst ln1
    clear lk0 lk1 hf HNO' HNR' HLK hbi
    go_wp2
    go_ret
    exact ⟨rfl, HS1.out.bel⟩
end Go.Proofs.YtcmcfafhllpojaaGreat
