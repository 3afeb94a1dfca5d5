/-
  A case of wallskeep: timed.
-/
import Derived.Test.YtcmcfafhllpojaaGreatClNearK
import Derived.Test.YtcmcfafhllpojaaGreatClKaseY
namespace Go.Proofs.YtcmcfafhllpojaaGreat
open Go.RowKit

theorem timed_bd {M : MDat} {d : Nat} {es : List Ev} (h : TimedOk M d es) : (∀ v ∈ es, 0 ≤ v.issue ∧ v.issue ≤ v.done) ∧ ∀ k : Nat, 0 ≤ freeOf k es := by
  induction h with
  | nil => exact ⟨fun v hv => by simp at hv, fun k => Int.le_refl _⟩
  | snoc h1 h2 ih =>
    rename_i evs e
    obtain ⟨k0, _, _, _, hf, _⟩ := h2.core
    have he : 0 ≤ e.issue ∧ e.issue ≤ e.done := ⟨Int.le_trans (ih.2 k0) hf, h2.order⟩
    refine ⟨fun v hv => ?_, fun k => ?_⟩
    · rcases List.mem_append.1 hv with q | q
      · exact ih.1 v q
      · rw [List.mem_singleton.1 q]; exact he
    · rw [free_snoc]
      split
      · omega
      · exact ih.2 k
theorem timed_take {M : MDat} {d : Nat} {es : List Ev} (h : TimedOk M d es) : ∀ j, TimedOk M d (es.take j) := by
  induction h with
  | nil => intro j; rw [List.take_nil]; exact TimedOk.nil
  | snoc h1 h2 ih =>
    rename_i evs e
    intro j
    by_cases c : j ≤ evs.length
    · rw [List.take_append_of_le_length c]; exact ih j
    · rw [List.take_of_length_le (by simp; omega)]; exact TimedOk.snoc h1 h2
theorem free_le {T : Nat} : ∀ {es : List Ev}, (∀ v ∈ es, v.done < (T : Int)) → ∀ k, freeOf k es ≤ T := by
  intro es
  have gen : ∀ (l : List Ev) (a : Int), a ≤ T → (∀ v ∈ l, v.done < (T : Int)) → ∀ k : Nat, l.foldl (fun f e => if e.core = (k : Int) then e.done + 1 else f) a ≤ T := by
    intro l
    induction l with
    | nil => intro a ha _ k; exact ha
    | cons e l ih =>
      intro a ha h k
      rw [List.foldl_cons]
      refine ih _ ?_ (fun v hv => h v (List.mem_cons_of_mem _ hv)) k
      have := h e (List.mem_cons_self ..)
      split <;> omega
  exact fun h k => gen es 0 (by omega) h k

/-- While timed looks through a trace. -/
structure TS (w wr : World) (x : Cs) (l : Cl) (gF nc : Nat) (F : Nat → Int) : Prop where
  box : Row wr w.heap.size (csL x l) 33
  fr : Row wr gF (flT nc F) 3
  bel : Below w.heap.size w wr
theorem TS.below {w wr wr' : World} {x : Cs} {l : Cl} {gF nc : Nat} {F : Nat → Int} (h : TS w wr x l gF nc F) (hb : Below wr.heap.size wr wr') : TS w wr' x l gF nc F :=
  ⟨h.box.below hb h.box.lt, h.fr.below hb h.fr.lt, below_step h.bel hb rfl⟩
theorem TS.drew {w wr : World} {x : Cs} {l : Cl} {gF nc : Nat} {F : Nat → Int} (h : TS w wr x l gF nc F) : TS w wr.drew x l gF nc F := ⟨h.box, h.fr, h.bel.drew⟩
theorem TS.set {w wr : World} {x : Cs} {l : Cl} {gF nc : Nat} {F : Nat → Int} (h : TS w wr x l gF nc F) (hg : w.heap.size < gF) (k : Nat) (v : Int) : TS w (wr.setCell ⟨gF, k, none⟩ (.int .i64 v)) x l gF nc (up1 F k v) :=
  ⟨h.box.setCellOther k _ (by omega), by have := h.fr.setCell k (.int .i64 v); rw [flT_set] at this; exact this, h.bel.setCell (p := ⟨gF, k, none⟩) (by show w.heap.size ≤ gF; omega) _⟩
theorem flT_congr {n : Nat} {f g : Nat → Int} (h : ∀ a, a < n → f a = g a) : flT n f = flT n g := by
  apply List.ext_getElem?
  intro a
  by_cases c : a < n
  · rw [flT_at c, flT_at c, h a c]
  · rw [List.getElem?_eq_none (by simp [flT]; omega), List.getElem?_eq_none (by simp [flT]; omega)]
theorem made_flT (n : Nat) : madeCells #[Value.int .i64 0] n = (flT n (fun _ => 0)).toArray := by
  have e : madeCells #[Value.int .i64 0] n = (List.replicate n (Value.int .i64 0)).toArray := made_int n
  rw [e]
  congr 1
  apply List.ext_getElem?
  intro a
  by_cases h : a < n
  · rw [flT_at h, List.getElem?_replicate, if_pos h]
  · rw [List.getElem?_eq_none (by simp; omega), List.getElem?_eq_none (by simp [flT]; omega)]

set_option maxRecDepth 100000 in
set_option maxHeartbeats 6400000 in
theorem ktimed_any (x : Cs) (l : Cl) (hz : chk x.c = 0) (d nc : Nat) (hd : (d : Int) < x.c.domains) (hnc : x.c.cores.toNat = nc) (es : List Ev) (hr : ReadOk (datK x) d es) (hn : NearOk (datK x) d es) (ht : TimedOk (datK x) d es) (T : Nat) (hT : ∀ v ∈ es, v.done < T) (hTm : T ≤ 10000) (sa : Option Addr) (len cap : Nat) (w : World) (hCA : CaseAt w x l) (hE : EvsAt w sa len cap es) (hl : len ≤ 192) :
    Calls Tryz.prog 20 #[csV x l, .slice sa len cap, .int .i64 d, .int .i64 T] w fun r w' => r = .returned (.bool true) ∧ Below w.heap.size w w' := by
  have R := right_of hz
  obtain ⟨i0, hi0, hz0, hz1, hz2⟩ := info_parts Tryz.infoInt
  have hb1 : Below w.heap.size w (w.alloc (.cells (csA x l) 33)) := (Below.refl _ _).alloc (Nat.le_refl _) _
  have RC : Row (w.alloc (.cells (csA x l) 33)) w.heap.size (csL x l) 33 := heap_alloc_new w _
  have HEC : Hid ((nc : Int) = x.c.cores) := by unfold Hid; have := R.c1; omega
  have hc3 : nc ≤ 3 := by have := R.c2; omega
  have y0 : (w.alloc (.cells (csA x l) 33)).cell? ⟨w.heap.size, 0, none⟩ = some (.int .i64 nc) := by rw [HEC.out]; exact RC.cell 0
  obtain ⟨bd1, bd2⟩ := timed_bd ht
  have hbd : ∀ v ∈ es, 0 ≤ v.issue ∧ v.issue ≤ 10000 ∧ 0 ≤ v.done ∧ v.done ≤ 10000 := fun v hv => by
    have h1 := bd1 v hv
    have h2 := hT v hv
    omega
  have HEL : Hid _ := hE.hlen
  have hmem : ∀ j, j < len → es.getD j evZ ∈ es := fun j hj => by
    rw [List.getD_eq_getElem?_getD, List.getElem?_eq_getElem (by rw [hE.hlen]; exact hj)]; exact List.getElem_mem _
  have HNE : Hid _ := fun i (hi : i < len) W (hb : Below w.heap.size w W) => kNear_any x l hz d nc hd hnc es hr hn hbd sa len cap i w W hCA hE hb hi hl
  have HTE : Hid _ := timed_each ht
  have HIT : Hid (∀ i, i < len → ∀ k f : Nat, (es.getD i evZ).core = k → freeOf k (es.take i) = f → ∀ W, Below w.heap.size w W → Calls Tryz.prog 37 #[csV x l, .int .i64 d, .agg (eventL (es.getD i evZ)).toArray, .int .i64 f, .int .i64 T] W fun r w' => r = .returned (.bool true) ∧ Below W.heap.size W w') := fun i hi k f hk hf W hb => kinTime_any x l hz d _ _ (timed_each ht i (by rw [hE.hlen]; exact hi)) k f T hk hf (hT _ (hmem i hi)) hTm w W hCA hb
  have HTK : Hid (∀ j, j < len → es.take (j + 1) = es.take j ++ [es.getD j evZ]) := fun j hj => ttake_one (by rw [HEL.out]; exact hj)
  have HFR : Hid (∀ j k, j ≤ len → 0 ≤ freeOf k (es.take j) ∧ freeOf k (es.take j) ≤ T) := fun j k hj => by
    exact ⟨(timed_bd (timed_take ht j)).2 k, free_le (fun v hv => hT v (List.mem_of_mem_take hv)) k⟩
  have HBD : Hid (∀ j, j < len → 0 ≤ (es.getD j evZ).issue ∧ (es.getD j evZ).issue ≤ 10000 ∧ 0 ≤ (es.getD j evZ).done ∧ (es.getD j evZ).done ≤ 10000) := fun j hj => hbd _ (hmem j hj)
  have HBE : Hid (∀ j, 0 < j → j < len → Behind (es.getD (j - 1) evZ) (es.getD j evZ)) := fun j h0 hj => by
    refine (timed_each ht j (by rw [hE.hlen]; exact hj)).last _ ?_
    have e1 := ttake_one (es := es) (i := j - 1) (by rw [hE.hlen]; omega)
    rw [show j - 1 + 1 = j by omega] at e1
    rw [e1, List.getLast?_concat]
  have HCO : Hid (∀ j, j < len → ∃ k : Nat, (es.getD j evZ).core = k ∧ k < nc) := fun j hj => by
    obtain ⟨k, h1, h2, _⟩ := (timed_each ht j (by rw [hE.hlen]; exact hj)).core
    exact ⟨k, h1, by have : (datK x).c.cores.toNat = nc := hnc; omega⟩
  have HE : Hid _ := hE
  have hcap := hE.hle
  have hcm := hE.hmax
  unfold maxLen at hcm
  have S0 : TS w ((w.alloc (.cells (csA x l) 33)).alloc (.cells (madeCells #[.int .i64 0] nc) 3)) x l (w.heap.size + 1) nc (fun k => freeOf k (es.take 0)) := by
    refine ⟨Row.alloc RC _, ?_, hb1.alloc (by simp) _⟩
    have := heap_alloc_new (w.alloc (.cells (csA x l) 33)) (.cells (madeCells #[.int .i64 0] nc) 3)
    rw [World.size_alloc] at this
    unfold Row
    rw [this, made_flT]
    rfl
  have HS0 : Hid _ := S0
  clear R hb1 RC hz hr hn ht hT hCA hE hbd bd1 bd2 hmem S0 hd hnc
  go_enter Tryz.func20, Tryz.ntmps20
  go_wp2_with (at_make; refine wpList_make_exact _ rfl _ _ 25 rfl 3 i0 _ Tryz.underlying25 hi0 hz0 .i64 .i64 _ _ nc rfl rfl (by simp) (by simp) (by rw [hz2]; omega) (by unfold maxLen; omega) ?_; rw [hz1, Nat.mul_one])
  clear y0
  go_loopw [10] (fun u wr => ∃ (i : Nat), i ≤ len ∧ u = .int .i64 i ∧ TS w wr x l (w.heap.size + 1) nc (fun k => freeOf k (es.take i))) (fun u _ => len - (intOf u).toNat)
  case atStart => exact ⟨0, by omega, rfl, HS0.out⟩
  case round =>
    obtain ⟨i, hi, rfl, S⟩ := hrel
    have HS : Hid _ := S
    by_cases hlt : i < len
    · obtain ⟨eb, eoff, hsa, c0, c1, c2, c3, c4, c5⟩ := (HE.out.below S.bel (Nat.le_refl _)).hat i hlt
      subst hsa
      obtain ⟨k, hk1, hk2⟩ := HCO.out i hlt
      obtain ⟨fr, hfr⟩ := Int.eq_ofNat_of_zero_le (HFR.out i k (by omega)).1
      have hfrT := (HFR.out i k (by omega)).2
      have HI : Hid _ := HIT.out i hlt k fr hk1 hfr
      have HN : Hid _ := HNE.out i hlt
      have HT1 : Hid _ := HTK.out i hlt
      have hbi := HBD.out i hlt
      have HBI : Hid _ := fun h0 => HBE.out i h0 hlt
      have f1 : wr.cell? ⟨w.heap.size + 1, k, none⟩ = some (.int .i64 fr) := by rw [S.fr.cell, flT_at hk2]; rw [hfr]
      obtain ⟨v, hv⟩ : ∃ v, es.getD i evZ = v := ⟨_, rfl⟩
      rw [hv] at c0 c1 c2 c3 c4 c5 hk1 HI HT1 hbi HBI
      obtain ⟨vc, vi, vv, vf, vis, vdn⟩ := v
      simp only at c0 c1 c2 c3 c4 c5 hk1 hbi
      subst hk1
      have HFN : Hid (up1 (fun j => freeOf j (es.take i)) k (vdn + 1) = fun j => freeOf j (es.take (i + 1))) := by
        unfold Hid
        funext j
        rw [HT1.out, free_snoc]
        unfold up1
        by_cases q : j = k
        · subst q; rw [if_pos rfl, if_pos rfl]
        · rw [if_neg q, if_neg (by show ¬ ((k : Int) = (j : Int)); omega)]
      have lb := S.box.lt
      have lf := S.fr.lt
      have lE := cell_lt c0
      have y0 : wr.cell? ⟨w.heap.size, 0, none⟩ = some (.int .i64 nc) := by rw [HEC.out]; exact S.box.cell 0
      have b2 : Below wr.heap.size wr (wr.alloc (.cells #[.int .i64 k, .int .i64 vi, .int .i64 vv, .int .i64 vf, .int .i64 vis, .int .i64 vdn] 88)) := (Below.refl _ _).alloc (Nat.le_refl _) _
      have RE : Row (wr.alloc (.cells #[.int .i64 k, .int .i64 vi, .int .i64 vv, .int .i64 vf, .int .i64 vis, .int .i64 vdn] 88)) wr.heap.size [.int .i64 k, .int .i64 vi, .int .i64 vv, .int .i64 vf, .int .i64 vis, .int .i64 vdn] 88 := heap_alloc_new wr _
      have S2 := S.below b2
      have y2 : (wr.alloc (.cells #[.int .i64 k, .int .i64 vi, .int .i64 vv, .int .i64 vf, .int .i64 vis, .int .i64 vdn] 88)).cell? ⟨w.heap.size, 0, none⟩ = some (.int .i64 nc) := by rw [HEC.out]; exact S2.box.cell 0
      have v0 := (ev_cells RE).1
      obtain ⟨w2, hw2⟩ : ∃ w2, wr.alloc (.cells #[.int .i64 k, .int .i64 vi, .int .i64 vv, .int .i64 vf, .int .i64 vis, .int .i64 vdn] 88) = w2 := ⟨_, rfl⟩
      have HW2 : Hid _ := hw2
      have HS2 : Hid (TS w w2 x l (w.heap.size + 1) nc (fun k => freeOf k (es.take i))) := by unfold Hid; rw [← hw2]; exact S2
      have HRE : Hid (Row w2 wr.heap.size [.int .i64 k, .int .i64 vi, .int .i64 vv, .int .i64 vf, .int .i64 vis, .int .i64 vdn] 88) := by unfold Hid; rw [← hw2]; exact RE
      have HB2 : Hid (Below wr.heap.size wr w2) := by unfold Hid; rw [← hw2]; exact b2
      clear S S2 RE b2 hw2 hv
      go_wp2_with fail
      rw [HW2.out]
      have S2 := HS2.out
      unfold Hid at S2
      obtain ⟨x0, x1, x2, x3, x4, x5, x6, x7, x8, x9, x10, x11, x12, x13, x14, x15, x16⟩ := ts17 S2.box
      have RE2 : Row w2 wr.heap.size [.int .i64 k, .int .i64 vi, .int .i64 vv, .int .i64 vf, .int .i64 vis, .int .i64 vdn] 88 := HRE.out
      have f2 : w2.cell? ⟨w.heap.size + 1, k, none⟩ = some (.int .i64 fr) := (HB2.out.cell (p := ⟨w.heap.size + 1, k, none⟩) lf).trans f1
      have lb2 := S2.box.lt
      have lf2 := S2.fr.lt
      have le2 := RE2.lt
      clear v0 y2 y0 f1
      obtain ⟨v0, v1, v2, v3, v4, v5⟩ := ev_cells RE2
      have HBW : Hid (Below w.heap.size w w2) := S2.bel
      have hk0 : (0 : Int) ≤ (k : Int) := by omega
      have hk1 : (k : Int) < (nc : Int) := by omega
      clear S2 RE2
      go_region_held3 (fun w' => w'.cell? ⟨w.heap.size + 1, k, none⟩ = some (.int .i64 fr) ∧ w'.cell? ⟨wr.heap.size, 0, none⟩ = some (.int .i64 k) ∧ w'.cell? ⟨wr.heap.size, 1, none⟩ = some (.int .i64 vi) ∧ w'.cell? ⟨wr.heap.size, 2, none⟩ = some (.int .i64 vv) ∧ w'.cell? ⟨wr.heap.size, 3, none⟩ = some (.int .i64 vf) ∧ w'.cell? ⟨wr.heap.size, 4, none⟩ = some (.int .i64 vis) ∧ w'.cell? ⟨wr.heap.size, 5, none⟩ = some (.int .i64 vdn) ∧ w'.cell? ⟨w.heap.size, 0, none⟩ = some (.int .i64 x.c.cores) ∧ w'.cell? ⟨w.heap.size, 1, none⟩ = some (.int .i64 x.c.domains) ∧ w'.cell? ⟨w.heap.size, 2, none⟩ = some (.int .i64 x.c.line) ∧ w'.cell? ⟨w.heap.size, 3, none⟩ = some (.int .i64 x.c.priv) ∧ w'.cell? ⟨w.heap.size, 4, none⟩ = some (.int .i64 x.c.shared) ∧ w'.cell? ⟨w.heap.size, 5, none⟩ = some (.int .i64 x.c.near) ∧ w'.cell? ⟨w.heap.size, 6, none⟩ = some (.int .i64 x.c.sets) ∧ w'.cell? ⟨w.heap.size, 7, none⟩ = some (.slice l.s.wa l.s.wl l.s.wc) ∧ w'.cell? ⟨w.heap.size, 8, none⟩ = some (.int .i64 x.c.slot) ∧ w'.cell? ⟨w.heap.size, 9, none⟩ = some (.slice l.s.sa l.s.sl l.s.sc) ∧ w'.cell? ⟨w.heap.size, 10, none⟩ = some (.slice l.s.ta l.s.tl l.s.tc) ∧ w'.cell? ⟨w.heap.size, 11, none⟩ = some (.int .i64 x.c.quantum) ∧ w'.cell? ⟨w.heap.size, 12, none⟩ = some (.int .i64 x.c.flush) ∧ w'.cell? ⟨w.heap.size, 13, none⟩ = some (.slice l.pa l.pl l.pc) ∧ w'.cell? ⟨w.heap.size, 14, none⟩ = some (.slice l.oa l.ol l.oc) ∧ w'.cell? ⟨w.heap.size, 15, none⟩ = some (.slice l.ma l.ml l.mc) ∧ w'.cell? ⟨w.heap.size, 16, none⟩ = some (.slice l.ra l.rl l.rc)) (first | exact ⟨f3, g0, g1, g2, g3, g4, g5, ts17 S3.box⟩ | go_keep) (first
        | (go_at_call 37; refine (HI.out _ (by exact HBW.out.drew)).mono ?_; rintro r w3 ⟨rfl, hb3⟩; have b3 : Below w2.heap.size w2 w3 := (below_step ((Below.refl _ _).drew) hb3 rfl); have S3 : TS w w3 x l (w.heap.size + 1) nc (fun k => freeOf k (es.take i)) := (TS.below HS2.out b3); have RE3 : Row w3 wr.heap.size [.int .i64 k, .int .i64 vi, .int .i64 vv, .int .i64 vf, .int .i64 vis, .int .i64 vdn] 88 := (Row.below HRE.out b3 le2); have f3 : w3.cell? ⟨w.heap.size + 1, k, none⟩ = some (.int .i64 fr) := ((b3.cell (p := ⟨w.heap.size + 1, k, none⟩) lf2).trans f2); obtain ⟨g0, g1, g2, g3, g4, g5⟩ := ev_cells RE3))
      all_goals
        have HS3 : Hid _ := S3
        have HRE3 : Hid (Row w3 wr.heap.size [.int .i64 k, .int .i64 vi, .int .i64 vv, .int .i64 vf, .int .i64 vis, .int .i64 vdn] 88) := RE3
        have hrow := S3.box
        have hNe := HN.out w3 S3.bel
        have le3 := RE3.lt
        clear x0 x1 x2 x3 x4 x5 x6 x7 x8 x9 x10 x11 x12 x13 x14 x15 x16 v0 v1 v2 v3 v4 v5 c0 c1 c2 c3 c4 c5 f2 b3 hb3 S3 RE3 f3 g0 g1 g2 g3 g4 g5
      all_goals go_wp2_with (refine wpList_load_row (by rfl) 33 (.tmp 4) (by rfl) w.heap.size (by rfl) 33 (csL x l).toArray (0, 0) _ hrow Tryz.underlying33 (by rfl) (size_case x l) ?_)
      all_goals
        refine hNe.mono ?_; rintro r w4 ⟨rfl, hb4⟩
        have S4 := HS3.out.below hb4
        have RE4 : Row w4 wr.heap.size [.int .i64 k, .int .i64 vi, .int .i64 vv, .int .i64 vf, .int .i64 vis, .int .i64 vdn] 88 := Row.below HRE3.out hb4 le3
        have f4 : w4.cell? ⟨w.heap.size + 1, k, none⟩ = some (.int .i64 fr) := by rw [S4.fr.cell, flT_at hk2, hfr]
        have z4 : w4.frozen? ⟨w.heap.size + 1, k, none⟩ = false := S4.fr.frozen k
        obtain ⟨g0, _, _, _, _, g5⟩ := ev_cells RE4
        have HS5 : Hid (TS w (w4.setCell ⟨w.heap.size + 1, k, none⟩ (.int .i64 (vdn + 1))) x l (w.heap.size + 1) nc (fun j => freeOf j (es.take (i + 1)))) := by unfold Hid; rw [← HFN.out]; exact S4.set (by omega) k (vdn + 1)
        have le4 := RE4.lt
        have lf4 := S4.fr.lt
        have HRE5 : Hid (Row (w4.setCell ⟨w.heap.size + 1, k, none⟩ (.int .i64 (vdn + 1))) wr.heap.size [.int .i64 k, .int .i64 vi, .int .i64 vv, .int .i64 vf, .int .i64 vis, .int .i64 vdn] 88) := Row.setCellOther (g := w.heap.size + 1) RE4 k _ (by omega)
        have hwd : IntKind.i64.wrap (vdn + 1) = vdn + 1 := by rw [IntKind.wrap_i64]; omega
        clear hNe hrow hb4 S4 RE4
      all_goals
        obtain ⟨w5, hw5⟩ : ∃ w5, w4.setCell ⟨w.heap.size + 1, k, none⟩ (.int .i64 (vdn + 1)) = w5 := ⟨_, rfl⟩
        rw [hw5] at HS5 HRE5
        have HW5 : Hid _ := hw5
        clear hw5
      all_goals rcases Nat.eq_zero_or_pos i with hi0 | hip
      · subst hi0
        go_wp2_with fail
        go_roundw
        case rel => exact ⟨0 + 1, by omega, by go_num, by rw [HW5.out]; exact HS5.out⟩
        case measure => simp [intOf]; omega
      · obtain ⟨j, rfl⟩ : ∃ j, i = j + 1 := ⟨i - 1, by omega⟩
        have hbh := HBI.out hip
        rw [Nat.add_sub_cancel] at hbh
        have S5 := HS5.out
        unfold Hid at S5
        obtain ⟨eb', eoff', hsa', c0, c1, c2, c3, c4, c5⟩ := (HE.out.below S5.bel (Nat.le_refl _)).hat j (by omega)
        simp only [Option.some.injEq, Addr.mk.injEq, and_true] at hsa'
        obtain ⟨rfl, rfl⟩ := hsa'
        obtain ⟨u, hu⟩ : ∃ u, es.getD j evZ = u := ⟨_, rfl⟩
        rw [hu] at c0 c1 c2 c3 c4 c5 hbh
        have HBH : Hid _ := fun W => kbehind_any _ _ W hbh
        obtain ⟨uc, ui, uv, uf, uis, udn⟩ := u
        simp only at c0 c1 c2 c3 c4 c5
        have RE5 : Row w5 wr.heap.size [.int .i64 k, .int .i64 vi, .int .i64 vv, .int .i64 vf, .int .i64 vis, .int .i64 vdn] 88 := HRE5.out
        have le5 := RE5.lt
        have lE5 := cell_lt c0
        have hj0 : (0 : Int) ≤ (j : Int) := by omega
        have hj1 : (j : Int) < (len : Int) := by omega
        have hwj : IntKind.i64.wrap (j : Int) = (j : Int) := by rw [IntKind.wrap_i64]; omega
        have hwj2 : IntKind.i64.wrap ((j : Int) + 1 - 1) = (j : Int) := by rw [IntKind.wrap_i64]; omega
        have HU6 : Hid (∀ W, Below w5.heap.size w5 W → W.cell? ⟨eb, eoff + j * 6, none⟩ = some (.int .i64 uc) ∧ W.cell? ⟨eb, eoff + j * 6 + 1, none⟩ = some (.int .i64 ui) ∧ W.cell? ⟨eb, eoff + j * 6 + 2, none⟩ = some (.int .i64 uv) ∧ W.cell? ⟨eb, eoff + j * 6 + 3, none⟩ = some (.int .i64 uf) ∧ W.cell? ⟨eb, eoff + j * 6 + 4, none⟩ = some (.int .i64 uis) ∧ W.cell? ⟨eb, eoff + j * 6 + 5, none⟩ = some (.int .i64 udn)) := fun W hb => ⟨(hb.cell (p := ⟨eb, eoff + j * 6, none⟩) lE5).trans c0, (hb.cell (p := ⟨eb, eoff + j * 6 + 1, none⟩) lE5).trans c1, (hb.cell (p := ⟨eb, eoff + j * 6 + 2, none⟩) lE5).trans c2, (hb.cell (p := ⟨eb, eoff + j * 6 + 3, none⟩) lE5).trans c3, (hb.cell (p := ⟨eb, eoff + j * 6 + 4, none⟩) lE5).trans c4, (hb.cell (p := ⟨eb, eoff + j * 6 + 5, none⟩) lE5).trans c5⟩
        clear hbh hu S5
        go_wp2_with fail
        rw [HW5.out]
        clear g0 g5 f4 z4
        obtain ⟨v0, v1, v2, v3, v4, v5⟩ := ev_cells RE5
        clear RE5
        go_region_held3 (fun w' => w'.cell? ⟨eb, eoff + j * 6, none⟩ = some (.int .i64 uc) ∧ w'.cell? ⟨eb, eoff + j * 6 + 1, none⟩ = some (.int .i64 ui) ∧ w'.cell? ⟨eb, eoff + j * 6 + 2, none⟩ = some (.int .i64 uv) ∧ w'.cell? ⟨eb, eoff + j * 6 + 3, none⟩ = some (.int .i64 uf) ∧ w'.cell? ⟨eb, eoff + j * 6 + 4, none⟩ = some (.int .i64 uis) ∧ w'.cell? ⟨eb, eoff + j * 6 + 5, none⟩ = some (.int .i64 udn) ∧ w'.cell? ⟨wr.heap.size, 0, none⟩ = some (.int .i64 k) ∧ w'.cell? ⟨wr.heap.size, 1, none⟩ = some (.int .i64 vi) ∧ w'.cell? ⟨wr.heap.size, 2, none⟩ = some (.int .i64 vv) ∧ w'.cell? ⟨wr.heap.size, 3, none⟩ = some (.int .i64 vf) ∧ w'.cell? ⟨wr.heap.size, 4, none⟩ = some (.int .i64 vis) ∧ w'.cell? ⟨wr.heap.size, 5, none⟩ = some (.int .i64 vdn)) (first | exact ⟨h0, h1, h2, h3, h4, h5, g0, g1, g2, g3, g4, g5⟩ | go_keep) (first
          | (go_at_call 39; refine (HBH.out _).mono ?_; rintro r w6 ⟨rfl, hb6⟩; have b6 : Below w5.heap.size w5 w6 := (below_step ((Below.refl _ _).drew) hb6 rfl); have RE6 : Row w6 wr.heap.size [.int .i64 k, .int .i64 vi, .int .i64 vv, .int .i64 vf, .int .i64 vis, .int .i64 vdn] 88 := (Row.below HRE5.out b6 le5); obtain ⟨g0, g1, g2, g3, g4, g5⟩ := ev_cells RE6; obtain ⟨h0, h1, h2, h3, h4, h5⟩ := HU6.out w6 b6))
        all_goals
          have HS6 : Hid _ := TS.below HS5.out b6
          clear c0 c1 c2 c3 c4 c5 v0 v1 v2 v3 v4 v5 b6 hb6 RE6 g0 g1 g2 g3 g4 g5 h0 h1 h2 h3 h4 h5
        all_goals go_wp2_with fail
        all_goals go_roundw
        all_goals try (case rel => exact ⟨j + 1 + 1, by omega, by go_num, HS6.out⟩)
        all_goals try (case measure => simp [intOf]; omega)
    · clear S
      go_wp2
      go_ret
      exact ⟨rfl, HS.out.bel⟩
end Go.Proofs.YtcmcfafhllpojaaGreat
