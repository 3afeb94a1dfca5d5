/-
  Step, Plan, Step2, Plays, PlaysZ, Step3
-/
import Derived.Test.YtehheaedbnfidaaGreatClPackBC
import Derived.Test.YtehheaedbnfidaaGreatClPackA
import Derived.Test.YtehheaedbnfidaaGreatClPackBB
import Derived.Test.YtehheaedbnfidaaGreatClPackAU
import Derived.Test.YtehheaedbnfidaaGreatClPackJ
import Derived.Deep.RegionHeld3
import Derived.Deep.DrawnRows
namespace Go.Proofs.YtehheaedbnfidaaGreat
open Go.RowKit

def pickZ (c n : Int) : Int := (if c < 0 then -(c + 1) else c) % n

theorem pickZ_bd (c n : Int) (hn : 0 < n) : 0 ≤ pickZ c n ∧ pickZ c n < n := by
  unfold pickZ
  exact ⟨Int.emod_nonneg _ (by omega), Int.emod_lt_of_pos _ hn⟩

set_option maxRecDepth 100000 in
set_option maxHeartbeats 400000 in
theorem pick_any (c n : Int) (w : World) (h1 : -9223372036854775808 ≤ c) (h2 : c ≤ 9223372036854775807) (hn : 0 < n) (hn2 : n ≤ 9223372036854775807) :
    Calls Tryz.prog 13 #[.int .i64 c, .int .i64 n] w fun e w' => e = .returned (.int .i64 (pickZ c n)) ∧ w' = w := by
  have hn0 : ¬ n = 0 := by omega
  by_cases hc : c < 0
  · have g1 : 0 ≤ -(c + 1) := by omega
    go_enter Tryz.func13, Tryz.ntmps13
    go_wp2
    go_ret
    refine ⟨ret_int ?_, rfl⟩
    rw [pickZ, if_pos hc, ← Int.tmod_eq_emod_of_nonneg g1, Int.neg_tmod]
  · have g1 : 0 ≤ c := by omega
    go_enter Tryz.func13, Tryz.ntmps13
    go_wp2
    go_ret
    refine ⟨ret_int ?_, rfl⟩
    rw [pickZ, if_neg (by omega)]

set_option maxHeartbeats 400000 in
theorem among_any (sa : Option Addr) (len cap : Nat) (xs : List Int) (x : Int) (w : World) (h : Ints w sa len cap xs) :
    Calls Tryz.prog 8 #[.slice sa len cap, .int .i64 x] w fun e w' => e = .returned (.bool (xs.contains x)) ∧ w' = w := by
  have hle := h.hle
  have hm := h.hmax
  unfold maxLen at hm
  have HL : Hid (xs.length = len) := h.hlen
  go_enter Tryz.func8, Tryz.ntmps8
  go_wp2
  go_loop [5] (fun i => ∃ k : Nat, k ≤ len ∧ i = .int .i64 k ∧ (xs.take k).contains x = false) (fun i => len - (intOf i).toNat)
  case atStart => exact ⟨0, Nat.zero_le _, rfl, rfl⟩
  case round =>
    obtain ⟨k, hk, rfl, hall⟩ := hrel
    have HA : Hid _ := hall
    clear hall
    by_cases hlt : k < len
    · obtain ⟨b, off, rfl, hc⟩ := h.hat k hlt
      have hlt' : k < xs.length := by rw [HL.out]; exact hlt
      have hy : xs.getD k 0 = xs[k] := by simp [List.getD, hlt']
      have HY : Hid _ := hy
      rw [hy] at hc
      clear hy
      rcases Bool.eq_false_or_eq_true (xs[k] == x) with hx | hx
      · go_wp2
        go_ret
        refine ⟨ret_bool ?_, rfl⟩
        have e : xs[k] = x := by simpa using hx
        symm
        rw [decide_eq_true_iff, ← e]
        exact List.getElem_mem hlt'
      · go_wp2
        go_round
        case rel =>
          refine ⟨k + 1, by omega, by go_num, ?_⟩
          have h1 := HA.out
          have e : ¬ xs[k] = x := by simpa using hx
          rw [List.take_succ_eq_append_getElem hlt']
          simp only [List.contains_eq_mem, List.mem_append, decide_eq_false_iff_not] at h1 ⊢
          simp only [List.mem_cons, List.not_mem_nil, or_false]
          intro h2
          rcases h2 with h2 | h2
          · exact h1 h2
          · exact e h2.symm
        case measure => simp [intOf]; omega
    · go_wp2
      go_ret
      refine ⟨ret_bool ?_, rfl⟩
      have h1 := HA.out
      rw [List.take_of_length_le (by rw [HL.out]; omega)] at h1
      rw [← List.contains_eq_mem]
      exact h1.symm

set_option maxRecDepth 100000 in
set_option maxHeartbeats 400000 in
theorem looks_none (gw base : Nat) (o : Own) (m : Value) (ts : List Int) (os : List (Int × Int × Int)) (w : World) (h : WSt w gw base o m (.slice none 0 0) (.slice none 0 0) (.slice none 0 0) ts os) :
    Calls Tryz.prog 10 #[.pointer (some ⟨gw, 0, none⟩)] w fun x w' => x = .returned (.bool true) ∧ w' = w := by
  have c4 : w.cell? ⟨gw, 4, none⟩ = some (.slice none 0 0) := by rw [h.row.cell]; rfl
  have c5 : w.cell? ⟨gw, 5, none⟩ = some (.slice none 0 0) := by rw [h.row.cell]; rfl
  have c6 : w.cell? ⟨gw, 6, none⟩ = some (.slice none 0 0) := by rw [h.row.cell]; rfl
  go_enter Tryz.func10, Tryz.ntmps10
  go_wp2
  refine wp_loop_rounds 1 ?_
  rw [rounds_succ]
  go_wp2
  refine wp_loop_rounds 1 ?_
  rw [rounds_succ]
  go_wp2
  refine wp_loop_rounds 1 ?_
  rw [rounds_succ]
  go_wp2
  go_ret
  exact ⟨rfl, rfl⟩
end Go.Proofs.YtehheaedbnfidaaGreat

namespace Go.Proofs.YtehheaedbnfidaaGreat
open Go.RowKit
attribute [local go_sem] Tryz.nilInts Tryz.nilGrid

set_option maxRecDepth 100000 in
set_option maxHeartbeats 2000000 in
theorem plan_check (c : Cf) (s : Sl) (o : St) (w : World) (h : CfgAt w c s) (hc : CfR c) (hk : o.k = 5) :
    Calls Tryz.prog 15 #[cfgV c s, opV o] w fun e w' => e = .returned (.bool true) ∧ Below w.heap.size w w' := by
  obtain ⟨k, a, b, cc, d⟩ := o
  simp only at hk
  subst hk
  have bW : Below w.heap.size w ((w.alloc (.cells (cfgA c s) 43)).alloc (.cells (opA ⟨5, a, b, cc, d⟩) 36)) := ((Below.refl _ _).alloc (Nat.le_refl _) _).alloc (by simp) _
  have rC : Row ((w.alloc (.cells (cfgA c s) 43)).alloc (.cells (opA ⟨5, a, b, cc, d⟩) 36)) w.heap.size (cfgL c s) 43 := by
    have : Row (w.alloc (.cells (cfgA c s) 43)) w.heap.size (cfgL c s) 43 := heap_alloc_new w _
    exact this.alloc _
  have rO : Row ((w.alloc (.cells (cfgA c s) 43)).alloc (.cells (opA ⟨5, a, b, cc, d⟩) 36)) (w.heap.size + 1) [.int .i64 5, .int .i64 a, .int .i64 b, .int .i64 cc, .int .i64 d] 36 := by
    have := heap_alloc_new (w.alloc (.cells (cfgA c s) 43)) (.cells (opA ⟨5, a, b, cc, d⟩) 36)
    rw [World.size_alloc] at this
    exact this
  have hW := h.below bW (Nat.le_refl _)
  go_enter Tryz.func15, Tryz.ntmps15
  go_wp2_with fail
  have sW : ((w.alloc (.cells (cfgA c s) 43)).alloc (.cells (opA ⟨5, a, b, cc, d⟩) 36)).heap.size = w.heap.size + 2 := by simp
  generalize (w.alloc (.cells (cfgA c s) 43)).alloc (.cells (opA ⟨5, a, b, cc, d⟩) 36) = W at *
  have SW : Hid _ := sW
  clear sW
  refine (lent_any c s W hW hc).mono ?_
  rintro e w1 ⟨s1, ma, ml, mc, rfl, b1, l1⟩
  have q1 := row_q (rC.below b1 rC.lt)
  have q2 := row_q (rO.below b1 rO.lt)
  have z2 : w.heap.size + 1 < w1.heap.size := by have := b1.size; have := SW.out; omega
  have z1 : w.heap.size < w1.heap.size := by omega
  have B1 : Hid _ := b1
  have L1 : Hid _ := l1
  clear b1 l1
  go_wp2_with fail
  have bX : Below w1.heap.size w1 (w1.alloc (.cells (cfgA c s1) 43)) := (Below.refl _ _).alloc (Nat.le_refl _) _
  have lX := LentC.same L1.out bX
  have rC2 := (rC.below B1.out rC.lt).alloc (.cells (cfgA c s1) 43)
  have rL2 : Row (w1.alloc (.cells (cfgA c s1) 43)) w1.heap.size (cfgL c s1) 43 := heap_alloc_new w1 _
  have bWX := below_step B1.out bX rfl
  clear q1 q2 bX
  generalize w1.alloc (.cells (cfgA c s1) 43) = w2 at *
  refine (Check_any c s1 w2 (lX.reads hW hc)).mono ?_
  rintro e w3 ⟨rfl, b3⟩
  have rC3 := rC2.below b3 rC2.lt
  have rL3 := rL2.below b3 rL2.lt
  have l3 := lX.same b3
  have bW3 := below_step bWX b3 rfl
  have q1 := row_q rC3
  have q2 := row_q rL3
  clear b3 rC2 rL2 lX bWX
  go_wp2_with fail
  refine (rcheck_any c s w3 (hW.below bW3 (Nat.le_refl _))).mono ?_
  rintro e w4 ⟨rfl, b4⟩
  have rC4 := rC3.below b4 rC3.lt
  have rL4 := rL3.below b4 rL3.lt
  have l4 := l3.same b4
  have bW4 := below_step bW3 b4 rfl
  clear q1 q2
  have q1 := row_q rC4
  have q2 := row_q rL4
  clear b4 rC3 rL3 l3 bW3
  have he : (chk c == chk c) = true := by simp
  go_wp2_with fail
  refine (whole_any W w4 c s s1 ma ml mc hW hc bW4 l4).mono ?_
  rintro e w5 ⟨rfl, b5⟩
  clear q1 q2
  go_wp2
  go_ret
  exact ⟨rfl, bW.trans ((bW4.trans b5).mono bW.size)⟩
end Go.Proofs.YtehheaedbnfidaaGreat

namespace Go.Proofs.YtehheaedbnfidaaGreat
open Go.RowKit
attribute [local go_sem ↓] Go.wp_at_zero Go.wp_at_succ

/-- A list of configurations. -/
structure CsAt (w : World) (ca : Option Addr) (cl cc : Nat) (cfs : Nat → Cf) : Prop where
  hle : cl ≤ cc
  hmax : cc * 152 ≤ 140737488351232
  hat : ∀ j, j < cl → ∃ b off s, ca = some ⟨b, off, none⟩ ∧ (∀ i, i < 13 → w.cell? ⟨b, off + j * 13 + i, none⟩ = (cfgA (cfs j) s)[i]?) ∧ CfgAt w (cfs j) s ∧ CfR (cfs j)

theorem CsAt.below {w w' : World} {ca : Option Addr} {cl cc n : Nat} {cfs : Nat → Cf} (h : CsAt w ca cl cc cfs) (hb : Below n w w') (hn : w.heap.size ≤ n) : CsAt w' ca cl cc cfs := by
  refine ⟨h.hle, h.hmax, fun j hj => ?_⟩
  obtain ⟨b, off, s, h1, h2, h3, h4⟩ := h.hat j hj
  refine ⟨b, off, s, h1, fun i hi => ?_, h3.below hb hn, h4⟩
  rw [← h2 i hi]
  have e := h2 0 (by omega)
  have := cell_lt (w := w) (a := ⟨b, off + j * 13 + 0, none⟩) (v := .int .i64 (cfs j).cores) (by rw [e]; rfl)
  exact hb.cell (p := ⟨b, off + j * 13 + i, none⟩) (by simp only [] at this ⊢; omega)

structure StR (o : St) : Prop where
  k1 : -9223372036854775808 ≤ o.k
  k2 : o.k ≤ 9223372036854775807
  a1 : -9223372036854775808 ≤ o.a
  a2 : o.a ≤ 9223372036854775807

set_option maxRecDepth 100000 in
set_option maxHeartbeats 3200000 in
theorem step_plan (gw base : Nat) (o : Own) (m e p b : Value) (ts : List Int) (os : List (Int × Int × Int)) (st : St) (w : World) (h : WSt w gw base o m e p b ts os) (hr : StR st) (cfs : Nat → Cf) (hcs : CsAt w o.ca o.cl o.cc cfs)
    (hk1 : 5 ≤ st.k) (hk2 : st.k ≤ 9) (hpos : 0 < o.cl)
    (hplan : ∀ (c : Cf) (s : Sl) (w : World), CfgAt w c s → CfR c → Calls Tryz.prog 15 #[cfgV c s, opV st] w fun e w' => e = .returned (.bool true) ∧ Below w.heap.size w w') :
    Calls Tryz.prog 9 #[.pointer (some ⟨gw, 0, none⟩), opV st] w fun x w' => x = .returned (.bool true) ∧ Below w.heap.size w w' := by
  have HP : Hid _ := hplan
  clear hplan
  obtain ⟨k, a, bb, cc, dd⟩ := st
  obtain ⟨ca, cl, ccap, ta, tl, tc, oa, ol, oc⟩ := o
  simp only at hk1 hk2
  have bW : Below w.heap.size w (w.alloc (.cells (opA ⟨k, a, bb, cc, dd⟩) 36)) := (Below.refl _ _).alloc (Nat.le_refl _) _
  have rO : Row (w.alloc (.cells (opA ⟨k, a, bb, cc, dd⟩) 36)) w.heap.size [.int .i64 k, .int .i64 a, .int .i64 bb, .int .i64 cc, .int .i64 dd] 36 := heap_alloc_new w _
  have hW := h.below bW rfl
  have n10 : (k == 10) = false := by simp; omega
  have n11 : (k == 11) = false := by simp; omega
  have n5 : decide (k < 5) = false := by simp; omega
  have n20 : decide (20 < k) = false := by simp; omega
  go_enter Tryz.func9, Tryz.ntmps9
  go_wp2_with fail
  refine (owner_other gw ⟨k, a, bb, cc, dd⟩ _ (by simp only []; omega)).mono ?_
  rintro x w1 ⟨rfl, b1⟩
  have h1 := hW.below b1 rfl
  have rO1 := rO.below b1 rO.lt
  have bW1 := below_step bW b1 rfl
  have hc1 := hcs.below bW1 (Nat.le_refl _)
  have q1 : ∀ i, w1.cell? ⟨w.heap.size, i, none⟩ = (opA ⟨k, a, bb, cc, dd⟩)[i]? := fun i => by rw [rO1.cell]; simp
  have c0 : w1.cell? ⟨gw, 0, none⟩ = some (.slice ca cl ccap) := by rw [h1.row.cell]; rfl
  have ncl : ((cl : Int) == 0) = false := by simp; exact Nat.pos_iff_ne_zero.1 hpos
  clear b1 bW hW rO
  have hpos' : 0 < cl := hpos
  have hcc := hc1.hmax
  have hcl := hc1.hle
  have pb := pickZ_bd a cl (by omega)
  obtain ⟨j, hj⟩ := Int.eq_ofNat_of_zero_le pb.1
  have hjl : j < cl := by have := pb.2; omega
  have hpick : ∀ w : World, Calls Tryz.prog 13 #[.int .i64 a, .int .i64 cl] w fun e w' => e = .returned (.int .i64 (j : Int)) ∧ w' = w := fun w => by
    have := pick_any a cl w hr.a1 hr.a2 (by omega) (by omega)
    rw [hj] at this
    exact this
  have HK : Hid _ := hpick
  obtain ⟨cb, coff, s, hca, hcells, hcfg, hcfr⟩ := hc1.hat j hjl
  subst hca
  have e0 := hcells 0 (by omega)
  have e1 := hcells 1 (by omega)
  have e2 := hcells 2 (by omega)
  have e3 := hcells 3 (by omega)
  have e4 := hcells 4 (by omega)
  have e5 := hcells 5 (by omega)
  have e6 := hcells 6 (by omega)
  have e7 := hcells 7 (by omega)
  have e8 := hcells 8 (by omega)
  have e9 := hcells 9 (by omega)
  have e10 := hcells 10 (by omega)
  have e11 := hcells 11 (by omega)
  have e12 := hcells 12 (by omega)
  simp only [cfgA, Nat.add_zero] at e0 e1 e2 e3 e4 e5 e6 e7 e8 e9 e10 e11 e12
  have c1 : w1.cell? ⟨w.heap.size, 1, none⟩ = some (.int .i64 a) := q1 1
  have hj0 : (0 : Int) ≤ (j : Int) := by omega
  have hj1 : (j : Int) < (cl : Int) := by omega
  have nw := h1.row.lt
  clear hpick hj pb hcells
  go_wp2_with fail
  go_region_held3 (fun w' => w'.cell? ⟨gw, 0, none⟩ = some (.slice (some ⟨cb, coff, none⟩) cl ccap) ∧ w'.cell? ⟨w.heap.size, 1, none⟩ = some (.int .i64 a) ∧ w'.cell? ⟨cb, coff + j * 13, none⟩ = some (.int .i64 (cfs j).cores) ∧ w'.cell? ⟨cb, coff + j * 13 + 1, none⟩ = some (.int .i64 (cfs j).domains) ∧ w'.cell? ⟨cb, coff + j * 13 + 2, none⟩ = some (.int .i64 (cfs j).line) ∧ w'.cell? ⟨cb, coff + j * 13 + 3, none⟩ = some (.int .i64 (cfs j).priv) ∧ w'.cell? ⟨cb, coff + j * 13 + 4, none⟩ = some (.int .i64 (cfs j).shared) ∧ w'.cell? ⟨cb, coff + j * 13 + 5, none⟩ = some (.int .i64 (cfs j).near) ∧ w'.cell? ⟨cb, coff + j * 13 + 6, none⟩ = some (.int .i64 (cfs j).sets) ∧ w'.cell? ⟨cb, coff + j * 13 + 7, none⟩ = some (.slice s.wa s.wl s.wc) ∧ w'.cell? ⟨cb, coff + j * 13 + 8, none⟩ = some (.int .i64 (cfs j).slot) ∧ w'.cell? ⟨cb, coff + j * 13 + 9, none⟩ = some (.slice s.sa s.sl s.sc) ∧ w'.cell? ⟨cb, coff + j * 13 + 10, none⟩ = some (.slice s.ta s.tl s.tc) ∧ w'.cell? ⟨cb, coff + j * 13 + 11, none⟩ = some (.int .i64 (cfs j).quantum) ∧ w'.cell? ⟨cb, coff + j * 13 + 12, none⟩ = some (.int .i64 (cfs j).flush)) (go_keep) (first | (go_at_call 13; refine (HK.out _).mono ?_; rintro e w' ⟨rfl, rfl⟩))
  all_goals
    have bX : Below w1.heap.size w1 (w1.alloc (.cells (cfgA (cfs j) s) 43)).drew := ((Below.refl _ _).alloc (Nat.le_refl _) _).drew
    have rC : Row (w1.alloc (.cells (cfgA (cfs j) s) 43)).drew w1.heap.size (cfgL (cfs j) s) 43 := heap_alloc_new w1 _
    have rO2 := rO1.below bX rO1.lt
    have hcfg2 := hcfg.below bX (Nat.le_refl _)
    have bW2 := below_step bW1 bX rfl
    clear e0 e1 e2 e3 e4 e5 e6 e7 e8 e9 e10 e11 e12 c0 c1 q1 bX
    generalize (w1.alloc (.cells (cfgA (cfs j) s) 43)).drew = w2 at *
    have q1 := row_q rC
    have q2 := row_q rO2
    go_wp2_with fail
    refine (HP.out (cfs j) s w2 hcfg2 hcfr).mono ?_
    rintro x w3 ⟨rfl, b3⟩
    go_wp2
    go_ret
    exact ⟨rfl, below_step bW2 b3 rfl⟩
end Go.Proofs.YtehheaedbnfidaaGreat

namespace Go.Proofs.YtehheaedbnfidaaGreat
open Go.RowKit

/-- A script. -/
structure ScAt (w : World) (sa : Option Addr) (sl sc : Nat) (sts : Nat → St) : Prop where
  hle : sl ≤ sc
  hmax : sc * 40 ≤ 140737488351232
  hat : ∀ j, j < sl → ∃ b off, sa = some ⟨b, off, none⟩ ∧ (∀ i, i < 5 → w.cell? ⟨b, off + j * 5 + i, none⟩ = (opA (sts j))[i]?) ∧ StR (sts j)

theorem ScAt.below {w w' : World} {ca : Option Addr} {cl cc n : Nat} {cfs : Nat → St} (h : ScAt w ca cl cc cfs) (hb : Below n w w') (hn : w.heap.size ≤ n) : ScAt w' ca cl cc cfs := by
  refine ⟨h.hle, h.hmax, fun j hj => ?_⟩
  obtain ⟨b, off, h1, h2, h3⟩ := h.hat j hj
  refine ⟨b, off, h1, fun i hi => ?_, h3⟩
  rw [← h2 i hi]
  have e := h2 0 (by omega)
  have := cell_lt (w := w) (a := ⟨b, off + j * 5 + 0, none⟩) (v := .int .i64 (cfs j).k) (by rw [e]; rfl)
  exact hb.cell (p := ⟨b, off + j * 5 + i, none⟩) (by simp only [] at this ⊢; omega)

set_option maxRecDepth 100000 in
set_option maxHeartbeats 3200000 in
theorem plays_any (w : World) (ca : Option Addr) (cl cc : Nat) (sa : Option Addr) (sl sc : Nat) (sts : Nat → St) (pa : Option Addr) (pl pc : Nat) (ps : List Int) (ha : Option Addr) (hl hc : Nat) (hs : List Int)
    (h1 : ScAt w sa sl sc sts) (h2 : Ints w pa pl pc ps) (h3 : Ints w ha hl hc hs) (I : Nat → World → Prop)
    (i0 : I 0 (w.alloc (.cells #[.slice ca cl cc, .slice none 0 0, .slice none 0 0, .slice none 0 0, .slice none 0 0, .slice none 0 0, .slice none 0 0] 34)))
    (ib : ∀ i wr, I i wr → Below w.heap.size w wr) (ik : ∀ i wr w', I i wr → Below wr.heap.size wr w' → I i w') (is : ∀ i wr, I i wr → I (i + 1) wr)
    (hstep : ∀ i wr, i < sl → ((sts i).k < 5 ∨ ps.contains (sts i).k = true) → I i wr → Calls Tryz.prog 9 #[.pointer (some ⟨w.heap.size, 0, none⟩), opV (sts i)] wr fun x w' => x = .returned (.bool true) ∧ I (i + 1) w' ∧ KeepO wr w')
    (hlooks : ∀ i wr, I i wr → Calls Tryz.prog 10 #[.pointer (some ⟨w.heap.size, 0, none⟩)] wr fun x w' => x = .returned (.bool true) ∧ I i w' ∧ KeepO wr w') :
    Calls Tryz.prog 7 #[.slice ca cl cc, .slice sa sl sc, .slice pa pl pc, .slice ha hl hc] w fun x w' => x = .returned (.bool true) ∧ Below w.heap.size w w' := by
  have hsl := h1.hle
  have hsm := h1.hmax
  have IB : Hid _ := ib
  have IK : Hid _ := ik
  have IS : Hid _ := is
  have HS : Hid _ := hstep
  have HL : Hid _ := hlooks
  have I0 : Hid _ := i0
  clear ib ik is hstep hlooks i0
  go_enter Tryz.func7, Tryz.ntmps7
  go_wp2
  go_loopw [10] (fun i wr => ∃ k : Nat, k ≤ sl ∧ i = .int .i64 k ∧ I k wr) (fun i _ => sl - (intOf i).toNat)
  case atStart => exact ⟨0, by omega, rfl, I0.out⟩
  case round =>
    obtain ⟨k, hk, rfl, hI⟩ := hrel
    have HI : Hid _ := hI
    clear hI
    have bw := IB.out k wr HI.out
    by_cases hlt : k < sl
    · obtain ⟨sb, soff, rfl, hcells, hstr⟩ := h1.hat k hlt
      have e0 := (h1.below bw (Nat.le_refl _)).hat k hlt
      obtain ⟨b', off', hb', hcells', _⟩ := e0
      simp only [Option.some.injEq, Addr.mk.injEq, and_true] at hb'
      obtain ⟨rfl, rfl⟩ := hb'
      have e0 := hcells' 0 (by omega)
      have e1 := hcells' 1 (by omega)
      have e2 := hcells' 2 (by omega)
      have e3 := hcells' 3 (by omega)
      have e4 := hcells' 4 (by omega)
      simp only [opA, Nat.add_zero] at e0 e1 e2 e3 e4
      clear hcells hcells'
      have HSk := HS.out k
      have HSK : Hid _ := HSk
      clear HSk
      have hk60 : (k : Int) < 1152921504606846976 := by omega
      generalize sts k = st at *
      go_wp2_with fail
      have bX : Below wr.heap.size wr (wr.alloc (.cells (opA st) 36)) := (Below.refl _ _).alloc (Nat.le_refl _) _
      have rO : Row (wr.alloc (.cells (opA st) 36)) wr.heap.size [.int .i64 st.k, .int .i64 st.a, .int .i64 st.b, .int .i64 st.c, .int .i64 st.d] 36 := heap_alloc_new wr _
      have IX := IK.out k wr _ HI.out bX
      have bW := below_step bw bX rfl
      clear e0 e1 e2 e3 e4 HI bX bw
      generalize wr.alloc (.cells (opA st) 36) = W at *
      have HX : Hid _ := IX
      clear IX
      have q1 := row_q rO
      refine (among_any _ _ _ ps _ _ (h2.below bW (Nat.le_refl _))).mono ?_
      rintro x w' ⟨rfl, rfl⟩
      by_cases hk5 : 5 ≤ st.k
      · rcases Bool.eq_false_or_eq_true (ps.contains st.k) with hp | hp
        · rw [hp]
          have HP : Hid _ := hp
          clear hp
          go_wp2_with fail
          refine (HSK.out _ hlt (Or.inr HP.out) HX.out).mono ?_
          rintro x w2 ⟨rfl, i2, k2⟩
          have I2 : Hid _ := i2
          have q2 := row_q (k2 _ _ rO)
          have rO2 := k2 _ _ rO
          have b2 := IB.out _ _ i2
          clear i2 k2 q1
          go_wp2_with fail
          refine (among_any _ _ _ hs _ _ (h3.below b2 (Nat.le_refl _))).mono ?_
          rintro x w' ⟨rfl, rfl⟩
          generalize hs.contains st.k = held
          go_wp2_with fail
          refine (HL.out _ _ I2.out).mono ?_
          rintro x w3 ⟨rfl, i3, k3⟩
          have I3 : Hid _ := i3
          clear i3 k3 q2
          go_wp2
          go_roundw
          case rel => exact ⟨k + 1, by omega, by go_num, I3.out⟩
          case measure => simp [intOf]; omega
        · rw [hp]
          have HP : Hid _ := hp
          clear hp
          go_wp2
          go_roundw
          case rel => exact ⟨k + 1, by omega, by go_num, IS.out _ _ HX.out⟩
          case measure => simp [intOf]; omega
      · generalize ps.contains st.k = hp at *
        have hk5' : st.k < 5 := by omega
        have hd : decide (5 ≤ st.k) = false := by simp; omega
        clear hk5
        go_wp2_with fail
        refine (HSK.out _ hlt (Or.inl (by omega)) HX.out).mono ?_
        rintro x w2 ⟨rfl, i2, k2⟩
        have I2 : Hid _ := i2
        have q2 := row_q (k2 _ _ rO)
        have b2 := IB.out _ _ i2
        clear i2 k2 q1
        go_wp2_with fail
        refine (among_any _ _ _ hs _ _ (h3.below b2 (Nat.le_refl _))).mono ?_
        rintro x w' ⟨rfl, rfl⟩
        generalize hs.contains st.k = held
        go_wp2_with fail
        refine (HL.out _ _ I2.out).mono ?_
        rintro x w3 ⟨rfl, i3, k3⟩
        have I3 : Hid _ := i3
        clear i3 k3 q2
        go_wp2
        go_roundw
        case rel => exact ⟨k + 1, by omega, by go_num, I3.out⟩
        case measure => simp [intOf]; omega
    · go_wp2
      go_ret
      exact ⟨rfl, bw⟩
end Go.Proofs.YtehheaedbnfidaaGreat

namespace Go.Proofs.YtehheaedbnfidaaGreat
open Go.RowKit

set_option maxRecDepth 100000 in
set_option maxHeartbeats 3200000 in
theorem playsZ_any (w : World) (ca : Option Addr) (cl cc : Nat) (sa : Option Addr) (sl sc : Nat) (sts : Nat → St) (pa : Option Addr) (pl pc : Nat) (ps : List Int) (ha : Option Addr) (hl hc : Nat) (hs : List Int)
    (h1 : ScAt w sa sl sc sts) (h2 : Ints w pa pl pc ps) (h3 : Ints w ha hl hc hs) (I : (Nat → Prop) → Nat → World → Prop)
    (i0 : ∃ Z, I Z 0 (w.alloc (.cells #[.slice ca cl cc, .slice none 0 0, .slice none 0 0, .slice none 0 0, .slice none 0 0, .slice none 0 0, .slice none 0 0] 34)))
    (ib : ∀ Z i wr, I Z i wr → Below w.heap.size w wr) (iz : ∀ Z i wr, I Z i wr → ∀ b, Z b → b < wr.heap.size) (ik : ∀ Z i wr w', I Z i wr → Below wr.heap.size wr w' → I Z i w') (is : ∀ Z i wr, I Z i wr → I Z (i + 1) wr)
    (hstep : ∀ Z i wr, i < sl → ((sts i).k < 5 ∨ ps.contains (sts i).k = true) → I Z i wr → Calls Tryz.prog 9 #[.pointer (some ⟨w.heap.size, 0, none⟩), opV (sts i)] wr fun x w' => x = .returned (.bool true) ∧ ∃ Z', I Z' (i + 1) w' ∧ Touch Z wr w' ∧ ∀ b, b < wr.heap.size → Z' b → Z b)
    (hlooks : ∀ Z i wr, i ≤ sl → I Z i wr → Calls Tryz.prog 10 #[.pointer (some ⟨w.heap.size, 0, none⟩)] wr fun x w' => x = .returned (.bool true) ∧ I Z i w' ∧ Below wr.heap.size wr w') :
    Calls Tryz.prog 7 #[.slice ca cl cc, .slice sa sl sc, .slice pa pl pc, .slice ha hl hc] w fun x w' => x = .returned (.bool true) ∧ Below w.heap.size w w' := by
  have hsl := h1.hle
  have hsm := h1.hmax
  have IB : Hid _ := ib
  have IK : Hid _ := ik
  have IS : Hid _ := is
  have IZ : Hid _ := iz
  have HS : Hid _ := hstep
  have HL : Hid _ := hlooks
  have I0 : Hid _ := i0
  clear ib iz ik is hstep hlooks i0
  go_enter Tryz.func7, Tryz.ntmps7
  go_wp2
  go_loopw [10] (fun i wr => ∃ (k : Nat) (Z : Nat → Prop), k ≤ sl ∧ i = .int .i64 k ∧ I Z k wr) (fun i _ => sl - (intOf i).toNat)
  case atStart =>
    obtain ⟨Z, hZ⟩ := I0.out
    exact ⟨0, Z, by omega, rfl, hZ⟩
  case round =>
    obtain ⟨k, Z, hk, rfl, hI⟩ := hrel
    have HI : Hid _ := hI
    clear hI
    have bw := IB.out Z k wr HI.out
    by_cases hlt : k < sl
    · obtain ⟨sb, soff, rfl, hcells, hstr⟩ := h1.hat k hlt
      have e0 := (h1.below bw (Nat.le_refl _)).hat k hlt
      obtain ⟨b', off', hb', hcells', _⟩ := e0
      simp only [Option.some.injEq, Addr.mk.injEq, and_true] at hb'
      obtain ⟨rfl, rfl⟩ := hb'
      have e0 := hcells' 0 (by omega)
      have e1 := hcells' 1 (by omega)
      have e2 := hcells' 2 (by omega)
      have e3 := hcells' 3 (by omega)
      have e4 := hcells' 4 (by omega)
      simp only [opA, Nat.add_zero] at e0 e1 e2 e3 e4
      clear hcells hcells'
      have HSk := HS.out Z k
      have HSK : Hid _ := HSk
      clear HSk
      have hk60 : (k : Int) < 1152921504606846976 := by omega
      generalize sts k = st at *
      go_wp2_with fail
      have bX : Below wr.heap.size wr (wr.alloc (.cells (opA st) 36)) := (Below.refl _ _).alloc (Nat.le_refl _) _
      have rO : Row (wr.alloc (.cells (opA st) 36)) wr.heap.size [.int .i64 st.k, .int .i64 st.a, .int .i64 st.b, .int .i64 st.c, .int .i64 st.d] 36 := heap_alloc_new wr _
      have IX := IK.out Z k wr _ HI.out bX
      have ZB : Hid (¬ Z wr.heap.size) := fun q => by have := IZ.out Z k wr HI.out _ q; omega
      have bW := below_step bw bX rfl
      clear e0 e1 e2 e3 e4 HI bX bw
      generalize wr.alloc (.cells (opA st) 36) = W at *
      have HX : Hid _ := IX
      clear IX
      have q1 := row_q rO
      refine (among_any _ _ _ ps _ _ (h2.below bW (Nat.le_refl _))).mono ?_
      rintro x w' ⟨rfl, rfl⟩
      by_cases hk5 : 5 ≤ st.k
      · rcases Bool.eq_false_or_eq_true (ps.contains st.k) with hp | hp
        · rw [hp]
          have HP : Hid _ := hp
          clear hp
          go_wp2_with fail
          refine (HSK.out _ hlt (Or.inr HP.out) HX.out).mono ?_
          rintro x w2 ⟨rfl, Z2, i2, k2, _⟩
          have I2 : Hid _ := i2
          have q2 := row_q (rO.same (k2.block _ rO.lt ZB.out))
          have b2 := IB.out _ _ _ i2
          clear i2 k2 q1
          go_wp2_with fail
          refine (among_any _ _ _ hs _ _ (h3.below b2 (Nat.le_refl _))).mono ?_
          rintro x w' ⟨rfl, rfl⟩
          generalize hs.contains st.k = held
          go_wp2_with fail
          refine (HL.out _ _ _ (by omega) I2.out).mono ?_
          rintro x w3 ⟨rfl, i3, k3⟩
          have I3 : Hid _ := i3
          clear i3 k3 q2
          go_wp2
          go_roundw
          case rel => exact ⟨k + 1, Z2, by omega, by go_num, I3.out⟩
          case measure => simp [intOf]; omega
        · rw [hp]
          have HP : Hid _ := hp
          clear hp
          go_wp2
          go_roundw
          case rel => exact ⟨k + 1, Z, by omega, by go_num, IS.out _ _ _ HX.out⟩
          case measure => simp [intOf]; omega
      · generalize ps.contains st.k = hp at *
        have hk5' : st.k < 5 := by omega
        have hd : decide (5 ≤ st.k) = false := by simp; omega
        clear hk5
        go_wp2_with fail
        refine (HSK.out _ hlt (Or.inl (by omega)) HX.out).mono ?_
        rintro x w2 ⟨rfl, Z2, i2, k2, _⟩
        have I2 : Hid _ := i2
        have q2 := row_q (rO.same (k2.block _ rO.lt ZB.out))
        have b2 := IB.out _ _ _ i2
        clear i2 k2 q1
        go_wp2_with fail
        refine (among_any _ _ _ hs _ _ (h3.below b2 (Nat.le_refl _))).mono ?_
        rintro x w' ⟨rfl, rfl⟩
        generalize hs.contains st.k = held
        go_wp2_with fail
        refine (HL.out _ _ _ (by omega) I2.out).mono ?_
        rintro x w3 ⟨rfl, i3, k3⟩
        have I3 : Hid _ := i3
        clear i3 k3 q2
        go_wp2
        go_roundw
        case rel => exact ⟨k + 1, Z2, by omega, by go_num, I3.out⟩
        case measure => simp [intOf]; omega
    · go_wp2
      go_ret
      exact ⟨rfl, bw⟩
end Go.Proofs.YtehheaedbnfidaaGreat

namespace Go.Proofs.YtehheaedbnfidaaGreat
open Go.RowKit

set_option maxRecDepth 100000 in
set_option maxHeartbeats 800000 in
theorem step_own (gw : Nat) (st : St) (w : World) (R : World → Prop)
    (ho : Calls Tryz.prog 11 #[.pointer (some ⟨gw, 0, none⟩), opV st] (w.alloc (.cells (opA st) 36)) fun x w' => x = .returned (.bool true) ∧ R w') :
    Calls Tryz.prog 9 #[.pointer (some ⟨gw, 0, none⟩), opV st] w fun x w' => x = .returned (.bool true) ∧ R w' := by
  have HO : Hid _ := ho
  clear ho
  go_enter Tryz.func9, Tryz.ntmps9
  go_wp2_with fail
  refine Calls.mono HO.out ?_
  rintro x w1 ⟨rfl, r⟩
  have HR : Hid _ := r
  clear r
  go_wp2
  go_ret
  exact ⟨rfl, HR.out⟩

set_option maxRecDepth 100000 in
set_option maxHeartbeats 800000 in
theorem step_out (gw : Nat) (st : St) (w : World) (hk : st.k < 1 ∨ 20 < st.k) :
    Calls Tryz.prog 9 #[.pointer (some ⟨gw, 0, none⟩), opV st] w fun x w' => x = .returned (.bool true) ∧ Below w.heap.size w w' := by
  have bW : Below w.heap.size w (w.alloc (.cells (opA st) 36)) := (Below.refl _ _).alloc (Nat.le_refl _) _
  have rO : Row (w.alloc (.cells (opA st) 36)) w.heap.size [.int .i64 st.k, .int .i64 st.a, .int .i64 st.b, .int .i64 st.c, .int .i64 st.d] 36 := heap_alloc_new w _
  rcases hk with hk | hk
  · have hd : decide (st.k < 5) = true := by simp; omega
    have hk5 : st.k < 5 := by omega
    go_enter Tryz.func9, Tryz.ntmps9
    go_wp2_with fail
    refine (owner_other gw st _ (by omega)).mono ?_
    rintro x w1 ⟨rfl, b1⟩
    have q1 := row_q (rO.below b1 rO.lt)
    have B1 : Hid _ := b1
    clear b1
    go_wp2
    go_ret
    exact ⟨rfl, below_step bW B1.out rfl⟩
  · have hd : decide (st.k < 5) = false := by simp; omega
    have hd2 : decide (20 < st.k) = true := by simp; omega
    go_enter Tryz.func9, Tryz.ntmps9
    go_wp2_with fail
    refine (owner_other gw st _ (by omega)).mono ?_
    rintro x w1 ⟨rfl, b1⟩
    have q1 := row_q (rO.below b1 rO.lt)
    have B1 : Hid _ := b1
    clear b1
    go_wp2
    go_ret
    exact ⟨rfl, below_step bW B1.out rfl⟩

set_option maxRecDepth 100000 in
set_option maxHeartbeats 1600000 in
theorem step_nocs (gw base : Nat) (o : Own) (m e p b : Value) (ts : List Int) (os : List (Int × Int × Int)) (st : St) (w : World) (h : WSt w gw base o m e p b ts os)
    (hk1 : 5 ≤ st.k) (hk2 : st.k ≤ 11) (hk3 : st.k ≠ 10) (hpos : o.cl = 0) :
    Calls Tryz.prog 9 #[.pointer (some ⟨gw, 0, none⟩), opV st] w fun x w' => x = .returned (.bool true) ∧ Below w.heap.size w w' := by
  obtain ⟨k, a, bb, cc, dd⟩ := st
  obtain ⟨ca, cl, ccap, ta, tl, tc, oa, ol, oc⟩ := o
  simp only at hk1 hk2 hk3 hpos
  subst hpos
  have bW : Below w.heap.size w (w.alloc (.cells (opA ⟨k, a, bb, cc, dd⟩) 36)) := (Below.refl _ _).alloc (Nat.le_refl _) _
  have rO : Row (w.alloc (.cells (opA ⟨k, a, bb, cc, dd⟩) 36)) w.heap.size [.int .i64 k, .int .i64 a, .int .i64 bb, .int .i64 cc, .int .i64 dd] 36 := heap_alloc_new w _
  have hW := h.below bW rfl
  have n10 : (k == 10) = false := by simpa using hk3
  have n5 : decide (k < 5) = false := by simp; omega
  have n20 : decide (20 < k) = false := by simp; omega
  clear hk3
  go_enter Tryz.func9, Tryz.ntmps9
  go_wp2_with fail
  refine (owner_other gw ⟨k, a, bb, cc, dd⟩ _ (by simp only []; omega)).mono ?_
  rintro x w1 ⟨rfl, b1⟩
  have h1 := hW.below b1 rfl
  have q1 := row_q (rO.below b1 rO.lt)
  have bW1 := below_step bW b1 rfl
  have c0 : w1.cell? ⟨gw, 0, none⟩ = some (.slice ca 0 ccap) := by rw [h1.row.cell]; rfl
  have BW : Hid _ := bW1
  clear b1 bW1 bW hW rO
  go_wp2
  go_ret
  exact ⟨rfl, BW.out⟩
end Go.Proofs.YtehheaedbnfidaaGreat
