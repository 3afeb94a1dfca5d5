/-
  LentO, LentP
-/
import Derived.Test.YtehheaedbnfidaaGreatClPackBC
import Derived.Test.YtehheaedbnfidaaGreatClPackL
import Derived.Test.YtehheaedbnfidaaGreatClCopy
import Derived.Test.YtehheaedbnfidaaGreatClPackA
import Derived.Lib.SliceRun
import Derived.Deep.QuietTactic
import Derived.BigQuiet
namespace Go.Proofs.YtehheaedbnfidaaGreat
open Go.RowKit

theorem Tryz.nilOps (w : World) (a : Option Addr) (l c : Nat) : (binOp .eql 28 (.slice a l c) (.slice none 0 0)).run Tryz.prog w = .ok (.bool a.isNone) w :=
  Go.Lib.run_eql_slice_nil w 28 69 a l c 0 0 Tryz.underlying28
attribute [local go_sem] Tryz.nilOps

theorem opsL_flat (os : List OpT) : opsL os = os.flatMap opL := rfl
theorem opsL_len (os : List OpT) : (opsL os).length = os.length * 3 := by
  induction os with
  | nil => rfl
  | cons x xs ih => rw [opsL_flat, List.flatMap_cons, List.length_append, ← opsL_flat, ih]; show 3 + xs.length * 3 = (xs.length + 1) * 3; omega
theorem opsL_one (os : List OpT) : ∀ v ∈ opsL os, v.oneCell' = true := fun v hv => by
  rw [opsL_flat, List.mem_flatMap] at hv
  obtain ⟨a, _, h2⟩ := hv
  simp [opL] at h2
  rcases h2 with e | e | e <;> subst e <;> rfl
theorem opsL_at {os : List OpT} {i : Nat} (h : i < os.length) : (opsL os)[i * 3]? = some (.int .i64 (os.getD i opZ).1) ∧ (opsL os)[i * 3 + 1]? = some (.int .i64 (os.getD i opZ).2.1) ∧ (opsL os)[i * 3 + 2]? = some (.int .i64 (os.getD i opZ).2.2) := by
  have hg : os[i]? = some (os.getD i opZ) := by rw [List.getD_eq_getElem?_getD, List.getElem?_eq_getElem h]; rfl
  rw [opsL_flat]
  exact flat_op hg
theorem opsL_set : ∀ (os : List OpT) (i : Nat) (a b c : Int), i < os.length → (((opsL os).set (i * 3) (.int .i64 a)).set (i * 3 + 1) (.int .i64 b)).set (i * 3 + 2) (.int .i64 c) = opsL (os.set i (a, b, c))
  | [], i, _, _, _, h => by simp at h
  | o :: os, 0, a, b, c, _ => by
    rw [opsL_flat, opsL_flat, List.set_cons_zero, List.flatMap_cons, List.flatMap_cons]
    rfl
  | o :: os, i + 1, a, b, c, h => by
    have ih := opsL_set os i a b c (by simpa using h)
    rw [opsL_flat, opsL_flat, List.set_cons_succ, List.flatMap_cons, List.flatMap_cons, ← opsL_flat, ← opsL_flat, ← ih]
    have hl : (opL o).length = 3 := rfl
    rw [List.set_append_right _ _ (by rw [hl]; omega), List.set_append_right _ _ (by rw [hl]; omega), List.set_append_right _ _ (by rw [hl]; omega), hl, show (i + 1) * 3 - 3 = i * 3 by omega, show (i + 1) * 3 + 1 - 3 = i * 3 + 1 by omega, show (i + 1) * 3 + 2 - 3 = i * 3 + 2 by omega]

/-- The cells of a slice that reads as operations. -/
theorem OpsAt.src {w : World} {sa : Option Addr} {len cap : Nat} {os : List OpT} (h : OpsAt w sa len cap os) (h0 : 0 < len) : ∃ ad, sa = some ad ∧ ∀ q v, (opsL os)[q]? = some v → w.cell? (ad.add q) = some v := by
  obtain ⟨b, off, e2, _⟩ := h.hat 0 h0
  refine ⟨⟨b, off, none⟩, e2, fun q v hq => ?_⟩
  have hql : q < (opsL os).length := (List.getElem?_eq_some_iff.1 hq).1
  rw [opsL_len, h.hlen] at hql
  obtain ⟨b', off', e3, f1, f2, f3⟩ := h.hat (q / 3) (by omega)
  rw [e2] at e3
  simp only [Option.some.injEq, Addr.mk.injEq] at e3
  obtain ⟨rfl, rfl, _⟩ := e3
  obtain ⟨g1, g2, g3⟩ := opsL_at (os := os) (i := q / 3) (by rw [h.hlen]; omega)
  rw [add_plain']
  have : q = q / 3 * 3 ∨ q = q / 3 * 3 + 1 ∨ q = q / 3 * 3 + 2 := by omega
  rcases this with e4 | e4 | e4
  · rw [e4] at hq ⊢
    rw [g1] at hq
    rw [f1, hq]
  · rw [e4] at hq ⊢
    rw [g2] at hq
    rw [← Nat.add_assoc, f2, hq]
  · rw [e4] at hq ⊢
    rw [g3] at hq
    rw [← Nat.add_assoc, f3, hq]

/-- 'copy' of n elements into a longer block made last. -/
theorem run_copy_less {P : Program} (w0 : World) (dT sT oT : TypeId) (elem : TypeId) (sz : Nat) (hu : P.underlying dT = some (.slice elem)) (hsz : (P.info? elem).map (·.size) = some sz)
    (sp : Option Addr) (dl n dCap sCap : Nat) (hdl : n ≤ dl)
    (cur : List Value) (t : TypeId) (cs : List Value) (hn : cs.length = n * sz)
    (hpos : 0 < n → ∃ ad, sp = some ad ∧ ∀ j v, cs[j]? = some v → (w0.alloc (.cells cur.toArray t)).cell? (ad.add j) = some v)
    (hfit : cs.length ≤ cur.length) (h1 : ∀ v ∈ cs, v.oneCell' = true) :
    (Builtin.copy_ #[dT, sT] oT #[.slice (some ⟨w0.heap.size, 0, none⟩) dl dCap, .slice sp n sCap]).run P (w0.alloc (.cells cur.toArray t)) = .ok (goInt n) (w0.alloc (.cells (cs ++ cur.drop cs.length).toArray t)) := by
  cases hq : P.info? elem with
  | none => simp [hq] at hsz
  | some i =>
    have hi : i.size = sz := by simpa [hq] using hsz
    have hmin : n.min dl = n := Nat.min_eq_left hdl
    by_cases hz : n = 0
    · subst hz
      have hc : cs = [] := List.eq_nil_of_length_eq_zero (by simpa using hn)
      subst hc
      cases sp with
      | none => simp [Builtin.copy_, run_underlying hu, Builtin.lenOf, Builtin.firstCells, sizeOf, typeInfo, hq, storeCells]
      | some a =>
        have hl : (loadCells a 0).run P (w0.alloc (.cells cur.toArray t)) = .ok #[] (w0.alloc (.cells cur.toArray t)) := by simpa using run_loadCells_list (P := P) (w0.alloc (.cells cur.toArray t)) a [] (by simp)
        simp [Builtin.copy_, run_underlying hu, Builtin.lenOf, Builtin.firstCells, sizeOf, typeInfo, hq, storeCells, hl]
    · obtain ⟨ad, rfl, hsrc⟩ := hpos (by omega)
      have hl := run_loadCells_list (P := P) (w0.alloc (.cells cur.toArray t)) ad cs hsrc
      rw [hn] at hl
      have hst := run_storeCells_at P w0.heap.size 0 t cs 0 cur.toArray (w0.alloc (.cells cur.toArray t)) (heap_alloc_new w0 _) (by simpa using hfit) h1
      rw [alloc_setRow] at hst
      simp [Builtin.copy_, run_underlying hu, Builtin.lenOf, Builtin.firstCells, sizeOf, typeInfo, hq, hi, hl, hst, hmin]

/-- A program that was lent, k of its spare places written. -/
def lentO (os : List OpT) (k : Nat) : List OpT := os ++ (List.replicate k (77, 77, 77) ++ List.replicate (8 - k) (0, 0, 0))
theorem lentO_len (os : List OpT) (k : Nat) (h : k ≤ 8) : (lentO os k).length = os.length + 8 := by simp [lentO]; omega
theorem lentO_set (os : List OpT) (k : Nat) (h : k < 8) : (lentO os k).set (os.length + k) (77, 77, 77) = lentO os (k + 1) := by
  unfold lentO
  rw [List.set_append_right _ _ (by omega), show os.length + k - os.length = k by omega, List.set_append_right _ _ (by simp)]
  congr 1
  rw [List.length_replicate, Nat.sub_self, show 8 - k = (8 - (k + 1)) + 1 by omega, List.replicate_succ, List.set_cons_zero, List.replicate_succ', List.append_assoc]
  rfl
theorem lentO_at {os : List OpT} {i : Nat} (h : i < os.length) : (lentO os 8).getD i opZ = os.getD i opZ := by
  unfold lentO
  rw [List.getD_eq_getElem?_getD, List.getD_eq_getElem?_getD, List.getElem?_append_left h]
theorem lentO_past {os : List OpT} {i : Nat} (h : os.length ≤ i) (h8 : i < os.length + 8) : (lentO os 8).getD i opZ = (77, 77, 77) := by
  unfold lentO
  rw [List.getD_eq_getElem?_getD, List.getElem?_append_right h, List.getElem?_append_left (by simp; omega), List.getElem?_replicate, if_pos (by omega)]
  rfl
theorem made_three (n : Nat) : madeCells #[Value.int .i64 0, .int .i64 0, .int .i64 0] n = (List.replicate n (Value.int .i64 0)).toArray := by
  apply Array.ext
  · simp [madeCells]
  · intro i h1 h2
    have hm : i % 3 = 0 ∨ i % 3 = 1 ∨ i % 3 = 2 := by omega
    simp only [madeCells, Array.getElem_map, Array.getElem_range, List.getElem_toArray, List.getElem_replicate]
    show (#[Value.int .i64 0, .int .i64 0, .int .i64 0] : Array Value)[i % 3]! = _
    rcases hm with e | e | e <;> rw [e] <;> rfl
theorem opsL_zero : ∀ n, opsL (List.replicate n ((0 : Int), (0 : Int), (0 : Int))) = List.replicate (n * 3) (Value.int .i64 0)
  | 0 => rfl
  | n + 1 => by
    have ih := opsL_zero n
    rw [show (n + 1) * 3 = n * 3 + 1 + 1 + 1 by omega, List.replicate_succ, List.replicate_succ, List.replicate_succ, List.replicate_succ, ← ih]
    rfl
theorem opsL_append (a b : List OpT) : opsL (a ++ b) = opsL a ++ opsL b := List.flatMap_append
theorem lentO_zero (os : List OpT) (len : Nat) (h : os.length = len) : opsL os ++ (List.replicate ((len + 8) * 3) (Value.int .i64 0)).drop (opsL os).length = opsL (lentO os 0) := by
  unfold lentO
  rw [List.replicate_zero, List.nil_append, opsL_append, opsL_zero, opsL_len, h, List.drop_replicate]
  congr 2
  omega

set_option maxRecDepth 100000 in
set_option maxHeartbeats 1600000 in
theorem lentOps_some (a : Addr) (len cap : Nat) (os : List OpT) (w : World) (h : OpsAt w (some a) len cap os) (hr : len * 24 ≤ 140737488351232) :
    Calls Tryz.prog 52 #[.slice (some a) len cap] w fun e w' => e = .returned (.slice (some ⟨w.heap.size, 0, none⟩) len (len + 8)) ∧ w' = w.alloc (.cells (opsL (lentO os 8)).toArray 69) := by
  have hle := h.hle
  have HL : Hid (os.length = len) := h.hlen
  obtain ⟨i0, hi, hz0, hz1, hz2⟩ := info_parts Tryz.infoOp
  have hcp := run_copy_less (P := Tryz.prog) w 28 28 3 69 3 Tryz.underlying28 (by rw [hi]; simp [hz1]) (some a) (len + 8) len (len + 8) cap (by omega) (List.replicate ((len + 8) * 3) (Value.int .i64 0)) 69 (opsL os) (by rw [opsL_len, h.hlen]) (fun h0 => by
    obtain ⟨ad, e, hc⟩ := h.src h0
    refine ⟨ad, e, fun j v hj => ?_⟩
    have h2 := hc j v hj
    rw [← h2]
    exact Below.cell ((Below.refl w.heap.size w).alloc (Nat.le_refl _) _) (cell_lt h2)) (by rw [opsL_len, h.hlen]; simp; omega) (opsL_one os)
  rw [lentO_zero os len h.hlen, ← made_three] at hcp
  clear h
  go_enter Tryz.func52, Tryz.ntmps52
  go_wp2_with (at_make; refine wpList_make_exact _ rfl _ _ 28 rfl 69 i0 _ Tryz.underlying28 hi hz0 .i64 .i64 _ _ (len + 8) rfl rfl (by simp) (by simp) (by rw [hz2]; omega) (by unfold maxLen; omega) ?_; rw [hz1])
  go_loopw [5] (fun i wr => ∃ k : Nat, k ≤ 8 ∧ i = .int .i64 (len + k : Nat) ∧ wr = w.alloc (.cells (opsL (lentO os k)).toArray 69)) (fun i _ => len + 8 - (intOf i).toNat)
  case atStart => exact ⟨0, by omega, rfl, rfl⟩
  case round =>
    obtain ⟨k, hk, rfl, hwr⟩ := hrel
    have HW : Hid _ := hwr
    by_cases hlt : k < 8
    · have hr3 : Row wr w.heap.size (opsL (lentO os k)) 69 := by rw [hwr]; exact heap_alloc_new w _
      obtain ⟨g1, g2, g3⟩ := opsL_at (os := lentO os k) (i := len + k) (by rw [lentO_len os k hk, HL.out]; omega)
      have c1 : wr.cell? ⟨w.heap.size, (len + k) * 3, none⟩ = some (.int .i64 ((lentO os k).getD (len + k) opZ).1) := (hr3.cell _).trans g1
      have c2 : wr.cell? ⟨w.heap.size, (len + k) * 3 + 1, none⟩ = some (.int .i64 ((lentO os k).getD (len + k) opZ).2.1) := (hr3.cell _).trans g2
      have c3 : wr.cell? ⟨w.heap.size, (len + k) * 3 + 2, none⟩ = some (.int .i64 ((lentO os k).getD (len + k) opZ).2.2) := (hr3.cell _).trans g3
      have f1 := hr3.frozen ((len + k) * 3)
      have f2 := hr3.frozen ((len + k) * 3 + 1)
      have f3 := hr3.frozen ((len + k) * 3 + 2)
      have lr := hr3.lt
      generalize (lentO os k).getD (len + k) opZ = oz at *
      clear hwr g1 g2 g3 hr3
      go_wp2
      go_roundw
      case rel =>
        refine ⟨k + 1, by omega, by go_num, ?_⟩
        rw [HW.out]
        have e := HL.out
        rw [alloc_setCell, alloc_setCell, alloc_setCell, ← e, List.setIfInBounds_toArray, List.setIfInBounds_toArray, List.setIfInBounds_toArray, opsL_set _ _ _ _ _ (by rw [lentO_len os k hk]; omega), lentO_set os k hlt]
      case measure => simp [intOf]; omega
    · have e : k = 8 := by omega
      subst e
      clear hwr
      go_wp2
      go_ret
      exact ⟨rfl, HW.out⟩

theorem lentOps_none (w : World) :
    Calls Tryz.prog 52 #[.slice none 0 0] w fun e w' => e = .returned (.slice none 0 0) ∧ w' = w := by
  go_enter Tryz.func52, Tryz.ntmps52
  go_wp2
  go_ret
  exact ⟨rfl, rfl⟩

theorem wholeOps_none (oa : Option Addr) (ol oc : Nat) (w : World) :
    Calls Tryz.prog 55 #[.slice oa ol oc, .slice none 0 0] w fun e w' => e = .returned (.bool true) ∧ w' = w := by
  go_enter Tryz.func55, Tryz.ntmps55
  go_wp2
  go_ret
  exact ⟨rfl, rfl⟩
end Go.Proofs.YtehheaedbnfidaaGreat

namespace Go.Proofs.YtehheaedbnfidaaGreat
open Go.RowKit
attribute [local go_sem] Tryz.nilOps

set_option maxRecDepth 100000 in
set_option maxHeartbeats 1600000 in
theorem wholeOps_some (g : Nat) (sa : Addr) (len cap : Nat) (os : List OpT) (w : World) (h : OpsAt w (some sa) len cap os) (hr : len * 24 ≤ 140737488351232) (hg : Row w g (opsL (lentO os 8)) 69) :
    Calls Tryz.prog 55 #[.slice (some ⟨g, 0, none⟩) len (len + 8), .slice (some sa) len cap] w fun e w' => e = .returned (.bool true) ∧ Below w.heap.size w w' := by
  have HL : Hid (os.length = len) := h.hlen
  have hle := h.hle
  have HH : Hid _ := h
  have HG : Hid (Row w g (opsL (lentO os 8)) 69) := hg
  clear h hg
  go_enter Tryz.func55, Tryz.ntmps55
  go_wp2
  go_loopw [7] (fun u wr => ∃ k : Nat, k ≤ len + 8 ∧ u = .int .i64 k ∧ Below w.heap.size w wr) (fun u _ => len + 8 - (intOf u).toNat)
  case atStart => exact ⟨0, by omega, rfl, Below.refl _ _⟩
  case round =>
    obtain ⟨k, hk, rfl, hb⟩ := hrel
    have HB : Hid _ := hb
    have r : Row wr g (opsL (lentO os 8)) 69 := Row.below HG.out hb HG.out.lt
    by_cases hk8 : k < len + 8
    · obtain ⟨g1, g2, g3⟩ := opsL_at (os := lentO os 8) (i := k) (by rw [lentO_len os 8 (Nat.le_refl _), HL.out]; exact hk8)
      have lg := r.lt
      by_cases hlt : k < len
      · obtain ⟨b, off, hsa, a1, a2, a3⟩ := (HH.out.below hb (Nat.le_refl _)).hat k hlt
        simp only [Option.some.injEq] at hsa
        subst hsa
        rw [lentO_at (by rw [HL.out]; exact hlt)] at g1 g2 g3
        have c1 : wr.cell? ⟨g, k * 3, none⟩ = some (.int .i64 (os.getD k opZ).1) := (r.cell _).trans g1
        have c2 : wr.cell? ⟨g, k * 3 + 1, none⟩ = some (.int .i64 (os.getD k opZ).2.1) := (r.cell _).trans g2
        have c3 : wr.cell? ⟨g, k * 3 + 2, none⟩ = some (.int .i64 (os.getD k opZ).2.2) := (r.cell _).trans g3
        have lb := cell_lt a1
        generalize os.getD k opZ = oz at *
        obtain ⟨z1, z2, z3⟩ := oz
        simp only at a1 a2 a3 c1 c2 c3
        clear hb r g1 g2 g3
        go_wp2_with fail
        try go_quiet (fail)
        try go_wp2_with fail
        go_roundw
        case rel =>
          exact ⟨k + 1, by omega, by go_num, (HB.out.alloc HB.out.size _).trans ⟨rfl, rfl, rfl, Nat.le_refl _, fun _ _ => rfl⟩⟩
        case measure => simp [intOf]; omega
      · rw [lentO_past (by rw [HL.out]; omega) (by rw [HL.out]; exact hk8)] at g1 g2 g3
        have c1 : wr.cell? ⟨g, k * 3, none⟩ = some (.int .i64 77) := (r.cell _).trans g1
        have c2 : wr.cell? ⟨g, k * 3 + 1, none⟩ = some (.int .i64 77) := (r.cell _).trans g2
        have c3 : wr.cell? ⟨g, k * 3 + 2, none⟩ = some (.int .i64 77) := (r.cell _).trans g3
        clear hb r g1 g2 g3
        go_wp2_with fail
        try go_quiet (fail)
        try go_wp2_with fail
        go_roundw
        case rel =>
          exact ⟨k + 1, by omega, by go_num, (HB.out.alloc HB.out.size _).trans ⟨rfl, rfl, rfl, Nat.le_refl _, fun _ _ => rfl⟩⟩
        case measure => simp [intOf]; omega
    · clear r hb
      go_wp2
      go_ret
      exact ⟨rfl, HB.out⟩

set_option maxRecDepth 100000 in
set_option maxHeartbeats 1600000 in
theorem spoilOps_some (g len cap : Nat) (os : List OpT) (w : World) (hl : os.length = len + 8) (hr : len * 24 ≤ 140737488351232) (hc : len ≤ cap) (hcm : cap ≤ 140737488355328) (hg : Row w g (opsL os) 69) :
    Calls Tryz.prog 56 #[.slice (some ⟨g, 0, none⟩) len cap] w fun e w' => e = .returned (.tuple #[]) ∧ Touch (fun b => b = g) w w' := by
  have HL : Hid _ := hl
  have HG : Hid (Row w g (opsL os) 69) := hg
  clear hg hl
  go_enter Tryz.func56, Tryz.ntmps56
  go_wp2_with fail
  go_loopw [2] (fun u wr => ∃ (k : Nat) (ps : List OpT), k ≤ len ∧ u = .int .i64 k ∧ ps.length = len + 8 ∧ Row wr g (opsL ps) 69 ∧ Touch (fun b => b = g) w wr) (fun u _ => len - (intOf u).toNat)
  case atStart => exact ⟨0, os, by omega, rfl, HL.out, HG.out, Touch.refl _ _⟩
  case round =>
    obtain ⟨k, ps, hk, rfl, hpl, r, ht⟩ := hrel
    have HT : Hid _ := ht
    have HR : Hid (Row wr g (opsL ps) 69) := r
    have HPL : Hid _ := hpl
    by_cases hlt : k < len
    · obtain ⟨g1, g2, g3⟩ := opsL_at (os := ps) (i := k) (by omega)
      have c1 : wr.cell? ⟨g, k * 3, none⟩ = some (.int .i64 (ps.getD k opZ).1) := (r.cell _).trans g1
      have c2 : wr.cell? ⟨g, k * 3 + 1, none⟩ = some (.int .i64 (ps.getD k opZ).2.1) := (r.cell _).trans g2
      have c3 : wr.cell? ⟨g, k * 3 + 2, none⟩ = some (.int .i64 (ps.getD k opZ).2.2) := (r.cell _).trans g3
      have f1 := r.frozen (k * 3)
      have f2 := r.frozen (k * 3 + 1)
      have f3 := r.frozen (k * 3 + 2)
      have lr := r.lt
      generalize ps.getD k opZ = oz at *
      clear r ht g1 g2 g3 hpl
      go_wp2_with fail
      go_roundw
      case rel =>
        refine ⟨k + 1, ps.set k (1, 0, 77), by omega, by go_num, by rw [List.length_set]; exact HPL.out, ?_, ?_⟩
        · have := ((HR.out.setCell (k * 3) (.int .i64 1)).setCell (k * 3 + 1) (.int .i64 0)).setCell (k * 3 + 2) (.int .i64 77)
          rw [opsL_set ps k 1 0 77 (by have := HPL.out; omega)] at this
          exact this
        · exact ((HT.out.trans (Touch.setCell _ _ _ _ rfl)).trans (Touch.setCell _ _ _ _ rfl)).trans (Touch.setCell _ _ _ _ rfl)
      case measure => simp [intOf]; omega
    · clear r ht hpl
      go_wp2
      go_end0
      exact ⟨rfl, HT.out⟩
theorem spoilOps_none (w : World) :
    Calls Tryz.prog 56 #[.slice none 0 0] w fun e w' => e = .returned (.tuple #[]) ∧ w' = w := by
  go_enter Tryz.func56, Tryz.ntmps56
  go_wp2_with fail
  go_loopw [2] (fun u wr => u = .int .i64 0 ∧ wr = w) (fun _ _ => 0)
  case atStart => exact ⟨rfl, rfl⟩
  case round =>
    obtain ⟨rfl, rfl⟩ := hrel
    go_wp2
    go_end0
    exact ⟨rfl, rfl⟩
end Go.Proofs.YtehheaedbnfidaaGreat
