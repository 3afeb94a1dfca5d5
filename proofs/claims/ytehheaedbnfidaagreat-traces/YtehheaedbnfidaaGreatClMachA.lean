/-
  The landed machine: faultOf, lineOf, suffices, next.
-/
import Derived.Test.YtehheaedbnfidaaGreatClPackK
namespace Go.Proofs.YtehheaedbnfidaaGreat
open Go.RowKit

abbrev opArr (o : OpT) : Array Value := #[.int .i64 o.1, .int .i64 o.2.1, .int .i64 o.2.2]

def XLoc.mine (X : XLoc) (b : Nat) : Prop := X.lab b ≠ none

/-- What a call on a machine does to the world. -/
structure Goes (w w' : World) (X X' : XLoc) : Prop where
  g : X'.g = X.g
  tch : Touch X.mine w w'
  lab : ∀ b, b < w.heap.size → X'.mine b → X.mine b

theorem Goes.refl (w : World) (X : XLoc) : Goes w w X X := ⟨rfl, Touch.refl _ _, fun _ _ h => h⟩
theorem Goes.trans {a b c : World} {X Y Z : XLoc} (h : Goes a b X Y) (k : Goes b c Y Z) : Goes a c X Z :=
  ⟨k.g.trans h.g, ⟨k.tch.os.trans h.tch.os, k.tch.tape.trans h.tch.tape, k.tch.output.trans h.tch.output, Nat.le_trans h.tch.size k.tch.size, fun i hi hf => (k.tch.block i (Nat.lt_of_lt_of_le hi h.tch.size) (fun hx => hf (h.lab i hi hx))).trans (h.tch.block i hi hf)⟩, fun i hi hx => h.lab i hi (k.lab i (Nat.lt_of_lt_of_le hi h.tch.size) hx)⟩
theorem Goes.of_below {w w' : World} {X : XLoc} (hb : Below w.heap.size w w') : Goes w w' X X := ⟨rfl, Touch.of_below hb (Nat.le_refl _), fun _ _ h => h⟩
theorem Goes.of_touch {w w' : World} {X : XLoc} {F : Nat → Prop} {l : Nat × Nat} (hT : Touch F w w') (hF : ∀ b, F b → X.lab b = some l) : Goes w w' X X := ⟨rfl, hT.mono fun b hb => by unfold XLoc.mine; rw [hF b hb]; simp, fun _ _ h => h⟩

theorem MachM.nums {w : World} {N : Cn} {X : XLoc} {m : Mh} (h : MachM w N X m) : (N.nc : Int) = N.c.cores ∧ (N.nd : Int) = N.c.domains ∧ (N.nn : Int) = N.c.near ∧ (N.ns : Int) = N.c.sets ∧ (N.ln : Int) = N.c.line ∧ (N.pv : Int) = N.c.priv ∧ (N.sn : Int) = N.c.shared ∧ N.nc ≤ 3 ∧ 0 < N.nc ∧ N.nd ≤ 4 ∧ 0 < N.nd ∧ (N.ln = 1 ∨ N.ln = 2 ∨ N.ln = 4) ∧ N.pv ≤ 64 ∧ N.sn ≤ 32 ∧ 0 < N.pv := by
  have sb := shape_bounds (chk_zero h.right).1
  have e := h.nok
  have e1 : N.nc = N.c.cores.toNat := by rw [e]; rfl
  have e2 : N.nd = N.c.domains.toNat := by rw [e]; rfl
  have e3 : N.nn = N.c.near.toNat := by rw [e]; rfl
  have e4 : N.ns = N.c.sets.toNat := by rw [e]; rfl
  have e5 : N.ln = N.c.line.toNat := by rw [e]; rfl
  have e6 : N.pv = N.c.priv.toNat := by rw [e]; rfl
  have e7 : N.sn = N.c.shared.toNat := by rw [e]; rfl
  omega

set_option maxRecDepth 100000 in
set_option maxHeartbeats 1600000 in
theorem kfault_any (N : Cn) (X : XLoc) (m : Mh) (o : OpT) (w : World) (h : MachM w N X m) :
    Calls Tryz.prog 169 #[.pointer (some ⟨X.g, 0, none⟩), .agg (opArr o)] w fun e w' => e = .returned (.int .i64 (faultF N.c o)) ∧ Below w.heap.size w w' := by
  obtain ⟨n1, n2, n3, n4, n5, n6, n7, n8, n9, n10, n11, n12, n13, n14, n15⟩ := h.nums
  have c3 : w.cell? ⟨X.g, 3, none⟩ = some (.int .i64 N.c.priv) := by rw [h.row.cell]; rfl
  have c4 : w.cell? ⟨X.g, 4, none⟩ = some (.int .i64 N.c.shared) := by rw [h.row.cell]; rfl
  have lg := h.row.lt
  obtain ⟨ok, oa, ov⟩ := o
  have p0 : 0 ≤ N.c.priv := by omega
  have p1 : N.c.priv ≤ 64 := by omega
  have s0 : 0 ≤ N.c.shared := by omega
  have s1 : N.c.shared ≤ 32 := by omega
  have wps : IntKind.i64.wrap (N.c.priv + N.c.shared) = N.c.priv + N.c.shared := by rw [IntKind.wrap_i64]; omega
  have HF : Hid (faultF N.c (ok, oa, ov) = if oa < 0 ∨ N.c.priv + N.c.shared ≤ oa then 1 else if ok = 1 ∧ N.c.priv ≤ oa then 2 else 0) := rfl
  generalize N.c.priv = pv at *
  generalize N.c.shared = sn at *
  clear h n1 n2 n3 n4 n5 n6 n7 n8 n9 n10 n11 n12 n13 n14 n15
  have HB : Hid (Below w.heap.size w (w.alloc (.cells (opArr (ok, oa, ov)) 69))) := (Below.refl _ _).alloc (Nat.le_refl _) _
  by_cases a1 : oa < 0
  · have HR : Hid _ := HF.out
    rw [if_pos (Or.inl a1)] at HR
    go_enter Tryz.func169, Tryz.ntmps169
    go_wp2_with fail
    go_quiet (fail)
    go_wp2
    go_ret
    exact ⟨ret_int HR.out.symm, below_drewN HB.out _⟩
  by_cases a2 : pv + sn ≤ oa
  · have HR : Hid _ := HF.out
    rw [if_pos (Or.inr a2)] at HR
    go_enter Tryz.func169, Tryz.ntmps169
    go_wp2_with fail
    go_quiet (fail)
    go_wp2
    go_ret
    exact ⟨ret_int HR.out.symm, below_drewN HB.out _⟩
  by_cases a3 : ok = 1
  · have a3b : (ok == 1) = true := by simp [a3]
    by_cases a4 : pv ≤ oa
    · have HR : Hid _ := HF.out
      rw [if_neg (by omega), if_pos ⟨a3, a4⟩] at HR
      clear a3
      go_enter Tryz.func169, Tryz.ntmps169
      go_wp2_with fail
      go_quiet (fail)
      go_wp2_with fail
      go_quiet (fail)
      go_wp2
      go_ret
      exact ⟨ret_int HR.out.symm, below_drewN (below_drewN HB.out _) _⟩
    · have HR : Hid _ := HF.out
      rw [if_neg (by omega), if_neg (by omega)] at HR
      clear a3
      go_enter Tryz.func169, Tryz.ntmps169
      go_wp2_with fail
      go_quiet (fail)
      go_wp2_with fail
      go_quiet (fail)
      go_wp2
      go_ret
      exact ⟨ret_int HR.out.symm, below_drewN (below_drewN HB.out _) _⟩
  · have a3b : (ok == 1) = false := by simp [a3]
    have HR : Hid _ := HF.out
    rw [if_neg (by omega), if_neg (by omega)] at HR
    go_enter Tryz.func169, Tryz.ntmps169
    go_wp2_with fail
    go_quiet (fail)
    go_wp2_with fail
    go_quiet (fail)
    go_wp2
    go_ret
    exact ⟨ret_int HR.out.symm, below_drewN (below_drewN HB.out _) _⟩

set_option maxRecDepth 100000 in
set_option maxHeartbeats 1600000 in
theorem kline_any (N : Cn) (X : XLoc) (m : Mh) (o : OpT) (x : Nat) (w : World) (h : MachM w N X m) (h0 : 0 ≤ o.2.1) (h1 : o.2.1 ≤ 1000) (hx : Hid (x = (o.2.1 / (N.ln : Int)).toNat)) :
    Calls Tryz.prog 149 #[.pointer (some ⟨X.g, 0, none⟩), .agg (opArr o)] w fun e w' => e = .returned (.int .i64 x) ∧ Below w.heap.size w w' := by
  obtain ⟨n1, n2, n3, n4, n5, n6, n7, n8, n9, n10, n11, n12, n13, n14, n15⟩ := h.nums
  have c2 : w.cell? ⟨X.g, 2, none⟩ = some (.int .i64 N.ln) := by rw [h.row.cell, n5]; rfl
  have lg := h.row.lt
  obtain ⟨ok, oa, ov⟩ := o
  dsimp only at *
  have q0 : 0 ≤ oa / (N.ln : Int) := Int.ediv_nonneg h0 (by omega)
  have q1 : oa / (N.ln : Int) ≤ oa := Int.ediv_le_self _ h0
  have wq : IntKind.i64.wrap (oa / (N.ln : Int)) = oa / (N.ln : Int) := by rw [IntKind.wrap_i64]; omega
  have l0 : (0 : Int) < (N.ln : Int) := by omega
  have lz : ((N.ln : Int) == 0) = false := by simp; omega
  have HX : Hid ((x : Int) = oa / (N.ln : Int)) := by have := hx.out; unfold Hid; omega
  have HB : Hid (Below w.heap.size w (w.alloc (.cells (opArr (ok, oa, ov)) 69))) := (Below.refl _ _).alloc (Nat.le_refl _) _
  generalize N.ln = ln at *
  clear h n1 n2 n3 n4 n5 n6 n7 n8 n9 n10 n11 n13 n14 n15 hx
  go_enter Tryz.func149, Tryz.ntmps149
  go_wp2_with fail
  go_quiet (fail)
  go_wp2
  go_ret
  exact ⟨ret_int HX.out.symm, below_drewN HB.out _⟩

def sufficesB (o : OpT) (s : Int) : Bool := if o.1 = 0 then decide (s ≠ 0) else decide (s = 2 ∨ s = 3)

set_option maxRecDepth 100000 in
set_option maxHeartbeats 1600000 in
theorem ksuffices_any (o : OpT) (s : Int) (w : World) :
    Calls Tryz.prog 171 #[.agg (opArr o), .int .i64 s] w fun e w' => e = .returned (.bool (sufficesB o s)) ∧ Below w.heap.size w w' := by
  obtain ⟨ok, oa, ov⟩ := o
  have HB : Hid (Below w.heap.size w (w.alloc (.cells (opArr (ok, oa, ov)) 69))) := (Below.refl _ _).alloc (Nat.le_refl _) _
  by_cases a1 : ok = 0
  · have a1b : (ok == 0) = true := by simp [a1]
    have HR : Hid (sufficesB (ok, oa, ov) s = (s != 0)) := by
      unfold Hid sufficesB
      by_cases e : s = 0 <;> simp [a1, e]
    clear a1
    go_enter Tryz.func171, Tryz.ntmps171
    go_wp2
    go_ret
    exact ⟨ret_bool HR.out.symm, HB.out⟩
  · have a1b : (ok == 0) = false := by simp [a1]
    have HR : Hid (sufficesB (ok, oa, ov) s = (s == 2 || s == 3)) := by
      unfold Hid sufficesB
      by_cases e : s = 2 <;> by_cases e3 : s = 3 <;> simp [a1, e, e3]
    go_enter Tryz.func171, Tryz.ntmps171
    go_wp2
    all_goals go_ret
    all_goals exact ⟨ret_bool (by rw [HR.out]; try simp_all), HB.out⟩

end Go.Proofs.YtehheaedbnfidaaGreat
