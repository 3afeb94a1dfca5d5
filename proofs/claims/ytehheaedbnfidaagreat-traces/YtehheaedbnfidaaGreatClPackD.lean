/-
  Near, Near2, Near3
-/
import Derived.Test.YtehheaedbnfidaaGreatClPackA
import Derived.Test.YtehheaedbnfidaaGreatClPackC
import Derived.Deep.QuietTactic
import Derived.BigQuiet
import Derived.Deep.RegionHeld3
namespace Go.Proofs.YtehheaedbnfidaaGreat
open Go.RowKit

/-- Where the near caches lie. -/
structure NLoc where
  r : Nat
  rc : Nat
  b : Nat → Nat
  bc : Nat → Nat

def cpV (c : Cp) (i : Nat) : Value := if i = 0 then .int .i64 c.dom else if i = 1 then .int .i64 c.line else .int .i64 c.st

structure NearM (w : World) (nc nn : Nat) (X : NLoc) (nr : Nat → Nat → Cp) : Prop where
  row : Cells w X.r nc 60 (fun k => .slice (some ⟨X.b k, 0, none⟩) nn (X.bc k))
  cel : ∀ k, k < nc → Cells w (X.b k) (nn * 3) 62 (fun i => cpV (nr k (i / 3)) (i % 3))
  rcap : nc ≤ X.rc ∧ X.rc ≤ maxLen
  bcap : ∀ k, k < nc → nn ≤ X.bc k ∧ X.bc k ≤ maxLen
  dis : ∀ j k, j < nc → k < nc → X.b j = X.b k → j = k
  n0 : 0 < nn
  n1 : nn ≤ 4
  c1 : nc ≤ 3

def NLoc.own (X : NLoc) (nc : Nat) (b : Nat) : Prop := ∃ k, k < nc ∧ b = X.b k

theorem NearM.same {w w' : World} {nc nn : Nat} {X : NLoc} {nr : Nat → Nat → Cp} (h : NearM w nc nn X nr) (h0 : w'.heap[X.r]? = w.heap[X.r]?) (h1 : ∀ k, k < nc → w'.heap[X.b k]? = w.heap[X.b k]?) : NearM w' nc nn X nr :=
  ⟨h.row.same h0, fun k hk => (h.cel k hk).same (h1 k hk), h.rcap, h.bcap, h.dis, h.n0, h.n1, h.c1⟩
theorem NearM.below {w w' : World} {nc nn m : Nat} {X : NLoc} {nr : Nat → Nat → Cp} (h : NearM w nc nn X nr) (hb : Below m w w') (hm : w.heap.size ≤ m) : NearM w' nc nn X nr :=
  h.same (hb.block _ (Nat.lt_of_lt_of_le h.row.lt hm)) fun k hk => hb.block _ (Nat.lt_of_lt_of_le (h.cel k hk).lt hm)

theorem NearM.at {w : World} {nc nn : Nat} {X : NLoc} {nr : Nat → Nat → Cp} (h : NearM w nc nn X nr) {k p : Nat} (hk : k < nc) (hp : p < nn) :
    w.cell? ⟨X.b k, p * 3, none⟩ = some (.int .i64 (nr k p).dom) ∧ w.cell? ⟨X.b k, p * 3 + 1, none⟩ = some (.int .i64 (nr k p).line) ∧ w.cell? ⟨X.b k, p * 3 + 2, none⟩ = some (.int .i64 (nr k p).st) := by
  have hc := h.cel k hk
  refine ⟨?_, ?_, ?_⟩
  · rw [hc.cell (by omega), show p * 3 / 3 = p by omega, show p * 3 % 3 = 0 by omega]; rfl
  · rw [hc.cell (by omega), show (p * 3 + 1) / 3 = p by omega, show (p * 3 + 1) % 3 = 1 by omega]; rfl
  · rw [hc.cell (by omega), show (p * 3 + 2) / 3 = p by omega, show (p * 3 + 2) % 3 = 2 by omega]; rfl

set_option maxRecDepth 100000 in
set_option maxHeartbeats 1600000 in
theorem nplace_any (nc nn : Nat) (X : NLoc) (nr : Nat → Nat → Cp) (g o k x p : Nat) (w : World) (h : NearM w nc nn X nr) (hp : w.cell? ⟨g, o, none⟩ = some (.slice (some ⟨X.r, 0, none⟩) nc X.rc)) (hk : k < nc) (hx : x ≤ 1000000) (hpx : Hid (p = x % nn)) :
    Calls Tryz.prog 173 #[.pointer (some ⟨g, o, none⟩), .int .i64 k, .int .i64 x] w fun e w' => e = .returned (.int .i64 p) ∧ w' = w := by
  have c1 := h.row.cell hk
  have n0 := h.n0
  have n1 := h.n1
  have c3 := h.c1
  have HE : Hid ((p : Int) = (x : Int) % (nn : Int)) := by have := hpx.out; unfold Hid; omega
  go_enter Tryz.func173, Tryz.ntmps173
  go_wp2
  go_ret
  exact ⟨ret_int HE.out.symm, rfl⟩
end Go.Proofs.YtehheaedbnfidaaGreat

namespace Go.Proofs.YtehheaedbnfidaaGreat
open Go.RowKit

set_option maxRecDepth 100000 in
set_option maxHeartbeats 3200000 in
theorem nstate_any (nc nn : Nat) (X : NLoc) (nr : Nat → Nat → Cp) (g o k x : Nat) (d : Int) (w : World) (h : NearM w nc nn X nr) (hp : w.cell? ⟨g, o, none⟩ = some (.slice (some ⟨X.r, 0, none⟩) nc X.rc)) (hk : k < nc) (hx : x ≤ 1000000) :
    Calls Tryz.prog 170 #[.pointer (some ⟨g, o, none⟩), .int .i64 k, .int .i64 d, .int .i64 x] w fun e w' => e = .returned (.int .i64 (stateN nn nr k d x)) ∧ Below w.heap.size w w' := by
  have n0 := h.n0
  obtain ⟨p, hq⟩ : ∃ p, p = x % nn := ⟨_, rfl⟩
  have HQ : Hid _ := hq
  have hpl : p < nn := hq ▸ Nat.mod_lt _ n0
  have c1 := h.row.cell hk
  obtain ⟨e1, e2, e3⟩ := h.at hk hpl
  have c3 := h.c1
  have HP : Hid _ := hp
  have n4 := h.n1
  have HS : Hid (stateN nn nr k d x = if (nr k p).dom = d ∧ (nr k p).line = x then (nr k p).st else 0) := by unfold stateN Hid; rw [hq]
  clear hq
  by_cases b1 : (nr k p).dom = d
  · by_cases b2 : (nr k p).line = x
    · have HE : Hid _ := show stateN nn nr k d x = (nr k p).st by rw [HS.out, if_pos ⟨b1, b2⟩]
      rw [b1] at e1
      rw [b2] at e2
      clear b1 b2
      go_enter Tryz.func170, Tryz.ntmps170
      go_wp2_with (go_at_call 173; refine (nplace_any nc nn X nr g o k x p _ h HP.out hk hx HQ).mono ?_; rintro e w' ⟨rfl, rfl⟩)
      go_ret
      exact ⟨ret_int HE.out.symm, (Below.refl _ _).alloc (Nat.le_refl _) _⟩
    · have HE : Hid _ := show stateN nn nr k d x = 0 by rw [HS.out, if_neg (fun hh => b2 hh.2)]
      rw [b1] at e1
      clear b1
      go_enter Tryz.func170, Tryz.ntmps170
      go_wp2_with (go_at_call 173; refine (nplace_any nc nn X nr g o k x p _ h HP.out hk hx HQ).mono ?_; rintro e w' ⟨rfl, rfl⟩)
      go_ret
      exact ⟨ret_int HE.out.symm, (Below.refl _ _).alloc (Nat.le_refl _) _⟩
  · have HE : Hid _ := show stateN nn nr k d x = 0 by rw [HS.out, if_neg (fun hh => b1 hh.1)]
    go_enter Tryz.func170, Tryz.ntmps170
    go_wp2_with (go_at_call 173; refine (nplace_any nc nn X nr g o k x p _ h HP.out hk hx HQ).mono ?_; rintro e w' ⟨rfl, rfl⟩)
    go_ret
    exact ⟨ret_int HE.out.symm, (Below.refl _ _).alloc (Nat.le_refl _) _⟩

/-- One place of the near caches is laid anew. -/
theorem NearM.put {w : World} {nc nn : Nat} {X : NLoc} {nr : Nat → Nat → Cp} (h : NearM w nc nn X nr) {k p : Nat} (hk : k < nc) (c : Cp) :
    NearM (((w.setCell ⟨X.b k, p * 3, none⟩ (.int .i64 c.dom)).setCell ⟨X.b k, p * 3 + 1, none⟩ (.int .i64 c.line)).setCell ⟨X.b k, p * 3 + 2, none⟩ (.int .i64 c.st)) nc nn X (up2 nr k p c)
    ∧ Touch (X.own nc) w (((w.setCell ⟨X.b k, p * 3, none⟩ (.int .i64 c.dom)).setCell ⟨X.b k, p * 3 + 1, none⟩ (.int .i64 c.line)).setCell ⟨X.b k, p * 3 + 2, none⟩ (.int .i64 c.st)) := by
  have hr : X.r ≠ X.b k := fun e => absurd ((e ▸ h.row).type (h.cel k hk)) (by decide)
  refine ⟨⟨((h.row.setOther _ _ hr).setOther _ _ hr).setOther _ _ hr, fun j hj => ?_, h.rcap, h.bcap, h.dis, h.n0, h.n1, h.c1⟩, ((Touch.setCell _ _ _ _ ⟨k, hk, rfl⟩).trans (Touch.setCell _ _ _ _ ⟨k, hk, rfl⟩)).trans (Touch.setCell _ _ _ _ ⟨k, hk, rfl⟩)⟩
  by_cases e : j = k
  · subst e
    refine ((((h.cel j hj).set _ _).set _ _).set _ _).congr fun i hi => ?_
    unfold up2 cpV
    by_cases e1 : i / 3 = p
    · have : i = p * 3 ∨ i = p * 3 + 1 ∨ i = p * 3 + 2 := by omega
      rcases this with e2 | e2 | e2
      · subst e2; simp [show p * 3 / 3 = p by omega]
      · subst e2; simp [show (p * 3 + 1) / 3 = p by omega, show (p * 3 + 1) % 3 = 1 by omega]
      · subst e2; simp [show (p * 3 + 2) / 3 = p by omega, show (p * 3 + 2) % 3 = 2 by omega]
    · have f1 : i ≠ p * 3 := by omega
      have f2 : i ≠ p * 3 + 1 := by omega
      have f3 : i ≠ p * 3 + 2 := by omega
      simp [e1, f1, f2, f3]
  · have hb : X.b j ≠ X.b k := fun hh => e (h.dis j k hj hk hh)
    refine ((((h.cel j hj).setOther _ _ hb).setOther _ _ hb).setOther _ _ hb).congr fun i hi => ?_
    unfold up2
    simp [e]

set_option maxRecDepth 100000 in
set_option maxHeartbeats 3200000 in
theorem nput_any (nc nn : Nat) (X : NLoc) (nr : Nat → Nat → Cp) (g o k x : Nat) (d s : Int) (w : World) (h : NearM w nc nn X nr) (hp : w.cell? ⟨g, o, none⟩ = some (.slice (some ⟨X.r, 0, none⟩) nc X.rc)) (hk : k < nc) (hx : x ≤ 1000000) :
    Calls Tryz.prog 167 #[.pointer (some ⟨g, o, none⟩), .int .i64 k, .int .i64 d, .int .i64 x, .int .i64 s] w fun e w' => e = .returned (.tuple #[]) ∧ NearM w' nc nn X (putN nn nr k d x s) ∧ Touch (X.own nc) w w' := by
  have n0 := h.n0
  obtain ⟨p, hq⟩ : ∃ p, p = x % nn := ⟨_, rfl⟩
  have HQ : Hid _ := hq
  have hpl : p < nn := hq ▸ Nat.mod_lt _ n0
  have c1 := h.row.cell hk
  obtain ⟨e1, e2, e3⟩ := h.at hk hpl
  have c3 := h.c1
  have HP : Hid _ := hp
  have HN : Hid _ := h.put (p := p) hk ⟨d, x, s⟩
  have f1 := (h.cel k hk).frozen (p * 3)
  have f2 := (h.cel k hk).frozen (p * 3 + 1)
  have f3 := (h.cel k hk).frozen (p * 3 + 2)
  have n4 := h.n1
  clear hq
  go_enter Tryz.func167, Tryz.ntmps167
  go_wp2_with (go_at_call 173; refine (nplace_any nc nn X nr g o k x p _ h HP.out hk hx HQ).mono ?_; rintro e w' ⟨rfl, rfl⟩)
  refine bodyPost_end (results_none rfl _ _ _) rfl ?_
  exact ⟨rfl, by unfold putN; rw [← HQ.out]; exact HN.out.1, HN.out.2⟩
end Go.Proofs.YtehheaedbnfidaaGreat

namespace Go.Proofs.YtehheaedbnfidaaGreat
open Go.RowKit

set_option maxRecDepth 100000 in
set_option maxHeartbeats 1600000 in
theorem nempty_any (w : World) :
    Calls Tryz.prog 138 #[] w fun e w' => e = .returned (.agg #[.int .i64 (-1), .int .i64 (-1), .int .i64 0]) ∧ w' = w.alloc (.cells #[.int .i64 (-1), .int .i64 (-1), .int .i64 0] 62) := by
  go_enter Tryz.func138, Tryz.ntmps138
  go_wp2
  refine bodyPost_ret (v := .agg #[.int .i64 (-1), .int .i64 (-1), .int .i64 0]) (by simp [results, Tryz.results138, go_sem, alloc_cell]) rfl ⟨rfl, rfl⟩

set_option maxRecDepth 100000 in
set_option maxHeartbeats 3200000 in
theorem ndrop_any (nc nn : Nat) (X : NLoc) (nr : Nat → Nat → Cp) (g o k x : Nat) (d : Int) (w : World) (h : NearM w nc nn X nr) (hp : w.cell? ⟨g, o, none⟩ = some (.slice (some ⟨X.r, 0, none⟩) nc X.rc)) (hk : k < nc) (hx : x ≤ 1000000) :
    Calls Tryz.prog 172 #[.pointer (some ⟨g, o, none⟩), .int .i64 k, .int .i64 d, .int .i64 x] w fun e w' => e = .returned (.tuple #[]) ∧ NearM w' nc nn X (dropN nn nr k d x) ∧ Touch (X.own nc) w w' := by
  have n0 := h.n0
  obtain ⟨p, hq⟩ : ∃ p, p = x % nn := ⟨_, rfl⟩
  have HQ : Hid _ := hq
  have hpl : p < nn := hq ▸ Nat.mod_lt _ n0
  have hg : g < w.heap.size := cell_lt hp
  have n4 := h.n1
  have c3 := h.c1
  clear hq
  by_cases hs : stateN nn nr k d x = 0
  · have HD : Hid _ := show dropN nn nr k d x = nr by unfold dropN; rw [if_pos hs]
    go_enter Tryz.func172, Tryz.ntmps172
    go_wp2_with (first
      | (go_at_call 170; refine (nstate_any nc nn X nr g o k x d _ h hp hk hx).mono ?_; rintro e w1 ⟨rfl, hb1⟩; rw [hs]; have h1 := h.below hb1 (Nat.le_refl _); have hp1 := (hb1.cell (p := ⟨g, o, none⟩) hg).trans hp; have HT : Hid _ := Touch.of_below (F := X.own nc) hb1 (Nat.le_refl _))
      | (go_at_call 173; refine (nplace_any nc nn X nr g o k x p _ h1 hp1 hk hx HQ).mono ?_; rintro e w' ⟨rfl, rfl⟩))
    refine bodyPost_ret (results_none rfl _ _ _) rfl ?_
    exact ⟨rfl, by rw [HD.out]; exact h1, HT.out⟩
  · have HD : Hid _ := show dropN nn nr k d x = up2 nr k p cpE by unfold dropN; rw [if_neg hs, HQ.out]
    have hsb : (stateN nn nr k d x == 0) = false := by simp [hs]
    go_enter Tryz.func172, Tryz.ntmps172
    go_wp2_with (first
      | (go_at_call 170; refine (nstate_any nc nn X nr g o k x d _ h hp hk hx).mono ?_; rintro e w1 ⟨rfl, hb1⟩; have h1 := h.below hb1 (Nat.le_refl _); have hp1 := (hb1.cell (p := ⟨g, o, none⟩) hg).trans hp; have HT : Hid _ := Touch.of_below (F := X.own nc) hb1 (Nat.le_refl _))
      | (go_at_call 173; refine (nplace_any nc nn X nr g o k x p _ h1 hp1 hk hx HQ).mono ?_; rintro e w' ⟨rfl, rfl⟩))
    rename World => W
    have c1 := h1.row.cell hk
    obtain ⟨e1, e2, e3⟩ := h1.at hk hpl
    have f1 := (h1.cel k hk).frozen (p * 3)
    have f2 := (h1.cel k hk).frozen (p * 3 + 1)
    have f3 := (h1.cel k hk).frozen (p * 3 + 2)
    have l0 : g < W.heap.size := cell_lt hp1
    have l1 := h1.row.lt
    have l2 := (h1.cel k hk).lt
    have HW : Hid _ := h1
    clear h1
    go_region_with (go_at_call 138; refine (nempty_any _).mono ?_; rintro e w2 ⟨rfl, rfl⟩)
    all_goals go_wp2
    all_goals refine bodyPost_end (results_none rfl _ _ _) rfl ?_
    all_goals
      have hP := HW.out.put (p := p) hk cpE
      refine ⟨rfl, ?_, ?_⟩
      · rw [HD.out]
        exact hP.1.below (((Below.refl _ _).alloc (Nat.le_refl _) _).drew) (Nat.le_refl _)
      · exact (HT.out.trans hP.2).trans (Touch.of_below (((Below.refl _ _).alloc (Nat.le_refl _) _).drew) (Nat.le_refl _))
end Go.Proofs.YtehheaedbnfidaaGreat
