/-
  The memory: Write.
-/
import Derived.Test.YtcmcfafhllpojaaGreatClPackG
namespace Go.Proofs.YtcmcfafhllpojaaGreat
open Go.RowKit

def partM (pv y : Nat) (own wd : Nat → Int) (i : Nat) : Nat → Int := fun a => if y ≤ a ∧ a < y + i ∧ a < pv then wd (a - y) else own a

theorem part_step {pv y i : Nat} {own wd : Nat → Int} : partM pv y own wd (i + 1) = if y + i < pv then up1 (partM pv y own wd i) (y + i) (wd i) else partM pv y own wd i := by
  funext a
  by_cases h : y + i < pv
  · rw [if_pos h]
    unfold partM up1
    dsimp only
    by_cases e : a = y + i
    · subst e
      rw [if_pos (by omega), if_pos rfl, Nat.add_sub_cancel_left]
    · rw [if_neg e]
      by_cases c : y ≤ a ∧ a < y + i ∧ a < pv
      · rw [if_pos (by omega), if_pos c]
      · rw [if_neg (by omega), if_neg c]
  · rw [if_neg h]
    unfold partM
    by_cases c : y ≤ a ∧ a < y + i ∧ a < pv
    · rw [if_pos (by omega), if_pos c]
    · rw [if_neg (by omega), if_neg c]

theorem up1_up1 {α : Type} (f : Nat → α) (i : Nat) (u v : α) : up1 (up1 f i u) i v = up1 f i v := by
  funext j
  unfold up1
  by_cases e : j = i <;> simp [e]
theorem up1_self {α : Type} (f : Nat → α) (i : Nat) : up1 f i (f i) = f := by
  funext j
  unfold up1
  by_cases e : j = i <;> simp [e]
theorem up1_at {α : Type} (f : Nat → α) (i : Nat) (v : α) : up1 f i v i = v := by simp [up1]

theorem wdL_at (F : Nat → Int) {i : Nat} (hi : i < 4) : (wdL F)[i]? = some (.int .i64 (F i)) := by
  have : i = 0 ∨ i = 1 ∨ i = 2 ∨ i = 3 := by omega
  rcases this with e | e | e | e <;> subst e <;> rfl

set_option maxRecDepth 100000 in
set_option maxHeartbeats 3200000 in
theorem mWrite_any (nd pv sn ln : Nat) (X : ELoc) (own : Nat → Nat → Int) (sh : Nat → Int) (g o d x : Nat) (F : Nat → Int) (w : World) (h : MemM w nd pv sn X own sh) (hp0 : w.cell? ⟨g, o, none⟩ = some (.int .i64 ln)) (hp : w.cell? ⟨g, o + 1, none⟩ = some (.slice (some ⟨X.r, 0, none⟩) nd X.rc)) (hg : ¬ X.own nd g) (hsb : X.sb < w.heap.size) (hd : d < nd) (hx : x ≤ 1000) (hln : ln = 1 ∨ ln = 2 ∨ ln = 4) :
    Calls Tryz.prog 197 #[.pointer (some ⟨g, o, none⟩), .int .i64 d, .int .i64 x, .agg (wdA F)] w fun e w' => e = .returned (.tuple #[]) ∧ MemM w' nd pv sn X (up1 own d (writeM pv ln (own d) x F)) sh ∧ Touch (X.own nd) w w' := by
  have lg := cell_lt hp0
  obtain ⟨y, hy⟩ : ∃ y, x * ln = y := ⟨_, rfl⟩
  have hy2 : y ≤ 4000 := by rw [← hy]; rcases hln with e | e | e <;> subst e <;> omega
  have hyI : (x : Int) * (ln : Int) = (y : Int) := by rw [← hy]; simp
  have hl4 : ln ≤ 4 := by omega
  have HWR : Hid (writeM pv ln (own d) x F = partM pv y (own d) F ln) := by
    unfold Hid writeM partM
    rw [hy]
    funext a
    by_cases c : y ≤ a ∧ a < y + ln ∧ a < pv
    · rw [if_pos (by omega), if_pos c]
    · rw [if_neg (by omega), if_neg c]
  have hW0 : Row (w.alloc (.cells (wdA F) 184)) w.heap.size (wdL F) 184 := heap_alloc_new w _
  have hB0 : Below w.heap.size w (w.alloc (.cells (wdA F) 184)) := (Below.refl _ _).alloc (Nat.le_refl _) _
  have hT0 : Touch (X.own nd) w (w.alloc (.cells (wdA F) 184)) := Touch.of_below hB0 (Nat.le_refl _)
  have hno : ¬ X.own nd w.heap.size := by
    rintro (e | ⟨k, hk, e⟩)
    · omega
    · have := (h.cel k hk).lt; omega
  have hM0 : MemM (w.alloc (.cells (wdA F) 184)) nd pv sn X (up1 own d (partM pv y (own d) F 0)) sh := by
    have : partM pv y (own d) F 0 = own d := by
      funext a
      unfold partM
      rw [if_neg (by omega)]
    rw [this, up1_self]
    exact h.below hB0 (Nat.le_refl _)
  have hs1 : (w.alloc (.cells (wdA F) 184)).heap.size = w.heap.size + 1 := by simp
  obtain ⟨w1, hw1⟩ : ∃ w1, w.alloc (.cells (wdA F) 184) = w1 := ⟨_, rfl⟩
  rw [hw1] at hW0 hB0 hT0 hM0 hs1
  have HW0 : Hid (Row w1 w.heap.size (wdL F) 184) := hW0
  have HM0 : Hid _ := hM0
  have HB0 : Hid _ := hB0
  have HT0 : Hid _ := hT0
  have HS1 : Hid _ := hs1
  have q0 := (hB0.cell (p := ⟨g, o, none⟩) lg).trans hp0
  have q1 := (hB0.cell (p := ⟨g, o + 1, none⟩) lg).trans hp
  clear hy hW0 hB0 hT0 hM0 hs1 h hp0 hp
  go_enter Tryz.func197, Tryz.ntmps197
  go_wp2_with fail
  try rw [hw1]
  have HW1 : Hid _ := hw1
  clear hw1
  go_loopw [8] (fun u wr => ∃ i : Nat, i ≤ ln ∧ u = .int .i64 i ∧ MemM wr nd pv sn X (up1 own d (partM pv y (own d) F i)) sh ∧ Touch (X.own nd) w1 wr) (fun u _ => ln - (intOf u).toNat)
  case atStart => exact ⟨0, by omega, rfl, HM0.out, Touch.refl _ _⟩
  case round =>
    obtain ⟨i, hi, rfl, hM, hT⟩ := hrel
    have hlg1 : g < w1.heap.size := by have := HS1.out; omega
    have r0 : wr.cell? ⟨g, o, none⟩ = some (.int .i64 ln) := by rw [← q0]; simp only [World.cell?]; rw [hT.block g hlg1 hg]
    have r1 : wr.cell? ⟨g, o + 1, none⟩ = some (.slice (some ⟨X.r, 0, none⟩) nd X.rc) := by rw [← q1]; simp only [World.cell?]; rw [hT.block g hlg1 hg]
    have lr := cell_lt r0
    by_cases hlt : i < ln
    · have hi4 : i < 4 := by omega
      have rb : Row wr w.heap.size (wdL F) 184 := Row.same (w := w1) HW0.out (hT.block _ (by have := HS1.out; omega) hno)
      have c1 : wr.cell? ⟨w.heap.size, i, none⟩ = some (.int .i64 (F i)) := by rw [rb.cell, wdL_at F hi4]
      have lb := rb.lt
      have hF := mFill_any nd pv sn X _ sh g o d (y + i) (F i) wr.drew (hM.below ((Below.refl _ _).drew) (Nat.le_refl _)) r1 hd (by omega)
      rw [show ((y + i : Nat) : Int) = (y : Int) + (i : Int) by omega] at hF
      have HT : Hid _ := hT
      have wr1 : IntKind.i64.wrap (y : Int) = (y : Int) := by rw [IntKind.wrap_i64]; omega
      have wr2 : IntKind.i64.wrap ((y : Int) + (i : Int)) = (y : Int) + (i : Int) := by rw [IntKind.wrap_i64]; omega
      clear rb hM hT
      go_wp2_with fail
      go_region_with (go_at_call 118; refine hF.mono ?_; rintro e w2 ⟨rfl, hM2, hT2⟩)
      all_goals
        have hp' : (if y + i < pv then up1 (up1 own d (partM pv y (own d) F i)) d (up1 (up1 own d (partM pv y (own d) F i) d) (y + i) (F i)) else up1 own d (partM pv y (own d) F i)) = up1 own d (partM pv y (own d) F (i + 1)) := by
          rw [part_step]
          by_cases c : y + i < pv
          · rw [if_pos c, if_pos c, up1_up1, up1_at]
          · rw [if_neg c, if_neg c]
        rw [hp'] at hM2
        have HM2 : Hid _ := hM2
        have HT2 : Hid _ := (HT.out.drewN 1).trans hT2
        clear hM2 hT2 hp'
      all_goals go_wp2_with fail
      all_goals go_roundw
      all_goals try (case rel => exact ⟨i + 1, by omega, by go_num, HM2.out, HT2.out⟩)
      all_goals try (case measure => simp [intOf]; omega)
    · have ei : i = ln := by omega
      subst ei
      have HM : Hid _ := hM
      have HT : Hid _ := hT
      clear hM hT
      go_wp2
      refine bodyPost_end (results_none rfl _ _ _) rfl ?_
      exact ⟨rfl, by rw [HWR.out]; exact HM.out, HT0.out.trans HT.out⟩
end Go.Proofs.YtcmcfafhllpojaaGreat
