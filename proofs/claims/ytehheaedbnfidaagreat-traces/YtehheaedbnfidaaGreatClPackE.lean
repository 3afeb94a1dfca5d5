/-
  Near4, Near5
-/
import Derived.Test.YtehheaedbnfidaaGreatClPackD
namespace Go.Proofs.YtehheaedbnfidaaGreat
open Go.RowKit

theorem state_drop {nn : Nat} {nr : Nat → Nat → Cp} {d : Int} {x j : Nat} {p : Nat → Bool} (hp : p j = false) : stateN nn (dropAllN p nn nr d x) j d x = stateN nn nr j d x := by
  unfold stateN dropAllN
  simp [hp]
theorem drop_step {nn : Nat} {nr : Nat → Nat → Cp} {d : Int} {x j : Nat} {p q : Nat → Bool} (hp : p j = false) (hq : ∀ i, q i = (p i || decide (i = j))) : dropAllN q nn nr d x = dropN nn (dropAllN p nn nr d x) j d x := by
  unfold dropN
  rw [state_drop hp]
  funext k i
  by_cases hs : stateN nn nr j d x = 0
  · rw [if_pos hs]
    unfold dropAllN
    by_cases e : k = j
    · subst e; simp [hs]
    · simp [hq, e]
  · rw [if_neg hs]
    unfold dropAllN up2
    by_cases e : k = j
    · subst e
      by_cases e2 : i = x % nn
      · simp [hq, e2, hs]
      · simp [e2]
    · simp [hq, e]
theorem drop_none {nn : Nat} {nr : Nat → Nat → Cp} {d : Int} {x : Nat} {p : Nat → Bool} (hp : ∀ i, p i = false) : dropAllN p nn nr d x = nr := by
  funext k i
  simp [dropAllN, hp]
theorem drop_skip {nn : Nat} {nr : Nat → Nat → Cp} {d : Int} {x : Nat} {p q : Nat → Bool} (hp : ∀ i, p i = q i) : dropAllN p nn nr d x = dropAllN q nn nr d x := by
  have : p = q := funext hp
  rw [this]

theorem state_share {nn : Nat} {nr : Nat → Nat → Cp} {d : Int} {x j : Nat} {p : Nat → Bool} (hp : p j = false) : stateN nn (shareAllN p nn nr d x) j d x = stateN nn nr j d x := by
  unfold stateN shareAllN
  simp [hp]
theorem share_hit {nn : Nat} {nr : Nat → Nat → Cp} {d : Int} {x j : Nat} {p q : Nat → Bool} (hq : ∀ i, q i = (p i || decide (i = j))) (hs : stateN nn nr j d x ≠ 0) : shareAllN q nn nr d x = putN nn (shareAllN p nn nr d x) j d x 1 := by
  funext k i
  unfold shareAllN putN up2
  by_cases e : k = j
  · subst e
    by_cases e2 : i = x % nn
    · simp [hq, e2, hs]
    · simp [e2]
  · simp [hq, e]
theorem share_miss {nn : Nat} {nr : Nat → Nat → Cp} {d : Int} {x j : Nat} {p q : Nat → Bool} (hq : ∀ i, q i = (p i || decide (i = j))) (hs : stateN nn nr j d x = 0) : shareAllN q nn nr d x = shareAllN p nn nr d x := by
  funext k i
  unfold shareAllN
  by_cases e : k = j
  · subst e; simp [hs]
  · simp [hq, e]
theorem share_none {nn : Nat} {nr : Nat → Nat → Cp} {d : Int} {x : Nat} {p : Nat → Bool} (hp : ∀ i, p i = false) : shareAllN p nn nr d x = nr := by
  funext k i
  simp [shareAllN, hp]
theorem share_skip {nn : Nat} {nr : Nat → Nat → Cp} {d : Int} {x : Nat} {p q : Nat → Bool} (hp : ∀ i, p i = q i) : shareAllN p nn nr d x = shareAllN q nn nr d x := by
  have : p = q := funext hp
  rw [this]

set_option maxRecDepth 100000 in
set_option maxHeartbeats 3200000 in
theorem ndropAll_any (nc nn : Nat) (X : NLoc) (nr : Nat → Nat → Cp) (g o x : Nat) (d : Int) (w : World) (h : NearM w nc nn X nr) (hp : w.cell? ⟨g, o, none⟩ = some (.slice (some ⟨X.r, 0, none⟩) nc X.rc)) (hg : ¬ X.own nc g) (hx : x ≤ 1000000) :
    Calls Tryz.prog 162 #[.pointer (some ⟨g, o, none⟩), .int .i64 d, .int .i64 x] w fun e w' => e = .returned (.tuple #[]) ∧ NearM w' nc nn X (dropAllN (fun i => decide (i < nc)) nn nr d x) ∧ Touch (X.own nc) w w' := by
  have lg : g < w.heap.size := cell_lt hp
  have c3 := h.c1
  go_enter Tryz.func162, Tryz.ntmps162
  go_wp2_with fail
  go_loopw [6] (fun u wr => ∃ j : Nat, j ≤ nc ∧ u = .int .i64 j ∧ NearM wr nc nn X (dropAllN (fun i => decide (i < j)) nn nr d x) ∧ Touch (X.own nc) w wr) (fun u _ => nc - (intOf u).toNat)
  case atStart => exact ⟨0, by omega, rfl, by rw [drop_none (by simp)]; exact h, Touch.refl _ _⟩
  case round =>
    obtain ⟨j, hj, rfl, hN, hT⟩ := hrel
    have r0 : wr.cell? ⟨g, o, none⟩ = some (.slice (some ⟨X.r, 0, none⟩) nc X.rc) := by
      have e : wr.cell? ⟨g, o, none⟩ = w.cell? ⟨g, o, none⟩ := by simp only [World.cell?]; rw [hT.block g lg hg]
      rw [e]; exact hp
    have HT : Hid _ := hT
    clear hT
    by_cases hlt : j < nc
    · go_wp2_with fail
      refine (ndrop_any nc nn X _ g o j x d _ hN r0 hlt hx).mono ?_; rintro e w1 ⟨rfl, hN1, hT1⟩
      have HT1 : Hid _ := HT.out.trans hT1
      rw [← drop_step (q := fun i => decide (i < j + 1)) (by simp) (fun i => by by_cases e1 : i < j <;> by_cases e2 : i = j <;> simp [e1, e2] <;> omega)] at hN1
      clear hT1
      go_wp2_with fail
      go_roundw
      case rel => exact ⟨j + 1, by omega, by go_num, hN1, HT1.out⟩
      case measure => simp [intOf]; omega
    · have ej : j = nc := by omega
      subst ej
      go_wp2
      refine bodyPost_end (results_none rfl _ _ _) rfl ?_
      exact ⟨rfl, hN, HT.out⟩

set_option maxRecDepth 100000 in
set_option maxHeartbeats 3200000 in
theorem ndropOthers_any (nc nn : Nat) (X : NLoc) (nr : Nat → Nat → Cp) (g o k x : Nat) (d : Int) (w : World) (h : NearM w nc nn X nr) (hp : w.cell? ⟨g, o, none⟩ = some (.slice (some ⟨X.r, 0, none⟩) nc X.rc)) (hg : ¬ X.own nc g) (hx : x ≤ 1000000) :
    Calls Tryz.prog 166 #[.pointer (some ⟨g, o, none⟩), .int .i64 k, .int .i64 d, .int .i64 x] w fun e w' => e = .returned (.tuple #[]) ∧ NearM w' nc nn X (dropAllN (fun i => decide (i < nc ∧ i ≠ k)) nn nr d x) ∧ Touch (X.own nc) w w' := by
  have lg : g < w.heap.size := cell_lt hp
  have c3 := h.c1
  go_enter Tryz.func166, Tryz.ntmps166
  go_wp2_with fail
  go_loopw [8] (fun u wr => ∃ j : Nat, j ≤ nc ∧ u = .int .i64 j ∧ NearM wr nc nn X (dropAllN (fun i => decide (i < j ∧ i ≠ k)) nn nr d x) ∧ Touch (X.own nc) w wr) (fun u _ => nc - (intOf u).toNat)
  case atStart => exact ⟨0, by omega, rfl, by rw [drop_none (by simp)]; exact h, Touch.refl _ _⟩
  case round =>
    obtain ⟨j, hj, rfl, hN, hT⟩ := hrel
    have r0 : wr.cell? ⟨g, o, none⟩ = some (.slice (some ⟨X.r, 0, none⟩) nc X.rc) := by
      have e : wr.cell? ⟨g, o, none⟩ = w.cell? ⟨g, o, none⟩ := by simp only [World.cell?]; rw [hT.block g lg hg]
      rw [e]; exact hp
    have HT : Hid _ := hT
    clear hT
    by_cases hlt : j < nc
    · by_cases hjk : (j : Int) = (k : Int)
      · have HK : Hid (j = k) := by unfold Hid; omega
        go_wp2_with fail
        go_roundw
        case rel => exact ⟨j + 1, by omega, by go_num, by rw [drop_skip (q := fun i => decide (i < j ∧ i ≠ k)) (fun i => by have := HK.out; by_cases e1 : i < j <;> by_cases e2 : i = k <;> simp [e1, e2] <;> omega)]; exact hN, HT.out⟩
        case measure => simp [intOf]; omega
      · have HK : Hid (j ≠ k) := by unfold Hid; omega
        go_wp2_with fail
        refine (ndrop_any nc nn X _ g o j x d _ hN r0 hlt hx).mono ?_; rintro e w1 ⟨rfl, hN1, hT1⟩
        have HT1 : Hid _ := HT.out.trans hT1
        rw [← drop_step (q := fun i => decide (i < j + 1 ∧ i ≠ k)) (by simp) (fun i => by have := HK.out; by_cases e1 : i < j <;> by_cases e2 : i = j <;> by_cases e3 : i = k <;> simp [e1, e2, e3] <;> omega)] at hN1
        clear hT1
        go_wp2_with fail
        go_roundw
        case rel => exact ⟨j + 1, by omega, by go_num, hN1, HT1.out⟩
        case measure => simp [intOf]; omega
    · have ej : j = nc := by omega
      subst ej
      go_wp2
      refine bodyPost_end (results_none rfl _ _ _) rfl ?_
      exact ⟨rfl, hN, HT.out⟩
end Go.Proofs.YtehheaedbnfidaaGreat

namespace Go.Proofs.YtehheaedbnfidaaGreat
open Go.RowKit

set_option maxRecDepth 100000 in
set_option maxHeartbeats 3200000 in
theorem nshareOthers_any (nc nn : Nat) (X : NLoc) (nr : Nat → Nat → Cp) (g o k x : Nat) (d : Int) (w : World) (h : NearM w nc nn X nr) (hp : w.cell? ⟨g, o, none⟩ = some (.slice (some ⟨X.r, 0, none⟩) nc X.rc)) (hg : ¬ X.own nc g) (hx : x ≤ 1000000) :
    Calls Tryz.prog 168 #[.pointer (some ⟨g, o, none⟩), .int .i64 k, .int .i64 d, .int .i64 x] w fun e w' => e = .returned (.bool (foundN nn nr k d x nc)) ∧ NearM w' nc nn X (shareAllN (fun i => decide (i < nc ∧ i ≠ k)) nn nr d x) ∧ Touch (X.own nc) w w' := by
  have lg : g < w.heap.size := cell_lt hp
  have c3 := h.c1
  go_enter Tryz.func168, Tryz.ntmps168
  go_wp2_with fail
  go_loopw [9, 10] (fun f u wr => ∃ (j : Nat) (fb : Bool), j ≤ nc ∧ u = .int .i64 j ∧ f = .bool fb ∧ fb = foundN nn nr k d x j ∧ NearM wr nc nn X (shareAllN (fun i => decide (i < j ∧ i ≠ k)) nn nr d x) ∧ Touch (X.own nc) w wr) (fun _ u _ => nc - (intOf u).toNat)
  case atStart => exact ⟨0, false, by omega, rfl, rfl, rfl, by rw [share_none (by simp)]; exact h, Touch.refl _ _⟩
  case round =>
    obtain ⟨j, fb, hj, rfl, rfl, hfb, hN, hT⟩ := hrel
    have r0 : wr.cell? ⟨g, o, none⟩ = some (.slice (some ⟨X.r, 0, none⟩) nc X.rc) := by
      have e : wr.cell? ⟨g, o, none⟩ = w.cell? ⟨g, o, none⟩ := by simp only [World.cell?]; rw [hT.block g lg hg]
      rw [e]; exact hp
    have HT : Hid _ := hT
    have HF : Hid _ := hfb
    have lr : g < wr.heap.size := cell_lt r0
    clear hT hfb
    by_cases hlt : j < nc
    · by_cases hjk : (j : Int) = (k : Int)
      · have HK : Hid (j = k) := by unfold Hid; omega
        go_wp2_with fail
        go_roundw
        case rel => exact ⟨j + 1, fb, by omega, by go_num, rfl, by rw [foundN, HF.out]; simp [HK.out], by rw [share_skip (q := fun i => decide (i < j ∧ i ≠ k)) (fun i => by have := HK.out; by_cases e1 : i < j <;> by_cases e2 : i = k <;> simp [e1, e2] <;> omega)]; exact hN, HT.out⟩
        case measure => simp [intOf]; omega
      · have HK : Hid (j ≠ k) := by unfold Hid; omega
        have HSt : Hid _ := state_share (nn := nn) (nr := nr) (d := d) (x := x) (j := j) (p := fun i => decide (i < j ∧ i ≠ k)) (by simp)
        have HQ : Hid (∀ i, decide (i < j + 1 ∧ i ≠ k) = (decide (i < j ∧ i ≠ k) || decide (i = j))) := fun i => by have := HK.out; by_cases e1 : i < j <;> by_cases e2 : i = j <;> by_cases e3 : i = k <;> simp [e1, e2, e3] <;> omega
        by_cases hs : stateN nn nr j d x = 0
        · go_wp2_with fail
          refine (nstate_any nc nn X _ g o j x d _ hN r0 hlt hx).mono ?_; rintro e w1 ⟨rfl, hb1⟩
          rw [HSt.out, hs]
          have hN1 := hN.below hb1 (Nat.le_refl _)
          have HT1 : Hid _ := HT.out.trans (Touch.of_below (F := X.own nc) hb1 (Nat.le_refl _))
          go_wp2_with fail
          go_roundw
          case rel => exact ⟨j + 1, fb, by omega, by go_num, rfl, by rw [foundN, HF.out]; simp [hs], by rw [share_miss (p := fun i => decide (i < j ∧ i ≠ k)) (j := j) HQ.out hs]; exact hN1, HT1.out⟩
          case measure => simp [intOf]; omega
        · have hsb : (stateN nn nr j d x == 0) = false := by simp [hs]
          have HS : Hid _ := hs
          clear hs
          go_wp2_with fail
          refine (nstate_any nc nn X _ g o j x d _ hN r0 hlt hx).mono ?_; rintro e w1 ⟨rfl, hb1⟩
          rw [HSt.out]
          have hN1 := hN.below hb1 (Nat.le_refl _)
          have r1 := (hb1.cell (p := ⟨g, o, none⟩) lr).trans r0
          have HT1 : Hid _ := HT.out.trans (Touch.of_below (F := X.own nc) hb1 (Nat.le_refl _))
          go_wp2_with fail
          refine (nput_any nc nn X _ g o j x d 1 _ hN1 r1 hlt hx).mono ?_; rintro e w2 ⟨rfl, hN2, hT2⟩
          rw [← share_hit (q := fun i => decide (i < j + 1 ∧ i ≠ k)) HQ.out HS.out] at hN2
          have HT2 : Hid _ := HT1.out.trans hT2
          clear hT2
          go_wp2_with fail
          go_roundw
          case rel => exact ⟨j + 1, true, by omega, by go_num, rfl, by rw [foundN]; simp [HK.out]; exact Or.inr HS.out, hN2, HT2.out⟩
          case measure => simp [intOf]; omega
    · have ej : j = nc := by omega
      subst ej
      go_wp2
      go_ret
      exact ⟨ret_bool HF.out, hN, HT.out⟩

theorem NearM.congr {w : World} {nc nn : Nat} {X : NLoc} {nr nr' : Nat → Nat → Cp} (h : NearM w nc nn X nr) (he : ∀ k p, k < nc → p < nn → nr k p = nr' k p) : NearM w nc nn X nr' :=
  ⟨h.row, fun k hk => (h.cel k hk).congr fun i hi => by rw [he k (i / 3) hk (by omega)], h.rcap, h.bcap, h.dis, h.n0, h.n1, h.c1⟩

def wiped (nr : Nat → Nat → Cp) (j i : Nat) : Nat → Nat → Cp := fun k p => if k < j ∨ (k = j ∧ p < i) then cpE else nr k p

set_option maxRecDepth 100000 in
set_option maxHeartbeats 3200000 in
theorem nEmpty_any (nc nn : Nat) (X : NLoc) (nr : Nat → Nat → Cp) (g o : Nat) (w : World) (h : NearM w nc nn X nr) (hp : w.cell? ⟨g, o, none⟩ = some (.slice (some ⟨X.r, 0, none⟩) nc X.rc)) (hg : ¬ X.own nc g) :
    Calls Tryz.prog 144 #[.pointer (some ⟨g, o, none⟩)] w fun e w' => e = .returned (.tuple #[]) ∧ NearM w' nc nn X (fun _ _ => cpE) ∧ Touch (X.own nc) w w' := by
  have lg : g < w.heap.size := cell_lt hp
  have c3 := h.c1
  have n4 := h.n1
  go_enter Tryz.func144, Tryz.ntmps144
  go_wp2_with fail
  go_loopw [2] (fun u wr => ∃ j : Nat, j ≤ nc ∧ u = .int .i64 j ∧ NearM wr nc nn X (wiped nr j 0) ∧ Touch (X.own nc) w wr) (fun u _ => nc - (intOf u).toNat)
  case atStart => exact ⟨0, by omega, rfl, h.congr (fun k p _ _ => by simp [wiped]), Touch.refl _ _⟩
  case round =>
    obtain ⟨j, hj, rfl, hN, hT⟩ := hrel
    have r0 : wr.cell? ⟨g, o, none⟩ = some (.slice (some ⟨X.r, 0, none⟩) nc X.rc) := by
      have e : wr.cell? ⟨g, o, none⟩ = w.cell? ⟨g, o, none⟩ := by simp only [World.cell?]; rw [hT.block g lg hg]
      rw [e]; exact hp
    have HT : Hid _ := hT
    have HN : Hid _ := hN
    clear hT
    by_cases hlt : j < nc
    · go_wp2_with fail
      clear r0
      go_loopw [3] (fun u wx => ∃ i : Nat, i ≤ nn ∧ u = .int .i64 i ∧ NearM wx nc nn X (wiped nr j i) ∧ Touch (X.own nc) w wx) (fun u _ => nn - (intOf u).toNat)
      case atStart => exact ⟨0, by omega, rfl, HN.out, HT.out⟩
      case round =>
        obtain ⟨i, hi, rfl, hM, hU⟩ := hrel
        have s0 : wr.cell? ⟨g, o, none⟩ = some (.slice (some ⟨X.r, 0, none⟩) nc X.rc) := by
          have e : wr.cell? ⟨g, o, none⟩ = w.cell? ⟨g, o, none⟩ := by simp only [World.cell?]; rw [hU.block g lg hg]
          rw [e]; exact hp
        have c1 := hM.row.cell hlt
        have HU : Hid _ := hU
        have l0 := cell_lt s0
        have l1 := hM.row.lt
        have l2 := (hM.cel j hlt).lt
        clear hU
        by_cases hli : i < nn
        · obtain ⟨e1, e2, e3⟩ := hM.at hlt hli
          have f1 := (hM.cel j hlt).frozen (i * 3)
          have f2 := (hM.cel j hlt).frozen (i * 3 + 1)
          have f3 := (hM.cel j hlt).frozen (i * 3 + 2)
          have HM : Hid _ := hM
          clear hM
          go_wp2_with fail
          go_region_with (go_at_call 138; refine (nempty_any _).mono ?_; rintro e w2 ⟨rfl, rfl⟩)
          all_goals
            have hP := HM.out.put (p := i) hlt cpE
            have hP1 : NearM _ nc nn X (wiped nr j (i + 1)) := (hP.1.below (((Below.refl _ _).alloc (Nat.le_refl _) (.cells #[.int .i64 (-1), .int .i64 (-1), .int .i64 0] 62)).drew) (Nat.le_refl _)).congr (fun k p hk hp => by
              unfold up2 wiped
              by_cases a : k = j <;> by_cases b : p = i <;> by_cases c : p < i <;> simp [a, b, c] <;> omega)
            have hT1 := (HU.out.trans hP.2).trans (Touch.of_below (F := X.own nc) (((Below.refl _ _).alloc (Nat.le_refl _) (.cells #[.int .i64 (-1), .int .i64 (-1), .int .i64 0] 62)).drew) (Nat.le_refl _))
            have HP1 : Hid _ := hP1
            have HT1 : Hid _ := hT1
            clear hP hP1 hT1
          all_goals go_wp2_with fail
          all_goals go_roundw
          all_goals try (case rel => exact ⟨i + 1, by omega, by go_num, HP1.out, HT1.out⟩)
          all_goals try (case measure => simp [intOf]; omega)
        · have ei : i = nn := by omega
          subst ei
          have HM : Hid _ := hM
          clear hM
          go_wp2_with fail
          go_roundw
          case rel => exact ⟨j + 1, by omega, by go_num, HM.out.congr (fun k p hk hp => by
              unfold wiped
              by_cases a : k = j <;> by_cases b : k < j <;> simp [a, b] <;> omega), HU.out⟩
          case measure => simp [intOf]; omega
    · have ej : j = nc := by omega
      subst ej
      go_wp2
      refine bodyPost_end (results_none rfl _ _ _) rfl ?_
      exact ⟨rfl, hN.congr (fun k p hk hp => by simp [wiped, hk]), HT.out⟩
end Go.Proofs.YtehheaedbnfidaaGreat
