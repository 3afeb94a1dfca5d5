import Derived.Test.YtehheaedbnfidaaGreatClWHeap
set_option maxRecDepth 100000
namespace Go.Proofs.YtehheaedbnfidaaGreat
open Go.RowKit
set_option maxHeartbeats 1600000 in
theorem check_any (c:Cf)(s:Sl)(w:World)(h:CfgAt w c s) :
  Calls Tryz.prog 75 #[cfgV c s] w fun e w'=>e = .returned (.int .i64 (chk c))∧Below w.heap.size w w':=by
 have k0:=Kept.start w (cfgA c s) 43
 rcases Bool.eq_false_or_eq_true (shapeB c) with h1|h1
 ·
  obtain ⟨d1,d2,d3,d4,d5,_⟩:=shape_bounds h1
  have d6:1≤c.near:=by omega
  clear d5
  rcases Bool.eq_false_or_eq_true (waysB c) with h2|h2
  ·
   rcases Bool.eq_false_or_eq_true (slotsB c) with h3 | h3
   ·
    obtain ⟨e1,e2,e3,e4⟩:=slots_bounds h3
    rcases Bool.eq_false_or_eq_true (turnsB c) with h4|h4
    ·
     rcases Bool.eq_false_or_eq_true (quantumB c) with h5 | h5
     ·
      go_enter Tryz.func75,Tryz.ntmps75
      go_wp2_with fail
      refine (shape_any c s _).mono ?_;rintro e w1 ⟨rfl,hb1⟩;have k1:=k0.next hb1 rfl;have q1:=k1.box
      go_wp2_with fail
      refine (ways_any c s _ (h.below k1.below (Nat.le_refl _)) d3 d4).mono ?_;rintro e w2 ⟨rfl,hb2⟩;have k2:=k1.next hb2 rfl;have q2:=k2.box
      clear q1
      go_wp2_with fail
      refine (slots_any c s _ (h.below k2.below (Nat.le_refl _)) d3 d4).mono ?_;rintro e w3 ⟨rfl,hb3⟩;have k3:=k2.next hb3 rfl;have q3:=k3.box
      clear q2
      go_wp2_with fail
      refine (turns_any c s _ (h.below k3.below (Nat.le_refl _)) d3 d4).mono ?_;rintro e w4 ⟨rfl,hb4⟩;have k4:=k3.next hb4 rfl;have q4:=k4.box
      clear q3
      go_wp2_with fail
      refine (quantum_any c s _ (h.below k4.below (Nat.le_refl _)) d1 d2 e1 e2 e4 d6).mono ?_;rintro e w5 ⟨rfl,hb5⟩;have k5:=k4.next hb5 rfl;have q5:=k5.box
      clear q4
      go_wp2
      go_ret
      exact ⟨ret_int (by simp [chk,h1,h2,h3,h4,h5]),k5.below⟩
     ·
      go_enter Tryz.func75,Tryz.ntmps75
      go_wp2_with fail
      refine (shape_any c s _).mono ?_;rintro e w1 ⟨rfl,hb1⟩;have k1:=k0.next hb1 rfl;have q1:=k1.box
      go_wp2_with fail
      refine (ways_any c s _ (h.below k1.below (Nat.le_refl _)) d3 d4).mono ?_;rintro e w2 ⟨rfl,hb2⟩;have k2:=k1.next hb2 rfl;have q2:=k2.box
      clear q1
      go_wp2_with fail
      refine (slots_any c s _ (h.below k2.below (Nat.le_refl _)) d3 d4).mono ?_;rintro e w3 ⟨rfl,hb3⟩;have k3:=k2.next hb3 rfl;have q3:=k3.box
      clear q2
      go_wp2_with fail
      refine (turns_any c s _ (h.below k3.below (Nat.le_refl _)) d3 d4).mono ?_;rintro e w4 ⟨rfl,hb4⟩;have k4:=k3.next hb4 rfl;have q4:=k4.box
      clear q3
      go_wp2_with fail
      refine (quantum_any c s _ (h.below k4.below (Nat.le_refl _)) d1 d2 e1 e2 e4 d6).mono ?_;rintro e w5 ⟨rfl,hb5⟩;have k5:=k4.next hb5 rfl;have q5:=k5.box
      clear q4
      go_wp2
      go_ret
      exact ⟨ret_int (by simp [chk,h1,h2,h3,h4,h5]),k5.below⟩
    ·
     go_enter Tryz.func75,Tryz.ntmps75
     go_wp2_with fail
     refine (shape_any c s _).mono ?_;rintro e w1 ⟨rfl,hb1⟩;have k1:=k0.next hb1 rfl;have q1:=k1.box
     go_wp2_with fail
     refine (ways_any c s _ (h.below k1.below (Nat.le_refl _)) d3 d4).mono ?_;rintro e w2 ⟨rfl,hb2⟩;have k2:=k1.next hb2 rfl;have q2:=k2.box
     clear q1
     go_wp2_with fail
     refine (slots_any c s _ (h.below k2.below (Nat.le_refl _)) d3 d4).mono ?_;rintro e w3 ⟨rfl,hb3⟩;have k3:=k2.next hb3 rfl;have q3:=k3.box
     clear q2
     go_wp2_with fail
     refine (turns_any c s _ (h.below k3.below (Nat.le_refl _)) d3 d4).mono ?_;rintro e w4 ⟨rfl,hb4⟩;have k4:=k3.next hb4 rfl;have q4:=k4.box
     clear q3
     go_wp2
     go_ret
     exact ⟨ret_int (by simp [chk,h1,h2,h3,h4]),k4.below⟩
   ·
    go_enter Tryz.func75,Tryz.ntmps75
    go_wp2_with fail
    refine (shape_any c s _).mono ?_;rintro e w1 ⟨rfl,hb1⟩;have k1:=k0.next hb1 rfl;have q1:=k1.box
    go_wp2_with fail
    refine (ways_any c s _ (h.below k1.below (Nat.le_refl _)) d3 d4).mono ?_;rintro e w2 ⟨rfl,hb2⟩;have k2:=k1.next hb2 rfl;have q2:=k2.box
    clear q1
    go_wp2_with fail
    refine (slots_any c s _ (h.below k2.below (Nat.le_refl _)) d3 d4).mono ?_;rintro e w3 ⟨rfl,hb3⟩;have k3:=k2.next hb3 rfl;have q3:=k3.box
    clear q2
    go_wp2
    go_ret
    exact ⟨ret_int (by simp [chk,h1,h2,h3]),k3.below⟩
  ·
   go_enter Tryz.func75,Tryz.ntmps75
   go_wp2_with fail
   refine (shape_any c s _).mono ?_;rintro e w1 ⟨rfl,hb1⟩;have k1:=k0.next hb1 rfl;have q1:=k1.box
   go_wp2_with fail
   refine (ways_any c s _ (h.below k1.below (Nat.le_refl _)) d3 d4).mono ?_;rintro e w2 ⟨rfl,hb2⟩;have k2:=k1.next hb2 rfl;have q2:=k2.box
   clear q1
   go_wp2
   go_ret
   exact ⟨ret_int (by simp [chk,h1,h2]),k2.below⟩
 ·
  go_enter Tryz.func75,Tryz.ntmps75
  go_wp2_with fail
  refine (shape_any c s _).mono ?_;rintro e w1 ⟨rfl,hb1⟩;have k1:=k0.next hb1 rfl;have q1:=k1.box
  go_wp2
  go_ret
  exact ⟨ret_int (by simp [chk,h1]),k1.below⟩
end Go.Proofs.YtehheaedbnfidaaGreat
