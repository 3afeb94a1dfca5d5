import Derived.Test.YtehheaedbnfidaaGreatClRef2
import Derived.Test.YtehheaedbnfidaaGreatClWRef3
set_option maxRecDepth 100000
namespace Go.Proofs.YtehheaedbnfidaaGreat
open Go.RowKit
set_option maxHeartbeats 1600000 in
theorem rcheck_no (c:Cf)(s:Sl)(w:World)(h:CfgAt w c s)(hn:(shapeB c&&waysB c&&slotsB c&&turnsB c)=false) :
  Calls Tryz.prog 31 #[cfgV c s] w fun e w'=>e = .returned (.int .i64 (chk c))∧Below w.heap.size w w':=by
 have k0:=Kept.start w (cfgA c s) 43
 have HN:Hid _:=hn
 clear hn
 rcases Bool.eq_false_or_eq_true (shapeB c) with h1|h1
 ·
  obtain ⟨d1,d2,d3,d4,d5,_⟩:=shape_bounds h1
  clear d5
  rcases Bool.eq_false_or_eq_true (waysB c) with h2|h2
  ·
   rcases Bool.eq_false_or_eq_true (slotsB c) with h3 | h3
   ·
    rcases Bool.eq_false_or_eq_true (turnsB c) with h4 | h4
    · have:=HN.out;simp [h1,h2,h3,h4] at this
    ·
     go_enter Tryz.func31,Tryz.ntmps31
     go_wp2_with fail
     refine (rshape_any c s _).mono ?_;rintro e w1 ⟨rfl,hb1⟩;have k1:=k0.next hb1 rfl;have q1:=k1.box
     go_wp2_with fail
     refine (rways_any c s _ (h.below k1.below (Nat.le_refl _)) d3 d4).mono ?_;rintro e w2 ⟨rfl,hb2⟩;have k2:=k1.next hb2 rfl;have q2:=k2.box
     clear q1
     go_wp2_with fail
     refine (rslots_any c s _ (h.below k2.below (Nat.le_refl _)) d3 d4).mono ?_;rintro e w3 ⟨rfl,hb3⟩;have k3:=k2.next hb3 rfl;have q3:=k3.box
     clear q2
     go_wp2_with fail
     refine (rturns_any c s _ (h.below k3.below (Nat.le_refl _))).mono ?_;rintro e w4 ⟨rfl,hb4⟩;have k4:=k3.next hb4 rfl;have q4:=k4.box
     clear q3
     go_wp2
     go_ret
     exact ⟨ret_int (by simp [chk,h1,h2,h3,h4]),k4.below⟩
   ·
    go_enter Tryz.func31,Tryz.ntmps31
    go_wp2_with fail
    refine (rshape_any c s _).mono ?_;rintro e w1 ⟨rfl,hb1⟩;have k1:=k0.next hb1 rfl;have q1:=k1.box
    go_wp2_with fail
    refine (rways_any c s _ (h.below k1.below (Nat.le_refl _)) d3 d4).mono ?_;rintro e w2 ⟨rfl,hb2⟩;have k2:=k1.next hb2 rfl;have q2:=k2.box
    clear q1
    go_wp2_with fail
    refine (rslots_any c s _ (h.below k2.below (Nat.le_refl _)) d3 d4).mono ?_;rintro e w3 ⟨rfl,hb3⟩;have k3:=k2.next hb3 rfl;have q3:=k3.box
    clear q2
    go_wp2
    go_ret
    exact ⟨ret_int (by simp [chk,h1,h2,h3]),k3.below⟩
  ·
   go_enter Tryz.func31,Tryz.ntmps31
   go_wp2_with fail
   refine (rshape_any c s _).mono ?_;rintro e w1 ⟨rfl,hb1⟩;have k1:=k0.next hb1 rfl;have q1:=k1.box
   go_wp2_with fail
   refine (rways_any c s _ (h.below k1.below (Nat.le_refl _)) d3 d4).mono ?_;rintro e w2 ⟨rfl,hb2⟩;have k2:=k1.next hb2 rfl;have q2:=k2.box
   clear q1
   go_wp2
   go_ret
   exact ⟨ret_int (by simp [chk,h1,h2]),k2.below⟩
 ·
  go_enter Tryz.func31,Tryz.ntmps31
  go_wp2_with fail
  refine (rshape_any c s _).mono ?_;rintro e w1 ⟨rfl,hb1⟩;have k1:=k0.next hb1 rfl;have q1:=k1.box
  go_wp2
  go_ret
  exact ⟨ret_int (by simp [chk,h1]),k1.below⟩
set_option maxHeartbeats 1600000 in
theorem rcheck_yes (c:Cf)(s:Sl)(w:World)(h:CfgAt w c s)(h1:shapeB c=true)(h2:waysB c=true)(h3:slotsB c=true)(h4:turnsB c=true) :
  Calls Tryz.prog 31 #[cfgV c s] w fun e w'=>e = .returned (.int .i64 (chk c))∧Below w.heap.size w w':=by
 have k0:=Kept.start w (cfgA c s) 43
 obtain ⟨d1,d2,d3,d4,d5,_⟩:=shape_bounds h1
 have d6:1≤c.near:=by omega
 clear d5
 obtain ⟨e1,e2,e3,e4⟩:=slots_bounds h3
 obtain ⟨g1,g2⟩:=worst_bd d1 d2 e1 e2 e4
 by_cases f1:c.flush<c.near
 ·
  go_enter Tryz.func31,Tryz.ntmps31
  go_wp2_with fail
  refine (rshape_any c s _).mono ?_;rintro e w1 ⟨rfl,hb1⟩;have k1:=k0.next hb1 rfl;have q1:=k1.box
  go_wp2_with fail
  refine (rways_any c s _ (h.below k1.below (Nat.le_refl _)) d3 d4).mono ?_;rintro e w2 ⟨rfl,hb2⟩;have k2:=k1.next hb2 rfl;have q2:=k2.box
  clear q1
  go_wp2_with fail
  refine (rslots_any c s _ (h.below k2.below (Nat.le_refl _)) d3 d4).mono ?_;rintro e w3 ⟨rfl,hb3⟩;have k3:=k2.next hb3 rfl;have q3:=k3.box
  clear q2
  go_wp2_with fail
  refine (rturns_any c s _ (h.below k3.below (Nat.le_refl _))).mono ?_;rintro e w4 ⟨rfl,hb4⟩;have k4:=k3.next hb4 rfl;have q4:=k4.box
  clear q3
  go_wp2_with fail
  refine (rworst_any c s _ (h.below k4.below (Nat.le_refl _)) d1 d2 e1 e2 e4).mono ?_;rintro e w5 ⟨rfl,hb5⟩;have k5:=k4.next hb5 rfl;have q5:=k5.box
  clear q4
  go_wp2
  go_ret
  exact ⟨ret_int (by simp [chk,h1,h2,h3,h4,quantumB,(within_not c.flush c.near 16).2 (by omega)]),k5.below⟩
 by_cases f2:16<c.flush
 ·
  go_enter Tryz.func31,Tryz.ntmps31
  go_wp2_with fail
  refine (rshape_any c s _).mono ?_;rintro e w1 ⟨rfl,hb1⟩;have k1:=k0.next hb1 rfl;have q1:=k1.box
  go_wp2_with fail
  refine (rways_any c s _ (h.below k1.below (Nat.le_refl _)) d3 d4).mono ?_;rintro e w2 ⟨rfl,hb2⟩;have k2:=k1.next hb2 rfl;have q2:=k2.box
  clear q1
  go_wp2_with fail
  refine (rslots_any c s _ (h.below k2.below (Nat.le_refl _)) d3 d4).mono ?_;rintro e w3 ⟨rfl,hb3⟩;have k3:=k2.next hb3 rfl;have q3:=k3.box
  clear q2
  go_wp2_with fail
  refine (rturns_any c s _ (h.below k3.below (Nat.le_refl _))).mono ?_;rintro e w4 ⟨rfl,hb4⟩;have k4:=k3.next hb4 rfl;have q4:=k4.box
  clear q3
  go_wp2_with fail
  refine (rworst_any c s _ (h.below k4.below (Nat.le_refl _)) d1 d2 e1 e2 e4).mono ?_;rintro e w5 ⟨rfl,hb5⟩;have k5:=k4.next hb5 rfl;have q5:=k5.box
  clear q4
  go_wp2
  go_ret
  exact ⟨ret_int (by simp [chk,h1,h2,h3,h4,quantumB,(within_not c.flush c.near 16).2 (by omega)]),k5.below⟩
 have f3:1≤c.flush:=by omega
 have f4:c.flush≤16:=by omega
 by_cases f5:c.quantum<worstZ c+c.flush+1
 ·
  go_enter Tryz.func31,Tryz.ntmps31
  go_wp2_with fail
  refine (rshape_any c s _).mono ?_;rintro e w1 ⟨rfl,hb1⟩;have k1:=k0.next hb1 rfl;have q1:=k1.box
  go_wp2_with fail
  refine (rways_any c s _ (h.below k1.below (Nat.le_refl _)) d3 d4).mono ?_;rintro e w2 ⟨rfl,hb2⟩;have k2:=k1.next hb2 rfl;have q2:=k2.box
  clear q1
  go_wp2_with fail
  refine (rslots_any c s _ (h.below k2.below (Nat.le_refl _)) d3 d4).mono ?_;rintro e w3 ⟨rfl,hb3⟩;have k3:=k2.next hb3 rfl;have q3:=k3.box
  clear q2
  go_wp2_with fail
  refine (rturns_any c s _ (h.below k3.below (Nat.le_refl _))).mono ?_;rintro e w4 ⟨rfl,hb4⟩;have k4:=k3.next hb4 rfl;have q4:=k4.box
  clear q3
  go_wp2_with fail
  refine (rworst_any c s _ (h.below k4.below (Nat.le_refl _)) d1 d2 e1 e2 e4).mono ?_;rintro e w5 ⟨rfl,hb5⟩;have k5:=k4.next hb5 rfl;have q5:=k5.box
  clear q4
  go_wp2
  go_ret
  exact ⟨ret_int (by simp [chk,h1,h2,h3,h4,quantumB,(within_not c.quantum (worstZ c+c.flush+1) 2000).2 (by omega)]),k5.below⟩
 by_cases f6:2000<c.quantum
 ·
  go_enter Tryz.func31,Tryz.ntmps31
  go_wp2_with fail
  refine (rshape_any c s _).mono ?_;rintro e w1 ⟨rfl,hb1⟩;have k1:=k0.next hb1 rfl;have q1:=k1.box
  go_wp2_with fail
  refine (rways_any c s _ (h.below k1.below (Nat.le_refl _)) d3 d4).mono ?_;rintro e w2 ⟨rfl,hb2⟩;have k2:=k1.next hb2 rfl;have q2:=k2.box
  clear q1
  go_wp2_with fail
  refine (rslots_any c s _ (h.below k2.below (Nat.le_refl _)) d3 d4).mono ?_;rintro e w3 ⟨rfl,hb3⟩;have k3:=k2.next hb3 rfl;have q3:=k3.box
  clear q2
  go_wp2_with fail
  refine (rturns_any c s _ (h.below k3.below (Nat.le_refl _))).mono ?_;rintro e w4 ⟨rfl,hb4⟩;have k4:=k3.next hb4 rfl;have q4:=k4.box
  clear q3
  go_wp2_with fail
  refine (rworst_any c s _ (h.below k4.below (Nat.le_refl _)) d1 d2 e1 e2 e4).mono ?_;rintro e w5 ⟨rfl,hb5⟩;have k5:=k4.next hb5 rfl;have q5:=k5.box
  clear q4
  go_wp2
  go_ret
  exact ⟨ret_int (by simp [chk,h1,h2,h3,h4,quantumB,(within_not c.quantum (worstZ c+c.flush+1) 2000).2 (by omega)]),k5.below⟩
 go_enter Tryz.func31,Tryz.ntmps31
 go_wp2_with fail
 refine (rshape_any c s _).mono ?_;rintro e w1 ⟨rfl,hb1⟩;have k1:=k0.next hb1 rfl;have q1:=k1.box
 go_wp2_with fail
 refine (rways_any c s _ (h.below k1.below (Nat.le_refl _)) d3 d4).mono ?_;rintro e w2 ⟨rfl,hb2⟩;have k2:=k1.next hb2 rfl;have q2:=k2.box
 clear q1
 go_wp2_with fail
 refine (rslots_any c s _ (h.below k2.below (Nat.le_refl _)) d3 d4).mono ?_;rintro e w3 ⟨rfl,hb3⟩;have k3:=k2.next hb3 rfl;have q3:=k3.box
 clear q2
 go_wp2_with fail
 refine (rturns_any c s _ (h.below k3.below (Nat.le_refl _))).mono ?_;rintro e w4 ⟨rfl,hb4⟩;have k4:=k3.next hb4 rfl;have q4:=k4.box
 clear q3
 go_wp2_with fail
 refine (rworst_any c s _ (h.below k4.below (Nat.le_refl _)) d1 d2 e1 e2 e4).mono ?_;rintro e w5 ⟨rfl,hb5⟩;have k5:=k4.next hb5 rfl;have q5:=k5.box
 clear q4
 go_wp2
 go_ret
 exact ⟨ret_int (by simp [chk,h1,h2,h3,h4,quantumB,(within_iff c.flush c.near 16).2 (by omega),(within_iff c.quantum (worstZ c+c.flush+1) 2000).2 (by omega)]),k5.below⟩
theorem rcheck_any (c:Cf)(s:Sl)(w:World)(h:CfgAt w c s) :
  Calls Tryz.prog 31 #[cfgV c s] w fun e w'=>e = .returned (.int .i64 (chk c))∧Below w.heap.size w w':=by
 rcases Bool.eq_false_or_eq_true (shapeB c&&waysB c&&slotsB c&&turnsB c) with hn|hn
 ·
  simp only [Bool.and_eq_true] at hn
  exact rcheck_yes c s w h hn.1.1.1 hn.1.1.2 hn.1.2 hn.2
 · exact rcheck_no c s w h hn
end Go.Proofs.YtehheaedbnfidaaGreat
