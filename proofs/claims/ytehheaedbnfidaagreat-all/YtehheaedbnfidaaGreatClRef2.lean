import Derived.Test.YtehheaedbnfidaaGreatClWBase
set_option maxRecDepth 100000
namespace Go.Proofs.YtehheaedbnfidaaGreat
open Go.RowKit
set_option maxHeartbeats 800000 in
theorem rshape_any (c:Cf)(s:Sl)(w:World) :
  Calls Tryz.prog 68 #[cfgV c s] w fun e w'=>e = .returned (.bool (shapeB c))∧Below w.heap.size w w':=by
 have b0:Below w.heap.size w (w.alloc (.cells (cfgA c s) 43)):=(Below.refl _ _).alloc (Nat.le_refl _) _
 by_cases h1:c.cores<1
 ·
  go_enter Tryz.func68,Tryz.ntmps68
  go_wp2
  go_ret
  exact ⟨ret_bool (by simp [shapeB,(within_not c.cores 1 3).2 (by omega)]),b0⟩
 by_cases h2:3<c.cores
 ·
  go_enter Tryz.func68,Tryz.ntmps68
  go_wp2
  go_ret
  exact ⟨ret_bool (by simp [shapeB,(within_not c.cores 1 3).2 (by omega)]),b0⟩
 by_cases h3:c.domains<1
 ·
  go_enter Tryz.func68,Tryz.ntmps68
  go_wp2
  go_ret
  exact ⟨ret_bool (by simp [shapeB,(within_not c.domains 1 4).2 (by omega)]),b0⟩
 by_cases h4:4<c.domains
 ·
  go_enter Tryz.func68,Tryz.ntmps68
  go_wp2
  go_ret
  exact ⟨ret_bool (by simp [shapeB,(within_not c.domains 1 4).2 (by omega)]),b0⟩
 have HC:Hid (withinB c.cores 1 3=true):=(within_iff _ _ _).2 (by omega)
 have HD:Hid (withinB c.domains 1 4=true):=(within_iff _ _ _).2 (by omega)
 rcases Bool.eq_false_or_eq_true (smallB c.line) with h5|h5
 ·
  rcases Bool.eq_false_or_eq_true (smallB c.near) with h6 | h6
  ·
   rcases Bool.eq_false_or_eq_true (smallB c.sets) with h7 | h7
   ·
    have hl':=(small_iff _).1 h5
    have g0:¬c.line=0:=by omega
    have g1:0<c.line:=by omega
    clear hl'
    by_cases h8:c.priv<c.line
    ·
     go_enter Tryz.func68,Tryz.ntmps68
     go_wp2_with (go_at_call 65;refine (rsmall_any _ _).mono ?_;rintro e w' ⟨rfl,rfl⟩)
     go_ret
     exact ⟨ret_bool (by simp [shapeB,wordsB,(within_not c.priv c.line 64).2 (by omega)]),b0⟩
    by_cases h9:64<c.priv
    ·
     go_enter Tryz.func68,Tryz.ntmps68
     go_wp2_with (go_at_call 65;refine (rsmall_any _ _).mono ?_;rintro e w' ⟨rfl,rfl⟩)
     go_ret
     exact ⟨ret_bool (by simp [shapeB,wordsB,(within_not c.priv c.line 64).2 (by omega)]),b0⟩
    have g2:0≤c.priv:=by omega
    have HP:Hid (withinB c.priv c.line 64=true):=(within_iff _ _ _).2 (by omega)
    rcases Bool.eq_false_or_eq_true (c.priv%c.line != 0) with h10|h10
    ·
     go_enter Tryz.func68,Tryz.ntmps68
     go_wp2_with (go_at_call 65;refine (rsmall_any _ _).mono ?_;rintro e w' ⟨rfl,rfl⟩)
     go_ret
     have h10':(c.priv%c.line==0)=false:=by simpa using h10
     exact ⟨ret_bool (by simp only [shapeB,wordsB,h10'];simp),b0⟩
    have h10':(c.priv%c.line==0)=true:=by simpa using h10
    have HQ:Hid _:=h10'
    clear h10'
    by_cases h11:0≤c.shared
    ·
     by_cases h12:c.shared≤32
     ·
      have HH:Hid (withinB c.shared 0 32=true):=(within_iff _ _ _).2 (by omega)
      go_enter Tryz.func68,Tryz.ntmps68
      go_wp2_with (go_at_call 65;refine (rsmall_any _ _).mono ?_;rintro e w' ⟨rfl,rfl⟩)
      go_ret
      exact ⟨ret_bool (by simp only [shapeB,wordsB,HC.out,HD.out,h5,h6,h7,HP.out,HQ.out,HH.out];simp),b0⟩
     ·
      go_enter Tryz.func68,Tryz.ntmps68
      go_wp2_with (go_at_call 65;refine (rsmall_any _ _).mono ?_;rintro e w' ⟨rfl,rfl⟩)
      go_ret
      exact ⟨ret_bool (by simp [shapeB,wordsB,(within_not c.shared 0 32).2 (by omega)]),b0⟩
    ·
     go_enter Tryz.func68,Tryz.ntmps68
     go_wp2_with (go_at_call 65;refine (rsmall_any _ _).mono ?_;rintro e w' ⟨rfl,rfl⟩)
     go_ret
     exact ⟨ret_bool (by simp [shapeB,wordsB,(within_not c.shared 0 32).2 (by omega)]),b0⟩
   ·
    go_enter Tryz.func68,Tryz.ntmps68
    go_wp2_with (go_at_call 65;refine (rsmall_any _ _).mono ?_;rintro e w' ⟨rfl,rfl⟩)
    go_ret
    exact ⟨ret_bool (by simp [shapeB,h7]),b0⟩
  ·
   go_enter Tryz.func68,Tryz.ntmps68
   go_wp2_with (go_at_call 65;refine (rsmall_any _ _).mono ?_;rintro e w' ⟨rfl,rfl⟩)
   go_ret
   exact ⟨ret_bool (by simp [shapeB,h6]),b0⟩
 ·
  go_enter Tryz.func68,Tryz.ntmps68
  go_wp2_with (go_at_call 65;refine (rsmall_any _ _).mono ?_;rintro e w' ⟨rfl,rfl⟩)
  go_ret
  exact ⟨ret_bool (by simp [shapeB,wordsB,h5]),b0⟩
end Go.Proofs.YtehheaedbnfidaaGreat
