import Derived.Test.YtehheaedbnfidaaGreatClConf5
import Derived.Test.YtehheaedbnfidaaGreatClRef4
set_option maxRecDepth 100000
namespace Go.Proofs.YtehheaedbnfidaaGreat
open Go.RowKit
def worstR (c:Cf):Int:=if chk c=0 then worstZ c else 0
set_option maxHeartbeats 800000 in
theorem Worst_any (c:Cf)(s:Sl)(w:World)(h:CfgAt w c s) :
  Calls Tryz.prog 35 #[cfgV c s] w fun e w'=>e = .returned (.tuple #[.int .i64 (worstR c),.int .i64 (chk c)])∧Below w.heap.size w w':=by
 have k0:=Kept.start w (cfgA c s) 43
 by_cases hz:chk c=0
 ·
  have R:=right_of hz
  have HR:Hid (worstR c=worstZ c):=by unfold worstR Hid;rw [if_pos hz]
  have HZ:Hid _:=hz
  have hb:(chk c != 0)=false:=by simp [hz]
  clear hz
  go_enter Tryz.func35,Tryz.ntmps35
  go_wp2_with fail
  refine (check_any c s _ (h.below k0.below (Nat.le_refl _))).mono ?_;rintro e w1 ⟨rfl,hb1⟩;have k1:=k0.next hb1 rfl;have q1:=k1.box
  go_wp2_with fail
  refine (worst_any c s _ (h.below k1.below (Nat.le_refl _)) R.c1 R.c2 R.s1 R.s2 R.t2).mono ?_;rintro e w2 ⟨rfl,hb2⟩;have k2:=k1.next hb2 rfl
  clear q1
  go_wp2
  go_ret2
  exact ⟨ret_two HR.out.symm HZ.out.symm,k2.below⟩
 ·
  have hb:(chk c != 0)=true:=by simpa using hz
  have HR:Hid (worstR c=0):=by unfold worstR Hid;rw [if_neg hz]
  clear hz
  go_enter Tryz.func35,Tryz.ntmps35
  go_wp2_with fail
  refine (check_any c s _ (h.below k0.below (Nat.le_refl _))).mono ?_;rintro e w1 ⟨rfl,hb1⟩;have k1:=k0.next hb1 rfl;have q1:=k1.box
  go_wp2
  go_ret2
  exact ⟨ret_two HR.out.symm rfl,k1.below⟩
set_option maxHeartbeats 800000 in
theorem rWorst_any (c:Cf)(s:Sl)(w:World)(h:CfgAt w c s) :
  Calls Tryz.prog 36 #[cfgV c s] w fun e w'=>e = .returned (.tuple #[.int .i64 (worstR c),.int .i64 (chk c)])∧Below w.heap.size w w':=by
 have k0:=Kept.start w (cfgA c s) 43
 by_cases hz:chk c=0
 ·
  have R:=right_of hz
  have HR:Hid (worstR c=worstZ c):=by unfold worstR Hid;rw [if_pos hz]
  have HZ:Hid _:=hz
  have hb:(chk c != 0)=false:=by simp [hz]
  clear hz
  go_enter Tryz.func36,Tryz.ntmps36
  go_wp2_with fail
  refine (rcheck_any c s _ (h.below k0.below (Nat.le_refl _))).mono ?_;rintro e w1 ⟨rfl,hb1⟩;have k1:=k0.next hb1 rfl;have q1:=k1.box
  go_wp2_with fail
  refine (rworst_any c s _ (h.below k1.below (Nat.le_refl _)) R.c1 R.c2 R.s1 R.s2 R.t2).mono ?_;rintro e w2 ⟨rfl,hb2⟩;have k2:=k1.next hb2 rfl
  clear q1
  go_wp2
  go_ret2
  exact ⟨ret_two HR.out.symm HZ.out.symm,k2.below⟩
 ·
  have hb:(chk c != 0)=true:=by simpa using hz
  have HR:Hid (worstR c=0):=by unfold worstR Hid;rw [if_neg hz]
  clear hz
  go_enter Tryz.func36,Tryz.ntmps36
  go_wp2_with fail
  refine (rcheck_any c s _ (h.below k0.below (Nat.le_refl _))).mono ?_;rintro e w1 ⟨rfl,hb1⟩;have k1:=k0.next hb1 rfl;have q1:=k1.box
  go_wp2
  go_ret2
  exact ⟨ret_two HR.out.symm rfl,k1.below⟩
end Go.Proofs.YtehheaedbnfidaaGreat
