import Derived.Test.YtehheaedbnfidaaGreatClWMachI
set_option maxRecDepth 100000
namespace Go.Proofs.YtehheaedbnfidaaGreat
open Go.RowKit
def fillME (N:Cn)(m:Mh)(d a:Int):Int:=if d<0∨N.c.domains≤d∨a<0∨N.c.priv≤a then 6 else if 0<m.now then 7 else 0
def fillMM (N:Cn)(m:Mh)(d a v:Int):Mh:=if fillME N m d a=0 then { m with own:=up1 m.own d.toNat (up1 (m.own d.toNat) a.toNat v) } else m
def shareME (N:Cn)(m:Mh)(a:Int):Int:=if a<0∨N.c.shared≤a then 6 else if 0<m.now then 7 else 0
def shareMM (N:Cn)(m:Mh)(a v:Int):Mh:=if shareME N m a=0 then { m with sh:=up1 m.sh a.toNat v } else m
set_option maxHeartbeats 1600000 in
theorem kfill_any (N:Cn)(X:XLoc)(m:Mh)(d a v:Int)(w:World)(h:MachM w N X m) :
  Calls Tryz.prog 99 #[.pointer (some ⟨X.g,0,none⟩),.int .i64 d,.int .i64 a,.int .i64 v] w fun e w'=>e = .returned (.int .i64 (fillME N m d a))∧MachM w' N X (fillMM N m d a v)∧Goes w w' X X:=by
 obtain ⟨n1,n2,n3,n4,n5,n6,n7,n8,n9,n10,n11,n12,n13,n14,n15⟩:=h.nums
 have T0:=h.now0
 have c1:w.cell? ⟨X.g,1,none⟩=some (.int .i64 N.c.domains):=by rw [h.row.cell];rfl
 have c3:w.cell? ⟨X.g,3,none⟩=some (.int .i64 N.c.priv):=by rw [h.row.cell];rfl
 have c13:w.cell? ⟨X.g,13,none⟩=some (.int .i64 m.now):=by rw [h.row.cell];rfl
 have c15:w.cell? ⟨X.g,15,none⟩=some (.slice (some ⟨X.e.r,0,none⟩) N.nd X.e.rc):=by rw [h.row.cell];rfl
 by_cases hbad:d<0∨N.c.domains≤d∨a<0∨N.c.priv≤a
 ·
  have e1:fillME N m d a=6:=by unfold fillME;rw [if_pos hbad]
  have HE:Hid _:=e1
  have HM:Hid (MachM w N X (fillMM N m d a v)):=by unfold Hid fillMM;rw [if_neg (by rw [e1];decide)];exact h
  have cases:d<0∨(0≤d∧N.c.domains≤d)∨(0≤d∧d<N.c.domains∧a<0)∨(0≤d∧d<N.c.domains∧0≤a∧N.c.priv≤a):=by omega
  clear e1 hbad n1 n2 n3 n4 n5 n6 n7 h
  rcases cases with b1|⟨b1,b2⟩|⟨b1,b2,b3⟩|⟨b1,b2,b3,b4⟩
  all_goals
   go_enter Tryz.func99,Tryz.ntmps99
   go_wp2
   go_ret
   exact ⟨ret_int HE.out.symm,HM.out,Goes.refl _ _⟩
 ·
  have b1:0≤d:=by omega
  have b2:d<N.c.domains:=by omega
  have b3:0≤a:=by omega
  have b4:a<N.c.priv:=by omega
  by_cases a3:0<m.now
  ·
   have e1:fillME N m d a=7:=by unfold fillME;rw [if_neg hbad,if_pos a3]
   have HE:Hid _:=e1
   have HM:Hid (MachM w N X (fillMM N m d a v)):=by unfold Hid fillMM;rw [if_neg (by rw [e1];decide)];exact h
   clear e1 hbad n1 n2 n3 n4 n5 n6 n7 h
   go_enter Tryz.func99,Tryz.ntmps99
   go_wp2
   go_ret
   exact ⟨ret_int HE.out.symm,HM.out,Goes.refl _ _⟩
  ·
   have e1:fillME N m d a=0:=by unfold fillME;rw [if_neg hbad,if_neg a3]
   obtain ⟨i,rfl⟩:=Int.eq_ofNat_of_zero_le b1
   obtain ⟨j,rfl⟩:=Int.eq_ofNat_of_zero_le b3
   have hi:i<N.nd:=by omega
   have hj:j<N.pv:=by omega
   have HE:Hid _:=e1
   have HMM:Hid (fillMM N m i j v={ m with own:=up1 m.own i (up1 (m.own i) j v) }):=by unfold Hid fillMM;rw [if_pos e1,Int.toNat_natCast,Int.toNat_natCast]
   have hF:=mFill_any N.nd N.pv N.sn X.e m.own m.sh X.g 14 i j v w h.mem c15 hi (by omega)
   rw [if_pos hj] at hF
   have HM:Hid _:=h
   clear e1 hbad n1 n2 n3 n4 n5 n6 n7 h
   go_enter Tryz.func99,Tryz.ntmps99
   go_wp2_with fail
   refine hF.mono ?_;rintro e w1 ⟨rfl,hM1,hT1⟩
   go_wp2
   go_ret
   exact ⟨ret_int HE.out.symm,by rw [HMM.out];exact HM.out.setMem hM1 hT1,Goes.of_touch hT1 HM.out.labs.eo⟩
set_option maxHeartbeats 1600000 in
theorem kshare_any (N:Cn)(X:XLoc)(m:Mh)(a v:Int)(w:World)(h:MachM w N X m) :
  Calls Tryz.prog 100 #[.pointer (some ⟨X.g,0,none⟩),.int .i64 a,.int .i64 v] w fun e w'=>e = .returned (.int .i64 (shareME N m a))∧MachM w' N X (shareMM N m a v)∧Goes w w' X X:=by
 obtain ⟨n1,n2,n3,n4,n5,n6,n7,n8,n9,n10,n11,n12,n13,n14,n15⟩:=h.nums
 have T0:=h.now0
 have c4:w.cell? ⟨X.g,4,none⟩=some (.int .i64 N.c.shared):=by rw [h.row.cell];rfl
 have c13:w.cell? ⟨X.g,13,none⟩=some (.int .i64 m.now):=by rw [h.row.cell];rfl
 have c16:w.cell? ⟨X.g,16,none⟩=some (.slice X.e.sa N.sn X.e.sc):=by rw [h.row.cell];rfl
 by_cases hbad:a<0∨N.c.shared≤a
 ·
  have e1:shareME N m a=6:=by unfold shareME;rw [if_pos hbad]
  have HE:Hid _:=e1
  have HM:Hid (MachM w N X (shareMM N m a v)):=by unfold Hid shareMM;rw [if_neg (by rw [e1];decide)];exact h
  have cases:a<0∨(0≤a∧N.c.shared≤a):=by omega
  clear e1 hbad n1 n2 n3 n4 n5 n6 n7 h
  rcases cases with b1|⟨b1,b2⟩
  all_goals
   go_enter Tryz.func100,Tryz.ntmps100
   go_wp2
   go_ret
   exact ⟨ret_int HE.out.symm,HM.out,Goes.refl _ _⟩
 ·
  have b3:0≤a:=by omega
  have b4:a<N.c.shared:=by omega
  by_cases a3:0<m.now
  ·
   have e1:shareME N m a=7:=by unfold shareME;rw [if_neg hbad,if_pos a3]
   have HE:Hid _:=e1
   have HM:Hid (MachM w N X (shareMM N m a v)):=by unfold Hid shareMM;rw [if_neg (by rw [e1];decide)];exact h
   clear e1 hbad n1 n2 n3 n4 n5 n6 n7 h
   go_enter Tryz.func100,Tryz.ntmps100
   go_wp2
   go_ret
   exact ⟨ret_int HE.out.symm,HM.out,Goes.refl _ _⟩
  ·
   have e1:shareME N m a=0:=by unfold shareME;rw [if_neg hbad,if_neg a3]
   obtain ⟨j,rfl⟩:=Int.eq_ofNat_of_zero_le b3
   have hj:j<N.sn:=by omega
   have HE:Hid _:=e1
   have HMM:Hid (shareMM N m j v={ m with sh:=up1 m.sh j v }):=by unfold Hid shareMM;rw [if_pos e1,Int.toNat_natCast]
   have hF:=mShare_any N.nd N.pv N.sn X.e m.own m.sh X.g 14 j v w h.mem c16 hj
   have HM:Hid _:=h
   clear e1 hbad n1 n2 n3 n4 n5 n6 n7 h
   go_enter Tryz.func100,Tryz.ntmps100
   go_wp2_with fail
   refine hF.mono ?_;rintro e w1 ⟨rfl,hM1,hT1⟩
   go_wp2
   go_ret
   exact ⟨ret_int HE.out.symm,by rw [HMM.out];exact HM.out.setMem hM1 hT1,Goes.of_touch hT1 HM.out.labs.eo⟩
theorem know_any (N:Cn)(X:XLoc)(m:Mh)(w:World)(h:MachM w N X m) :
  Calls Tryz.prog 102 #[.pointer (some ⟨X.g,0,none⟩)] w fun e w'=>e = .returned (.int .i64 m.now)∧w'=w:=by
 have c13:w.cell? ⟨X.g,13,none⟩=some (.int .i64 m.now):=by rw [h.row.cell];rfl
 go_enter Tryz.func102,Tryz.ntmps102
 go_wp2
 go_ret
 exact ⟨rfl,rfl⟩
end Go.Proofs.YtehheaedbnfidaaGreat
