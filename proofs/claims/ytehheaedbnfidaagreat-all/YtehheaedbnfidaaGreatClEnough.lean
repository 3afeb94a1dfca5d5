import Derived.Test.YtehheaedbnfidaaGreatClConf5
import Derived.Test.YtehheaedbnfidaaGreatClRef4
set_option maxRecDepth 100000
namespace Go.Proofs.YtehheaedbnfidaaGreat
open Go.RowKit
set_option maxHeartbeats 1600000 in
theorem enough_any (c:Cf)(s:Sl)(core d k:Int)(w:World)(h:CfgAt w c s) :
  Calls Tryz.prog 77 #[cfgV c s,.int .i64 core,.int .i64 d,.int .i64 k] w fun e w'=>e = .returned (.tuple #[.int .i64 (enoughN c core d k),.int .i64 (enoughE c core d k)])∧Below w.heap.size w w':=by
 have k0:=Kept.start w (cfgA c s) 43
 have htl:=h.turns.hlen
 have htle:=h.turns.hle
 have htm:=h.turns.hmax
 unfold maxLen at htm
 by_cases hz:chk c=0
 ·
  have R:=right_of hz
  obtain ⟨c1,c2,d1,d2,s1,s2,t1,t2,w0,w1,f1,f2,q1,q2,tl,each⟩:=R
  have R:=right_of hz
  have hb:(chk c != 0)=false:=by simp [hz]
  have HZ:Hid _:=hz
  have tl':(s.tl:Int)=c.cores:=by rw [← htl];exact tl
  have HT:Hid _:=tl'
  have HTL:Hid _:=htl
  have tl3:s.tl≤3:=by omega
  clear hz tl each htl
  by_cases a1:core<0
  ·
   have HN:Hid _:=enough_no HZ.out (ok_not (core:=core) (d:=d) (k:=k) (by omega))
   clear tl'
   go_enter Tryz.func77,Tryz.ntmps77
   go_wp2_with fail
   refine (check_any c s _ (h.below k0.below (Nat.le_refl _))).mono ?_;rintro e w1 ⟨rfl,hb1⟩;have k1:=k0.next hb1 rfl;have q1:=k1.box
   go_wp2
   go_ret2
   exact ⟨ret_two HN.out.2.symm HN.out.1.symm,k1.below⟩
  by_cases a2:(s.tl:Int)≤core
  ·
   have HN:Hid _:=enough_no HZ.out (ok_not (core:=core) (d:=d) (k:=k) (by omega))
   clear tl'
   go_enter Tryz.func77,Tryz.ntmps77
   go_wp2_with fail
   refine (check_any c s _ (h.below k0.below (Nat.le_refl _))).mono ?_;rintro e w1 ⟨rfl,hb1⟩;have k1:=k0.next hb1 rfl;have q1:=k1.box
   go_wp2
   go_ret2
   exact ⟨ret_two HN.out.2.symm HN.out.1.symm,k1.below⟩
  rcases Bool.eq_false_or_eq_true (withinB d 0 (c.domains-1)) with a3|a3
  ·
   have a3':=(within_iff _ _ _).1 a3
   rcases Bool.eq_false_or_eq_true (withinB k 0 64) with a4|a4
   ·
    have a4':=(within_iff _ _ _).1 a4
    obtain ⟨i,rfl⟩:=Int.eq_ofNat_of_zero_le (show 0≤core by omega)
    have hi:i<s.tl:=by omega
    obtain ⟨b,off,ia,il,ic,hta,hc,hints⟩:=h.turns.hat i hi
    have hrow:=grid_row R (show i<c.turns.length by rw [HTL.out];exact hi)
    have hlen:=hints.hlen
    have HL:Hid _:=hlen
    have hil:il≤4:=by omega
    have hbd:=cell_lt hc
    have HBD:b<w.heap.size:=hbd
    clear hlen hbd hrow
    obtain ⟨wa,wl,wc,sa,sl,sc,ta,tl,tc⟩:=s
    dsimp only at *
    subst hta
    rcases Bool.eq_false_or_eq_true ((((c.turns.getD i []).count d:Nat):Int)==0) with a5|a5
    ·
     have HN:Hid _:=enough_no HZ.out (ok_none (core:=(i:Int)) (d:=d) (k:=k) (by simpa using a5))
     have HA:Hid _:=a5
     have hcz:((List.count d (c.turns.getD i []):Int)==0)=true:=a5
     generalize c.turns.getD i []=row at *
     clear tl' a3' a4' a5
     go_enter Tryz.func77,Tryz.ntmps77
     go_wp2_with fail
     refine (check_any c _ _ (h.below k0.below (Nat.le_refl _))).mono ?_;rintro e w1 ⟨rfl,hb1⟩;have k1:=k0.next hb1 rfl;have q1:=k1.box
     have hc1:w1.cell? ⟨b,off+i,none⟩=some (.slice ia il ic):=by rw [k1.below.cell (p:=⟨b,off+i,none⟩) HBD];exact hc
     have hints1:=hints.below k1.below (Nat.le_refl _)
     go_wp2_with (first | (go_at_call 117;refine (within_any _ _ _ _).mono ?_;rintro e w' ⟨rfl,rfl⟩) | (go_at_call 118;refine (count_any _ _ _ row _ _ hints1).mono ?_;rintro e w' ⟨rfl,rfl⟩))
     go_ret2
     exact ⟨ret_two HN.out.2.symm HN.out.1.symm,k1.below⟩
    ·
     have HN:Hid _:=enough_yes HZ.out (ok_yes (c:=c) (core:=(i:Int)) (d:=d) (k:=k) (by omega) (by simpa using a5))
     have hcz:((List.count d (c.turns.getD i []):Int)==0)=false:=a5
     rw [Int.toNat_natCast] at HN
     generalize c.turns.getD i []=row at *
     have y1:0<worstZ c+1:=by omega
     have y2:0≤c.quantum-c.flush-worstZ c-1:=by omega
     have gb:=perTurn_bd (D:=c.quantum-c.flush-worstZ c) (S:=worstZ c+1) (by omega) (by omega)
     have hg:gZ c=1+(c.quantum-c.flush-worstZ c-1) / (worstZ c+1):=rfl
     rw [show perTurn (c.quantum-c.flush-worstZ c) (worstZ c+1)=1+(c.quantum-c.flush-worstZ c-1) / (worstZ c+1) from rfl] at gb
     obtain ⟨z,ez⟩:∃ z,(c.quantum-c.flush-worstZ c-1) / (worstZ c+1)=z:=⟨_,rfl⟩
     rw [ez] at gb hg
     have rb:=rounds_bd (k:=k) (g:=1+z) (by omega) (by omega)
     rw [show roundsZ k (1+z)=(k+(1+z)-1) / (1+z) from rfl] at rb
     have HN2:Hid (enoughN c i d k=(k+(1+z)-1) / (1+z)*(il:Int)*c.quantum):=by
      have:=HN.out.2
      rw [hg,HL.out] at this
      exact this
     obtain ⟨r,er⟩:∃ r,(k+(1+z)-1) / (1+z)=r:=⟨_,rfl⟩
     rw [er] at rb HN2
     have p1:0≤r*(il:Int)∧r*(il:Int)≤64*4:=⟨Int.mul_nonneg (by omega) (by omega),Int.mul_le_mul (by omega) (by omega) (by omega) (by omega)⟩
     obtain ⟨p,ep⟩:∃ p,r*(il:Int)=p:=⟨_,rfl⟩
     rw [ep] at p1 HN2
     have p2:0≤p*c.quantum∧p*c.quantum≤256*2000:=⟨Int.mul_nonneg (by omega) (by omega),Int.mul_le_mul (by omega) (by omega) (by omega) (by omega)⟩
     obtain ⟨t,et⟩:∃ t,p*c.quantum=t:=⟨_,rfl⟩
     rw [et] at p2 HN2
     obtain ⟨gb1,gb2⟩:=gb
     obtain ⟨rb1,rb2⟩:=rb
     obtain ⟨p11,p12⟩:=p1
     obtain ⟨p21,p22⟩:=p2
     have z0:0≤z:=by omega
     have z1:0<1+z:=by omega
     have z2:0≤k+(1+z)-1:=by omega
     have kb1:0≤k:=by omega
     have kb2:k≤64:=by omega
     have z3:z≤2000:=by omega
     clear hg tl' a3' a4' a5
     go_enter Tryz.func77,Tryz.ntmps77
     go_wp2_with fail
     refine (check_any c _ _ (h.below k0.below (Nat.le_refl _))).mono ?_;rintro e w1 ⟨rfl,hb1⟩;have k1:=k0.next hb1 rfl;have q1:=k1.box
     have hc1:w1.cell? ⟨b,off+i,none⟩=some (.slice ia il ic):=by rw [k1.below.cell (p:=⟨b,off+i,none⟩) HBD];exact hc
     have hints1:=hints.below k1.below (Nat.le_refl _)
     go_wp2_with (first | (go_at_call 117;refine (within_any _ _ _ _).mono ?_;rintro e w' ⟨rfl,rfl⟩) | (go_at_call 118;refine (count_any _ _ _ row _ _ hints1).mono ?_;rintro e w' ⟨rfl,rfl⟩))
     have cf:=h.below k1.below (Nat.le_refl _)
     refine (worst_any c _ _ cf R.c1 R.c2 R.s1 R.s2 R.t2).mono ?_;rintro e w2 ⟨rfl,hb2⟩;have k2:=k1.next hb2 rfl;have q2:=k2.box
     clear q1
     go_wp2
     go_ret2
     exact ⟨ret_two HN2.out.symm HN.out.1.symm,k2.below⟩
   ·
    have a4':=(within_not _ _ _).1 a4
    have HN:Hid _:=enough_no HZ.out (ok_not (core:=core) (d:=d) (k:=k) (by omega))
    clear tl' a3' a4'
    go_enter Tryz.func77,Tryz.ntmps77
    go_wp2_with fail
    refine (check_any c s _ (h.below k0.below (Nat.le_refl _))).mono ?_;rintro e w1 ⟨rfl,hb1⟩;have k1:=k0.next hb1 rfl;have q1:=k1.box
    go_wp2_with (go_at_call 117;refine (within_any _ _ _ _).mono ?_;rintro e w' ⟨rfl,rfl⟩)
    go_ret2
    exact ⟨ret_two HN.out.2.symm HN.out.1.symm,k1.below⟩
  ·
   have a3':=(within_not _ _ _).1 a3
   have HN:Hid _:=enough_no HZ.out (ok_not (core:=core) (d:=d) (k:=k) (by omega))
   clear tl' a3'
   go_enter Tryz.func77,Tryz.ntmps77
   go_wp2_with fail
   refine (check_any c s _ (h.below k0.below (Nat.le_refl _))).mono ?_;rintro e w1 ⟨rfl,hb1⟩;have k1:=k0.next hb1 rfl;have q1:=k1.box
   go_wp2_with (go_at_call 117;refine (within_any _ _ _ _).mono ?_;rintro e w' ⟨rfl,rfl⟩)
   go_ret2
   exact ⟨ret_two HN.out.2.symm HN.out.1.symm,k1.below⟩
 ·
  have hb:(chk c != 0)=true:=by simpa using hz
  have HN:Hid _:=enough_bad (core:=core) (d:=d) (k:=k) hz
  clear hz
  go_enter Tryz.func77,Tryz.ntmps77
  go_wp2_with fail
  refine (check_any c s _ (h.below k0.below (Nat.le_refl _))).mono ?_;rintro e w1 ⟨rfl,hb1⟩;have k1:=k0.next hb1 rfl;have q1:=k1.box
  go_wp2
  go_ret2
  exact ⟨ret_two HN.out.2.symm HN.out.1.symm,k1.below⟩
end Go.Proofs.YtehheaedbnfidaaGreat
