import Derived.Test.YtehheaedbnfidaaGreatClWBase
set_option maxRecDepth 100000
namespace Go.Proofs.YtehheaedbnfidaaGreat
open Go.RowKit
set_option maxHeartbeats 400000 in
theorem rways_any (c:Cf)(s:Sl)(w:World)(h:CfgAt w c s)(hd1:1≤c.domains)(hd2:c.domains≤4) :
  Calls Tryz.prog 69 #[cfgV c s] w fun e w'=>e = .returned (.bool (waysB c))∧Below w.heap.size w w':=by
 have hl:=(h.ways.alloc (.cells (cfgA c s) 43))
 go_enter Tryz.func69,Tryz.ntmps69
 go_wp2
 go_loop [3] (fun i=>∃ k:Nat,(k:Int)≤c.domains∧i = .int .i64 k∧allUpto (fun d=>smallB (c.ways.count d)) k=true) (fun i=>c.domains.toNat-(intOf i).toNat)
 case atStart=>exact ⟨0,by omega,rfl,rfl⟩
 case round=>
  obtain ⟨k,hk,rfl,hall⟩:=hrel
  have HA:Hid _:=hall
  clear hall
  by_cases hlt:(k:Int)<c.domains
  ·
   rcases Bool.eq_false_or_eq_true (smallB (c.ways.count (k:Int))) with hx | hx
   ·
    go_wp2_with (first | (go_at_call 78;refine (rcount_any _ _ _ c.ways _ _ hl).mono ?_;rintro e w' ⟨rfl,rfl⟩) | (go_at_call 65;refine (rsmall_any _ _).mono ?_;rintro e w' ⟨rfl,rfl⟩))
    go_round
    case rel=>exact ⟨k+1,by omega,by go_num,by simp [allUpto,HA.out,hx]⟩
    case measure=>simp [intOf];omega
   ·
    go_wp2_with (first | (go_at_call 78;refine (rcount_any _ _ _ c.ways _ _ hl).mono ?_;rintro e w' ⟨rfl,rfl⟩) | (go_at_call 65;refine (rsmall_any _ _).mono ?_;rintro e w' ⟨rfl,rfl⟩))
    go_ret
    exact ⟨ret_bool (by simp [waysB,allUpto_false (fun d=>smallB (c.ways.count d)) k hx c.domains.toNat (by omega)]),(Below.refl _ _).alloc (Nat.le_refl _) _⟩
  ·
   have e:k=c.domains.toNat:=by omega
   have HB:=HA.out
   rw [e] at HB
   have HC:Hid _:=HB
   clear HB e
   go_wp2_with (go_at_call 110;refine (rwithin_any _ _ _ c.ways _ _ _ _ hl).mono ?_;rintro e w' ⟨rfl,rfl⟩)
   go_ret
   exact ⟨ret_bool (by simp [waysB,HC.out]),(Below.refl _ _).alloc (Nat.le_refl _) _⟩
set_option maxHeartbeats 400000 in
theorem rslots_any (c:Cf)(s:Sl)(w:World)(h:CfgAt w c s)(hd1:1≤c.domains)(hd2:c.domains≤4) :
  Calls Tryz.prog 70 #[cfgV c s] w fun e w'=>e = .returned (.bool (slotsB c))∧Below w.heap.size w w':=by
 have hl:=(h.slots.alloc (.cells (cfgA c s) 43))
 go_enter Tryz.func70,Tryz.ntmps70
 go_wp2
 go_loop [3] (fun i=>∃ k:Nat,(k:Int)≤c.domains∧i = .int .i64 k∧allUpto (fun d=>!((c.slots.count d:Int)==0)) k=true) (fun i=>c.domains.toNat-(intOf i).toNat)
 case atStart=>exact ⟨0,by omega,rfl,rfl⟩
 case round=>
  obtain ⟨k,hk,rfl,hall⟩:=hrel
  have HA:Hid _:=hall
  clear hall
  by_cases hlt:(k:Int)<c.domains
  ·
   rcases Bool.eq_false_or_eq_true ((c.slots.count (k:Int):Int)==0) with hx | hx
   ·
    go_wp2_with (go_at_call 78;refine (rcount_any _ _ _ c.slots _ _ hl).mono ?_;rintro e w' ⟨rfl,rfl⟩)
    go_ret
    exact ⟨ret_bool (by simp [slotsB,allUpto_false (fun d=>!((c.slots.count d:Int)==0)) k (by simpa using hx) c.domains.toNat (by omega)]),(Below.refl _ _).alloc (Nat.le_refl _) _⟩
   ·
    go_wp2_with (go_at_call 78;refine (rcount_any _ _ _ c.slots _ _ hl).mono ?_;rintro e w' ⟨rfl,rfl⟩)
    go_round
    case rel=>exact ⟨k+1,by omega,by go_num,by simp only [allUpto,HA.out,hx];rfl⟩
    case measure=>simp [intOf];omega
  ·
   have e:k=c.domains.toNat:=by omega
   have HB:=HA.out
   rw [e] at HB
   have HC:Hid _:=HB
   clear HB e
   by_cases h1:1≤c.slot
   ·
    by_cases h2:c.slot≤4
    ·
     have HS:Hid (withinB c.slot 1 4=true):=(within_iff _ _ _).2 (by omega)
     go_wp2_with (go_at_call 110;refine (rwithin_any _ _ _ c.slots _ _ _ _ hl).mono ?_;rintro e w' ⟨rfl,rfl⟩)
     go_ret
     exact ⟨ret_bool (by simp only [slotsB,HC.out,HS.out];simp),(Below.refl _ _).alloc (Nat.le_refl _) _⟩
    ·
     go_wp2
     go_ret
     exact ⟨ret_bool (by simp [slotsB,(within_not c.slot 1 4).2 (by omega)]),(Below.refl _ _).alloc (Nat.le_refl _) _⟩
   ·
    go_wp2
    go_ret
    exact ⟨ret_bool (by simp [slotsB,(within_not c.slot 1 4).2 (by omega)]),(Below.refl _ _).alloc (Nat.le_refl _) _⟩
set_option maxHeartbeats 400000 in
theorem rworst_any (c:Cf)(s:Sl)(w:World)(h:CfgAt w c s)(h1:1≤c.cores)(h2:c.cores≤3)(h3:1≤c.slot)(h4:c.slot≤4)(h5:c.slots.length≤8) :
  Calls Tryz.prog 72 #[cfgV c s] w fun e w'=>e = .returned (.int .i64 (worstZ c))∧Below w.heap.size w w':=by
 have hl:=h.slots.hlen
 have b1:(3*c.cores)*(s.sl:Int)≤72∧0≤(3*c.cores)*(s.sl:Int):=by
  constructor
  ·
   have:(3*c.cores)*(s.sl:Int)≤9*8:=Int.mul_le_mul (by omega) (by omega) (by omega) (by omega)
   omega
  · exact Int.mul_nonneg (by omega) (by omega)
 obtain ⟨b2,b3⟩:=b1
 have b4:(3*c.cores)*(s.sl:Int)*c.slot≤288:=by
  have:(3*c.cores)*(s.sl:Int)*c.slot≤72*4:=Int.mul_le_mul (by omega) (by omega) (by omega) (by omega)
  omega
 have b5:0≤(3*c.cores)*(s.sl:Int)*c.slot:=Int.mul_nonneg (by omega) (by omega)
 have HE:Hid (worstZ c=3*c.cores*s.sl*c.slot):=by unfold worstZ Hid;rw [hl]
 clear hl
 go_enter Tryz.func72,Tryz.ntmps72
 go_wp2
 go_ret
 exact ⟨ret_int (by rw [HE.out]),(Below.refl _ _).alloc (Nat.le_refl _) _⟩
set_option maxHeartbeats 400000 in
theorem rturns_any (c:Cf)(s:Sl)(w:World)(h:CfgAt w c s) :
  Calls Tryz.prog 71 #[cfgV c s] w fun e w'=>e = .returned (.bool (turnsB c))∧Below w.heap.size w w':=by
 obtain ⟨wa,wl,wc,sa,sl,sc,ta,tl,tc⟩:=s
 have hg:Grid (w.alloc (.cells (cfgA c ⟨wa,wl,wc,sa,sl,sc,ta,tl,tc⟩) 43)) ta tl tc c.turns:=h.turns.alloc (.cells (cfgA c ⟨wa,wl,wc,sa,sl,sc,ta,tl,tc⟩) 43)
 have hle:=hg.hle
 have hm:=hg.hmax
 unfold maxLen at hm
 have HL:Hid (c.turns.length=tl):=hg.hlen
 go_enter Tryz.func71,Tryz.ntmps71
 go_wp2
 go_loopw [3] (fun i w'=>∃ k n:Nat,k≤tl∧i = .int .i64 k∧(c.turns.take k).all (fun l=>listB l 4 (-1) (c.domains-1))=true∧w'=(w.alloc (.cells (cfgA c ⟨wa,wl,wc,sa,sl,sc,ta,tl,tc⟩) 43)).drewN n) (fun i _=>tl-(intOf i).toNat)
 case atStart=>exact ⟨0,0,by omega,rfl,rfl,rfl⟩
 case round=>
  obtain ⟨k,n,hk,rfl,hall,hwr⟩:=hrel
  have HA:Hid _:=hall
  clear hall
  have HW:Hid _:=hwr
  have c10:wr.cell? ⟨w.heap.size,10,none⟩=some (.slice ta tl tc):=by rw [hwr];simp
  have c1:wr.cell? ⟨w.heap.size,1,none⟩=some (.int .i64 c.domains):=by rw [hwr];simp
  have c0:wr.cell? ⟨w.heap.size,0,none⟩=some (.int .i64 c.cores):=by rw [hwr];simp
  have hgr:Grid wr ta tl tc c.turns:=by rw [hwr];exact hg.drewN n
  clear hwr
  by_cases hlt:k<tl
  ·
   obtain ⟨b,off,ia,il,ic,rfl,hc,hi⟩:=hgr.hat k hlt
   have HS:Hid _:=all_snoc (fun l=>listB l 4 (-1) (c.domains-1)) c.turns [] k (by rw [HL.out];exact hlt)
   have HR:Hid _:=all_false_of (fun l=>listB l 4 (-1) (c.domains-1)) c.turns [] k (by rw [HL.out];exact hlt)
   generalize c.turns.getD k []=row at *
   rcases Bool.eq_false_or_eq_true (listB row 4 (-1) (c.domains-1)) with hx|hx
   ·
    have HX:Hid _:=hx
    clear hx
    go_wp2
    go_quiet ((go_at_call 110;exact Calls.quiet_of_same (rwithin_any _ _ _ row _ _ _ _ (hi.drewN _))))
    rw [HX.out]
    go_wp2
    go_roundw
    case rel=>exact ⟨k+1,n+nq,by omega,by go_num,by rw [HS.out,HA.out,HX.out];rfl,by rw [HW.out,World.drewN_drewN]⟩
    case measure=>simp [intOf];omega
   ·
    have HX:Hid _:=hx
    clear hx
    go_wp2
    go_quiet ((go_at_call 110;exact Calls.quiet_of_same (rwithin_any _ _ _ row _ _ _ _ (hi.drewN _))))
    rw [HX.out]
    go_wp2
    go_ret
    refine ⟨ret_bool ?_,?_⟩
    · simp [turnsB,HR.out HX.out]
    · rw [HW.out];exact below_drewN (below_drewN ((Below.refl _ _).alloc (Nat.le_refl _) _) _) _
  ·
   go_wp2
   go_ret
   refine ⟨ret_bool ?_,by rw [HW.out];exact below_drewN ((Below.refl _ _).alloc (Nat.le_refl _) _) _⟩
   have e:=HL.out
   have:=HA.out
   rw [List.take_of_length_le (by rw [e];omega)] at this
   simp only [turnsB,this,e]
   simp
theorem ret_pair {j k:IntKind}{a b c d:Int}(h:a=b)(g:c=d):Ending.returned (.tuple #[.int j a,.int k c]) = .returned (.tuple #[.int j b,.int k d]):=by rw [h,g]
set_option maxHeartbeats 800000 in
theorem rlatest_any (sa:Option Addr)(len cap:Nat)(xs:List Int)(lo hi:Int)(w:World)(h:Ints w sa len cap xs) :
  Calls Tryz.prog 104 #[.slice sa len cap,.int .i64 lo,.int .i64 hi] w fun e w'=>e = .returned (.int .i64 (latestZ xs lo hi))∧w'=w:=by
 have hle:=h.hle
 have hm:=h.hmax
 unfold maxLen at hm
 have HL:Hid (xs.length=len):=h.hlen
 go_enter Tryz.func104,Tryz.ntmps104
 go_wp2
 go_loop [7] (fun i=>∃ k:Nat,k≤len∧i = .int .i64 ((k:Int)-1)∧∀ x∈xs.drop k,¬(lo≤x∧x<hi)) (fun i=>(intOf i+1).toNat)
 case atStart=>exact ⟨len,Nat.le_refl _,rfl,by rw [List.drop_of_length_le (by rw [HL.out];omega)];simp⟩
 case round=>
  obtain ⟨k,hk,rfl,hall⟩:=hrel
  have HA:Hid _:=hall
  clear hall
  by_cases hlt:0<k
  ·
   obtain ⟨k',rfl⟩:∃ k',k=k'+1:=⟨k-1,by omega⟩
   have hk':k'<len:=by omega
   have e1:(((k'+1:Nat):Int)-1)=(k':Int):=by omega
   rw [e1]
   obtain ⟨b,off,rfl,hc⟩:=h.hat k' hk'
   have hkx:k'<xs.length:=by rw [HL.out];exact hk'
   have HH:Hid (lo≤xs.getD k' 0∧xs.getD k' 0<hi→latestZ xs lo hi=xs.getD k' 0):=fun hx=>latest_hit hkx hx HA.out
   have HM:Hid (¬(lo≤xs.getD k' 0∧xs.getD k' 0<hi)→∀ x∈xs.drop k',¬(lo≤x∧x<hi)):=by
    intro hx x hxm
    rw [List.drop_eq_getElem_cons hkx] at hxm
    rcases List.mem_cons.1 hxm with hxm|hxm
    ·
     subst hxm
     have ek:xs.getD k' 0=xs[k']:=by simp [List.getD,hkx]
     rw [ek] at hx
     exact hx
    · exact HA.out x hxm
   generalize xs.getD k' 0=x at *
   clear e1
   by_cases a1:lo≤x
   ·
    by_cases a2:x<hi
    ·
     go_wp2
     go_ret
     exact ⟨ret_int (HH.out ⟨a1,a2⟩).symm,rfl⟩
    ·
     go_wp2
     go_round
     case rel=>exact ⟨k',by omega,rfl,HM.out (by omega)⟩
     case measure=>simp [intOf]
   ·
    go_wp2
    go_round
    case rel=>exact ⟨k',by omega,rfl,HM.out (by omega)⟩
    case measure=>simp [intOf]
  ·
   obtain rfl:k=0:=by omega
   go_wp2
   go_ret
   exact ⟨ret_int (latest_none (by simpa using HA.out)).symm,rfl⟩
set_option maxHeartbeats 800000 in
theorem rvictim_one (sa:Option Addr)(len cap:Nat)(xs:List Int)(w:World) :
  Calls Tryz.prog 66 #[.int .i64 1,.slice sa len cap] w fun e w'=>e = .returned (.int .i64 (victimZ 1 xs))∧w'=w:=by
 go_enter Tryz.func66,Tryz.ntmps66
 go_wp2
 refine wp_loop_rounds 1 ?_
 rw [rounds_succ]
 go_wp2
 go_ret
 exact ⟨rfl,rfl⟩
set_option maxHeartbeats 800000 in
theorem rvictim_two (sa:Option Addr)(len cap:Nat)(xs:List Int)(w:World)(h:Ints w sa len cap xs) :
  Calls Tryz.prog 66 #[.int .i64 2,.slice sa len cap] w fun e w'=>e = .returned (.int .i64 (victimZ 2 xs))∧w'=w:=by
 have HZ:Hid (victimZ 2 xs=if lowHit xs 0 1=true then 1 else 0):=rfl
 have HW:Hid (lowHit xs 0 1=(decide (0≤latestZ xs 0 2)&&decide (latestZ xs 0 2<1))):=rfl
 have HQ:=rlatest_any sa len cap xs 0 2 w h
 have HQ':Hid _:=HQ
 clear HQ
 generalize latestZ xs 0 2=x at *
 by_cases a1:0≤x
 ·
  by_cases a2:x<1
  ·
   go_enter Tryz.func66,Tryz.ntmps66
   go_wp2
   refine wp_loop_rounds 2 ?_
   rw [rounds_succ]
   go_wp2_with (go_at_call 104;refine Calls.mono HQ'.out ?_;rintro e w' ⟨rfl,rfl⟩)
   rw [rounds_succ]
   go_wp2
   go_ret
   exact ⟨ret_int (by rw [HZ.out,HW.out];simp [a1,a2]),rfl⟩
  ·
   go_enter Tryz.func66,Tryz.ntmps66
   go_wp2
   refine wp_loop_rounds 2 ?_
   rw [rounds_succ]
   go_wp2_with (go_at_call 104;refine Calls.mono HQ'.out ?_;rintro e w' ⟨rfl,rfl⟩)
   rw [rounds_succ]
   go_wp2
   go_ret
   exact ⟨ret_int (by rw [HZ.out,HW.out];simp [a2]),rfl⟩
 ·
  go_enter Tryz.func66,Tryz.ntmps66
  go_wp2
  refine wp_loop_rounds 2 ?_
  rw [rounds_succ]
  go_wp2_with (go_at_call 104;refine Calls.mono HQ'.out ?_;rintro e w' ⟨rfl,rfl⟩)
  rw [rounds_succ]
  go_wp2
  go_ret
  exact ⟨ret_int (by rw [HZ.out,HW.out,decide_eq_false (show ¬0≤x by omega)];rfl),rfl⟩
theorem low_one {xs:List Int}{lo y:Int}(hy:latestZ xs lo (lo+2)=y):lowHit xs lo 1=(decide (0≤y)&&decide (y<lo+1)):=by
 unfold lowHit
 rw [show lo+(1+1)=lo+2 by omega,hy]
set_option maxHeartbeats 1600000 in
theorem rvictim_four (sa:Option Addr)(len cap:Nat)(xs:List Int)(w:World)(h:Ints w sa len cap xs) :
  Calls Tryz.prog 66 #[.int .i64 4,.slice sa len cap] w fun e w'=>e = .returned (.int .i64 (victimZ 4 xs))∧w'=w:=by
 have HZ:Hid (victimZ 4 xs=if lowHit xs 0 2=true then (if lowHit xs 2 1=true then 3 else 2) else (if lowHit xs 0 1=true then 1 else 0)):=rfl
 have HW:lowHit xs 0 2=(decide (0≤latestZ xs 0 4)&&decide (latestZ xs 0 4<2)):=rfl
 have bx:=latest_bd xs 0 4 (by omega) (by omega)
 have HQ:Hid _:=rlatest_any sa len cap xs 0 4 w h
 obtain ⟨x,hx⟩:∃ x,latestZ xs 0 4=x:=⟨_,rfl⟩
 rw [hx] at HW HQ bx
 obtain ⟨bx1,bx2⟩:=bx
 clear hx
 by_cases a1:0≤x∧x<2
 ·
  obtain ⟨a1,a2⟩:=a1
  have by1:=latest_bd xs 2 4 (by omega) (by omega)
  have HR:Hid _:=rlatest_any sa len cap xs 2 4 w h
  obtain ⟨y,hy⟩:∃ y,latestZ xs 2 4=y:=⟨_,rfl⟩
  have HY:=low_one (xs:=xs) (lo:=2) (y:=y) hy
  rw [hy] at HR by1
  obtain ⟨by1,by2⟩:=by1
  have e1:lowHit xs 0 2=true:=by rw [HW,decide_eq_true a1,decide_eq_true a2];rfl
  by_cases a3:0≤y∧y<2+1
  ·
   have HV:Hid (victimZ 4 xs=3):=by
    unfold Hid;rw [HZ.out,e1,HY,decide_eq_true a3.1,decide_eq_true a3.2];rfl
   obtain ⟨a3,a4⟩:=a3
   have a4':y<3:=by omega
   clear hy HY HW e1
   go_enter Tryz.func66,Tryz.ntmps66
   go_wp2
   refine wp_loop_rounds 3 ?_
   rw [rounds_succ]
   go_wp2_with (go_at_call 104;refine Calls.mono HQ.out ?_;rintro e w' ⟨rfl,rfl⟩)
   rw [rounds_succ]
   go_wp2_with (go_at_call 104;refine Calls.mono HR.out ?_;rintro e w' ⟨rfl,rfl⟩)
   rw [rounds_succ]
   go_wp2
   go_ret
   exact ⟨ret_int HV.out.symm,rfl⟩
  ·
   have HV:Hid (victimZ 4 xs=2):=by
    unfold Hid
    rw [HZ.out,e1,HY]
    by_cases b1:0≤y
    · rw [decide_eq_false (show ¬y<2+1 by omega)];simp
    · rw [decide_eq_false b1];rfl
   clear hy HY HW e1
   by_cases b1:0≤y
   ·
    have b2:¬y<3:=by omega
    go_enter Tryz.func66,Tryz.ntmps66
    go_wp2
    refine wp_loop_rounds 3 ?_
    rw [rounds_succ]
    go_wp2_with (go_at_call 104;refine Calls.mono HQ.out ?_;rintro e w' ⟨rfl,rfl⟩)
    rw [rounds_succ]
    go_wp2_with (go_at_call 104;refine Calls.mono HR.out ?_;rintro e w' ⟨rfl,rfl⟩)
    rw [rounds_succ]
    go_wp2
    go_ret
    exact ⟨ret_int HV.out.symm,rfl⟩
   ·
    clear a3
    go_enter Tryz.func66,Tryz.ntmps66
    go_wp2
    refine wp_loop_rounds 3 ?_
    rw [rounds_succ]
    go_wp2_with (go_at_call 104;refine Calls.mono HQ.out ?_;rintro e w' ⟨rfl,rfl⟩)
    rw [rounds_succ]
    go_wp2_with (go_at_call 104;refine Calls.mono HR.out ?_;rintro e w' ⟨rfl,rfl⟩)
    rw [rounds_succ]
    go_wp2
    go_ret
    exact ⟨ret_int HV.out.symm,rfl⟩
 ·
  have by1:=latest_bd xs 0 2 (by omega) (by omega)
  have HR:Hid _:=rlatest_any sa len cap xs 0 2 w h
  obtain ⟨y,hy⟩:∃ y,latestZ xs 0 2=y:=⟨_,rfl⟩
  have HY:=low_one (xs:=xs) (lo:=0) (y:=y) hy
  rw [hy] at HR by1
  obtain ⟨by1,by2⟩:=by1
  have e1:lowHit xs 0 2=false:=by
   rw [HW]
   by_cases b1:0≤x
   · rw [decide_eq_false (show ¬x<2 by omega)];simp
   · rw [decide_eq_false b1];rfl
  have HV:Hid (victimZ 4 xs=if (decide (0≤y)&&decide (y<0+1))=true then 1 else 0):=by
   unfold Hid;rw [HZ.out,e1,HY];rfl
  clear hy HY HW e1 HZ
  have cases:(x<0∨(0≤x∧2≤x))∧(y<0∨(0≤y∧y<1)∨(0≤y∧1≤y)):=by omega
  clear a1
  have HV0:y<0→Hid (victimZ 4 xs=0):=fun hh=>by unfold Hid;rw [HV.out,decide_eq_false (show ¬0≤y by omega)];rfl
  have HV1:0≤y→y<1→Hid (victimZ 4 xs=1):=fun hh hg=>by unfold Hid;rw [HV.out,decide_eq_true hh,decide_eq_true (show y<0+1 by omega)];rfl
  have HV2:1≤y→Hid (victimZ 4 xs=0):=fun hh=>by unfold Hid;rw [HV.out,decide_eq_false (show ¬y<0+1 by omega)];simp
  clear HV
  obtain ⟨c1,c2⟩:=cases
  rcases c2 with c2|⟨c2,c3⟩|⟨c2,c3⟩
  ·
   have HV:=HV0 c2
   clear HV0 HV1 HV2
   rcases c1 with c1|⟨c1,c4⟩
   all_goals
    go_enter Tryz.func66,Tryz.ntmps66
    go_wp2
    refine wp_loop_rounds 3 ?_
    rw [rounds_succ]
    go_wp2_with (go_at_call 104;refine Calls.mono HQ.out ?_;rintro e w' ⟨rfl,rfl⟩)
    rw [rounds_succ]
    go_wp2_with (go_at_call 104;refine Calls.mono HR.out ?_;rintro e w' ⟨rfl,rfl⟩)
    rw [rounds_succ]
    go_wp2
    go_ret
    exact ⟨ret_int HV.out.symm,rfl⟩
  ·
   have HV:=HV1 c2 c3
   clear HV0 HV1 HV2
   rcases c1 with c1|⟨c1,c4⟩
   all_goals
    go_enter Tryz.func66,Tryz.ntmps66
    go_wp2
    refine wp_loop_rounds 3 ?_
    rw [rounds_succ]
    go_wp2_with (go_at_call 104;refine Calls.mono HQ.out ?_;rintro e w' ⟨rfl,rfl⟩)
    rw [rounds_succ]
    go_wp2_with (go_at_call 104;refine Calls.mono HR.out ?_;rintro e w' ⟨rfl,rfl⟩)
    rw [rounds_succ]
    go_wp2
    go_ret
    exact ⟨ret_int HV.out.symm,rfl⟩
  ·
   have HV:=HV2 c3
   clear HV0 HV1 HV2
   rcases c1 with c1|⟨c1,c4⟩
   all_goals
    go_enter Tryz.func66,Tryz.ntmps66
    go_wp2
    refine wp_loop_rounds 3 ?_
    rw [rounds_succ]
    go_wp2_with (go_at_call 104;refine Calls.mono HQ.out ?_;rintro e w' ⟨rfl,rfl⟩)
    rw [rounds_succ]
    go_wp2_with (go_at_call 104;refine Calls.mono HR.out ?_;rintro e w' ⟨rfl,rfl⟩)
    rw [rounds_succ]
    go_wp2
    go_ret
    exact ⟨ret_int HV.out.symm,rfl⟩
theorem rvictim_any (n:Int)(sa:Option Addr)(len cap:Nat)(xs:List Int)(w:World)(h:Ints w sa len cap xs)(hn:smallB n=true) :
  Calls Tryz.prog 66 #[.int .i64 n,.slice sa len cap] w fun e w'=>e = .returned (.int .i64 (victimZ n xs))∧w'=w:=by
 rcases (small_iff n).1 hn with rfl|rfl|rfl
 · exact rvictim_one sa len cap xs w
 · exact rvictim_two sa len cap xs w h
 · exact rvictim_four sa len cap xs w h
end Go.Proofs.YtehheaedbnfidaaGreat
