import Derived.Test.YtehheaedbnfidaaGreatClWLent
set_option maxRecDepth 100000
namespace Go.Proofs.YtehheaedbnfidaaGreat
open Go.RowKit
theorem ret_vic {j k:IntKind}{a b c d:Int}(h:a=b)(g:c=d):Ending.returned (.tuple #[.int j a,.int k c]) = .returned (.tuple #[.int j b,.int k d]):=by rw [h,g]
set_option maxHeartbeats 800000 in
theorem last_any (sa:Option Addr)(len cap:Nat)(xs:List Int)(lo hi:Int)(w:World)(h:Ints w sa len cap xs) :
  Calls Tryz.prog 103 #[.slice sa len cap,.int .i64 lo,.int .i64 hi] w fun e w'=>e = .returned (.int .i64 (latestZ xs lo hi))∧w'=w:=by
 have hle:=h.hle
 have hm:=h.hmax
 unfold maxLen at hm
 have HL:Hid (xs.length=len):=h.hlen
 go_enter Tryz.func103,Tryz.ntmps103
 go_wp2
 go_loop [7] (fun i=>∃ k:Nat,k≤len∧i = .int .i64 ((k:Int)-1)∧∀ x∈xs.drop k,¬(lo≤x∧x<hi)) (fun i=>(intOf i+1).toNat)
 case atStart=>exact ⟨len,Nat.le_refl _,rfl,by rw [List.drop_of_length_le (by rw [HL.out];omega)];simp⟩
 case round=>
  obtain ⟨k,hk,rfl,hall⟩:=hrel
  have HA:Hid _:=hall
  clear hall
  by_cases hlt:0<k
  ·
   obtain ⟨k',rfl⟩:∃ k',k=k'+1:=⟨k-1,by omega⟩
   have hk':k'<len:=by omega
   have e1:(((k'+1:Nat):Int)-1)=(k':Int):=by omega
   rw [e1]
   obtain ⟨b,off,rfl,hc⟩:=h.hat k' hk'
   have hkx:k'<xs.length:=by rw [HL.out];exact hk'
   have HH:Hid (lo≤xs.getD k' 0∧xs.getD k' 0<hi→latestZ xs lo hi=xs.getD k' 0):=fun hx=>latest_hit hkx hx HA.out
   have HM:Hid (¬(lo≤xs.getD k' 0∧xs.getD k' 0<hi)→∀ x∈xs.drop k',¬(lo≤x∧x<hi)):=by
    intro hx x hxm
    rw [List.drop_eq_getElem_cons hkx] at hxm
    rcases List.mem_cons.1 hxm with hxm|hxm
    ·
     subst hxm
     have ek:xs.getD k' 0=xs[k']:=by simp [List.getD,hkx]
     rw [ek] at hx
     exact hx
    · exact HA.out x hxm
   generalize xs.getD k' 0=x at *
   clear e1
   by_cases a1:lo≤x
   ·
    by_cases a2:x<hi
    ·
     go_wp2
     go_ret
     exact ⟨ret_int (HH.out ⟨a1,a2⟩).symm,rfl⟩
    ·
     go_wp2
     go_round
     case rel=>exact ⟨k',by omega,rfl,HM.out (by omega)⟩
     case measure=>simp [intOf]
   ·
    go_wp2
    go_round
    case rel=>exact ⟨k',by omega,rfl,HM.out (by omega)⟩
    case measure=>simp [intOf]
  ·
   obtain rfl:k=0:=by omega
   go_wp2
   go_ret
   exact ⟨ret_int (latest_none (by simpa using HA.out)).symm,rfl⟩
theorem vic_no {n:Int}{xs:List Int}(h:victimOk n xs=false):victimE n xs=6∧victimN n xs=0:=by simp [victimE,victimN,h]
theorem vic_yes {n:Int}{xs:List Int}(h:victimOk n xs=true):victimE n xs=0∧victimN n xs=victimZ n xs:=by simp [victimE,victimN,h]
theorem latest_in (l:List Int)(lo hi:Int):latestZ l lo hi=-1∨(lo≤latestZ l lo hi∧latestZ l lo hi<hi):=by
 unfold latestZ
 cases h:l.reverse.find? (fun x=>decide (lo≤x)&&decide (x<hi)) with
 | none=>left;rfl
 | some x=>
  have:=List.find?_some h
  simp at this
  right
  simpa using this
theorem vic_two {xs:List Int}{x:Int}(hx:latestZ xs 0 2=x):(x<0→victimZ 2 xs=0)∧(0≤x→x<1→victimZ 2 xs=1)∧(1≤x→victimZ 2 xs=0):=by
 have e:victimZ 2 xs=if (decide (0≤x)&&decide (x<1))=true then 1 else 0:=by
  subst hx;rfl
 rw [e]
 refine ⟨fun h=>?_,fun h g=>?_,fun h=>?_⟩
 · rw [decide_eq_false (show ¬0≤x by omega)];rfl
 · rw [decide_eq_true h,decide_eq_true g];rfl
 · rw [decide_eq_false (show ¬x<1 by omega)];simp
theorem vic_four {xs:List Int}{x y z:Int}(hx:latestZ xs 0 4=x)(hy:latestZ xs 0 2=y)(hz:latestZ xs 2 4=z) :
  (0≤x→x<2→z<2→victimZ 4 xs=2)∧(0≤x→x<2→2≤z→z<3→victimZ 4 xs=3)∧(0≤x→x<2→3≤z→victimZ 4 xs=2)∧
  (x<0∨2≤x→y<0→victimZ 4 xs=0)∧(x<0∨2≤x→0≤y→y<1→victimZ 4 xs=1)∧(x<0∨2≤x→1≤y→victimZ 4 xs=0):=by
 have e:victimZ 4 xs=if (decide (0≤x)&&decide (x<2))=true then (if (decide (0≤z)&&decide (z<3))=true then 3 else 2) else (if (decide (0≤y)&&decide (y<1))=true then 1 else 0):=by
  subst hx hy hz;rfl
 have zz:=latest_in xs 2 4
 rw [hz] at zz
 rw [e]
 simp only [Bool.and_eq_true,decide_eq_true_eq]
 refine ⟨fun h g k=>?_,fun h g k l=>?_,fun h g k=>?_,fun h g=>?_,fun h g k=>?_,fun h g=>?_⟩
 · rw [if_pos ⟨h,g⟩,if_neg (by omega)]
 · rw [if_pos ⟨h,g⟩,if_pos (by omega)]
 · rw [if_pos ⟨h,g⟩,if_neg (by omega)]
 · rw [if_neg (by omega),if_neg (by omega)]
 · rw [if_neg (by omega),if_pos (by omega)]
 · rw [if_neg (by omega),if_neg (by omega)]
set_option maxHeartbeats 3200000 in
theorem cvictim_one (sa:Option Addr)(len cap:Nat)(xs:List Int)(w:World)(h:Ints w sa len cap xs) :
  Calls Tryz.prog 64 #[.int .i64 1,.slice sa len cap] w fun e w'=>e = .returned (.tuple #[.int .i64 (victimN 1 xs),.int .i64 (victimE 1 xs)])∧w'=w:=by
 have hle:=h.hle
 have hm:=h.hmax
 unfold maxLen at hm
 have HL:Hid (xs.length=len):=h.hlen
 go_enter Tryz.func64,Tryz.ntmps64
 go_wp2
 go_loop [6] (fun i=>∃ k:Nat,k≤len∧i = .int .i64 k∧(xs.take k).all (fun x=>withinB x 0 (1-1))=true) (fun i=>len-(intOf i).toNat)
 case atStart=>exact ⟨0,Nat.zero_le _,rfl,rfl⟩
 case round=>
  obtain ⟨k,hk,rfl,hall⟩:=hrel
  have HA:Hid _:=hall
  clear hall
  by_cases hlt:k<len
  ·
   obtain ⟨b,off,rfl,hc⟩:=h.hat k hlt
   have HS2:Hid _:=all_snoc (fun x=>withinB x 0 (1-1)) xs 0 k (by rw [h.hlen];exact hlt)
   have HF:Hid _:=all_false_of (fun x=>withinB x 0 (1-1)) xs 0 k (by rw [h.hlen];exact hlt)
   generalize xs.getD k 0=x at *
   by_cases h1:x<0
   ·
    have HN:Hid _:=vic_no (n:=1) (xs:=xs) (by unfold victimOk;rw [HF.out ((within_not _ _ _).2 (by omega))];simp)
    go_wp2
    go_ret2
    exact ⟨ret_vic HN.out.2.symm HN.out.1.symm,rfl⟩
   ·
    by_cases h2:1≤x
    ·
     have HN:Hid _:=vic_no (n:=1) (xs:=xs) (by unfold victimOk;rw [HF.out ((within_not _ _ _).2 (by omega))];simp)
     go_wp2
     go_ret2
     exact ⟨ret_vic HN.out.2.symm HN.out.1.symm,rfl⟩
    ·
     go_wp2
     go_round
     case rel=>exact ⟨k+1,by omega,by go_num,by rw [HS2.out,HA.out];exact (within_iff _ _ _).2 (by omega)⟩
     case measure=>simp [intOf];omega
  ·
   have HN:Hid _:=vic_yes (n:=1) (xs:=xs) (by
    have:=HA.out
    rw [List.take_of_length_le (by rw [h.hlen];omega)] at this
    unfold victimOk;rw [this];rfl)
   go_wp2
   refine wp_loop_rounds 1 ?_
   rw [rounds_succ]
   go_wp2
   go_ret2
   exact ⟨ret_vic HN.out.2.symm HN.out.1.symm,rfl⟩
set_option maxHeartbeats 3200000 in
theorem cvictim_two (sa:Option Addr)(len cap:Nat)(xs:List Int)(w:World)(h:Ints w sa len cap xs) :
  Calls Tryz.prog 64 #[.int .i64 2,.slice sa len cap] w fun e w'=>e = .returned (.tuple #[.int .i64 (victimN 2 xs),.int .i64 (victimE 2 xs)])∧w'=w:=by
 have hle:=h.hle
 have hm:=h.hmax
 unfold maxLen at hm
 have HL:Hid (xs.length=len):=h.hlen
 go_enter Tryz.func64,Tryz.ntmps64
 go_wp2
 go_loop [6] (fun i=>∃ k:Nat,k≤len∧i = .int .i64 k∧(xs.take k).all (fun x=>withinB x 0 (2-1))=true) (fun i=>len-(intOf i).toNat)
 case atStart=>exact ⟨0,Nat.zero_le _,rfl,rfl⟩
 case round=>
  obtain ⟨k,hk,rfl,hall⟩:=hrel
  have HA:Hid _:=hall
  clear hall
  by_cases hlt:k<len
  ·
   obtain ⟨b,off,rfl,hc⟩:=h.hat k hlt
   have HS2:Hid _:=all_snoc (fun x=>withinB x 0 (2-1)) xs 0 k (by rw [h.hlen];exact hlt)
   have HF:Hid _:=all_false_of (fun x=>withinB x 0 (2-1)) xs 0 k (by rw [h.hlen];exact hlt)
   generalize xs.getD k 0=x at *
   by_cases h1:x<0
   ·
    have HN:Hid _:=vic_no (n:=2) (xs:=xs) (by unfold victimOk;rw [HF.out ((within_not _ _ _).2 (by omega))];simp)
    go_wp2
    go_ret2
    exact ⟨ret_vic HN.out.2.symm HN.out.1.symm,rfl⟩
   ·
    by_cases h2:2≤x
    ·
     have HN:Hid _:=vic_no (n:=2) (xs:=xs) (by unfold victimOk;rw [HF.out ((within_not _ _ _).2 (by omega))];simp)
     go_wp2
     go_ret2
     exact ⟨ret_vic HN.out.2.symm HN.out.1.symm,rfl⟩
    ·
     go_wp2
     go_round
     case rel=>exact ⟨k+1,by omega,by go_num,by rw [HS2.out,HA.out];exact (within_iff _ _ _).2 (by omega)⟩
     case measure=>simp [intOf];omega
  ·
   have HN:Hid _:=vic_yes (n:=2) (xs:=xs) (by
    have:=HA.out
    rw [List.take_of_length_le (by rw [h.hlen];omega)] at this
    unfold victimOk;rw [this];rfl)
   have HQ:Hid _:=last_any sa len cap xs 0 2 w h
   have HX:Hid _:=vic_two (xs:=xs) rfl
   generalize latestZ xs 0 2=x at *
   have cases:x<0∨(0≤x∧x<1)∨(0≤x∧1≤x):=by omega
   rcases cases with c1|⟨c1,c2⟩|⟨c1,c2⟩
   all_goals
    go_wp2
    refine wp_loop_rounds 2 ?_
    rw [rounds_succ]
    go_wp2_with (go_at_call 103;refine Calls.mono HQ.out ?_;rintro e w' ⟨rfl,rfl⟩)
    rw [rounds_succ]
    go_wp2
    go_ret2
    refine ⟨ret_vic (Eq.trans ?_ HN.out.2.symm) HN.out.1.symm,rfl⟩
    first | exact (HX.out.1 c1).symm | exact (HX.out.2.1 c1 c2).symm | exact (HX.out.2.2 c2).symm
set_option maxHeartbeats 3200000 in
theorem cvictim_four (sa:Option Addr)(len cap:Nat)(xs:List Int)(w:World)(h:Ints w sa len cap xs) :
  Calls Tryz.prog 64 #[.int .i64 4,.slice sa len cap] w fun e w'=>e = .returned (.tuple #[.int .i64 (victimN 4 xs),.int .i64 (victimE 4 xs)])∧w'=w:=by
 have hle:=h.hle
 have hm:=h.hmax
 unfold maxLen at hm
 have HL:Hid (xs.length=len):=h.hlen
 go_enter Tryz.func64,Tryz.ntmps64
 go_wp2
 go_loop [6] (fun i=>∃ k:Nat,k≤len∧i = .int .i64 k∧(xs.take k).all (fun x=>withinB x 0 (4-1))=true) (fun i=>len-(intOf i).toNat)
 case atStart=>exact ⟨0,Nat.zero_le _,rfl,rfl⟩
 case round=>
  obtain ⟨k,hk,rfl,hall⟩:=hrel
  have HA:Hid _:=hall
  clear hall
  by_cases hlt:k<len
  ·
   obtain ⟨b,off,rfl,hc⟩:=h.hat k hlt
   have HS2:Hid _:=all_snoc (fun x=>withinB x 0 (4-1)) xs 0 k (by rw [h.hlen];exact hlt)
   have HF:Hid _:=all_false_of (fun x=>withinB x 0 (4-1)) xs 0 k (by rw [h.hlen];exact hlt)
   generalize xs.getD k 0=x at *
   by_cases h1:x<0
   ·
    have HN:Hid _:=vic_no (n:=4) (xs:=xs) (by unfold victimOk;rw [HF.out ((within_not _ _ _).2 (by omega))];simp)
    go_wp2
    go_ret2
    exact ⟨ret_vic HN.out.2.symm HN.out.1.symm,rfl⟩
   ·
    by_cases h2:4≤x
    ·
     have HN:Hid _:=vic_no (n:=4) (xs:=xs) (by unfold victimOk;rw [HF.out ((within_not _ _ _).2 (by omega))];simp)
     go_wp2
     go_ret2
     exact ⟨ret_vic HN.out.2.symm HN.out.1.symm,rfl⟩
    ·
     go_wp2
     go_round
     case rel=>exact ⟨k+1,by omega,by go_num,by rw [HS2.out,HA.out];exact (within_iff _ _ _).2 (by omega)⟩
     case measure=>simp [intOf];omega
  ·
   have HN:Hid _:=vic_yes (n:=4) (xs:=xs) (by
    have:=HA.out
    rw [List.take_of_length_le (by rw [h.hlen];omega)] at this
    unfold victimOk;rw [this];rfl)
   have HQ:Hid _:=last_any sa len cap xs 0 4 w h
   have HR:Hid _:=last_any sa len cap xs 0 2 w h
   have HT:Hid _:=last_any sa len cap xs 2 4 w h
   have HX:Hid _:=vic_four (xs:=xs) rfl rfl rfl
   have ib:=latest_in xs 2 4
   generalize latestZ xs 0 4=x at *
   generalize latestZ xs 0 2=y at *
   generalize latestZ xs 2 4=z at *
   have cases:(0≤x∧x<2)∨x<0∨(0≤x∧2≤x):=by omega
   rcases cases with ⟨c1,c2⟩|c1|⟨c1,c2⟩
   ·
    have cases:z<2∨(2≤z∧z<3)∨(2≤z∧3≤z):=by omega
    clear ib
    rcases cases with c3|⟨c3,c4⟩|⟨c3,c4⟩
    all_goals
     go_wp2
     refine wp_loop_rounds 3 ?_
     rw [rounds_succ]
     go_wp2_with (go_at_call 103;refine Calls.mono HQ.out ?_;rintro e w' ⟨rfl,rfl⟩)
     rw [rounds_succ]
     go_wp2_with (go_at_call 103;refine Calls.mono HT.out ?_;rintro e w' ⟨rfl,rfl⟩)
     rw [rounds_succ]
     go_wp2
     go_ret2
     refine ⟨ret_vic (Eq.trans ?_ HN.out.2.symm) HN.out.1.symm,rfl⟩
     first | exact (HX.out.1 c1 c2 c3).symm | exact (HX.out.2.1 c1 c2 c3 c4).symm | exact (HX.out.2.2.1 c1 c2 c4).symm
   all_goals
    have cases:y<0∨(0≤y∧y<1)∨(0≤y∧1≤y):=by omega
    clear ib
    rcases cases with c3|⟨c3,c4⟩|⟨c3,c4⟩
    all_goals
     go_wp2
     refine wp_loop_rounds 3 ?_
     rw [rounds_succ]
     go_wp2_with (go_at_call 103;refine Calls.mono HQ.out ?_;rintro e w' ⟨rfl,rfl⟩)
     rw [rounds_succ]
     go_wp2_with (go_at_call 103;refine Calls.mono HR.out ?_;rintro e w' ⟨rfl,rfl⟩)
     rw [rounds_succ]
     go_wp2
     go_ret2
     refine ⟨ret_vic (Eq.trans ?_ HN.out.2.symm) HN.out.1.symm,rfl⟩
     first | exact (HX.out.2.2.2.1 (by omega) c3).symm | exact (HX.out.2.2.2.2.1 (by omega) c3 c4).symm | exact (HX.out.2.2.2.2.2 (by omega) c4).symm
theorem cvictim_any (n:Int)(sa:Option Addr)(len cap:Nat)(xs:List Int)(w:World)(h:Ints w sa len cap xs) :
  Calls Tryz.prog 64 #[.int .i64 n,.slice sa len cap] w fun e w'=>e = .returned (.tuple #[.int .i64 (victimN n xs),.int .i64 (victimE n xs)])∧w'=w:=by
 rcases Bool.eq_false_or_eq_true (smallB n) with hs|hs
 ·
  rcases (small_iff n).1 hs with rfl | rfl | rfl
  · exact cvictim_one sa len cap xs w h
  · exact cvictim_two sa len cap xs w h
  · exact cvictim_four sa len cap xs w h
 ·
  have HN:Hid _:=vic_no (n:=n) (xs:=xs) (by unfold victimOk;rw [hs];rfl)
  obtain ⟨n1,n2,n3⟩:=(small_not n).1 hs
  have b1:(n != 1)=true:=by simpa using n1
  have b2:(n != 2)=true:=by simpa using n2
  have b3:(n != 4)=true:=by simpa using n3
  clear n1 n2 n3
  go_enter Tryz.func64,Tryz.ntmps64
  go_wp2
  go_ret2
  exact ⟨ret_vic HN.out.2.symm HN.out.1.symm,rfl⟩
theorem victim_any:VictimC:=by
 intro n sa len cap xs w h
 go_enter Tryz.func26,Tryz.ntmps26
 go_wp2_with fail
 refine (cvictim_any n sa len cap xs _ h).mono ?_
 rintro e w' ⟨rfl,rfl⟩
 go_wp2
 go_ret2
 exact ⟨rfl,Below.refl _ _⟩
abbrev bkA (b:Bk):Array Value:=#[.int .i64 b.line,.bool b.mkd,.int .i64 (b.wd 0),.int .i64 (b.wd 1),.int .i64 (b.wd 2),.int .i64 (b.wd 3)]
set_option maxHeartbeats 1600000 in
theorem fEmpty_any (w:World) :
  Calls Tryz.prog 139 #[] w fun e w'=>e = .returned (.agg (bkA bkE))∧w'=w.alloc (.cells (bkA bkE) 171):=by
 go_enter Tryz.func139,Tryz.ntmps139
 go_wp2
 refine bodyPost_ret (v:=.agg (bkA bkE)) (by simp [results,Tryz.results139,go_sem,alloc_cell,bkE]) rfl ⟨rfl,rfl⟩
set_option maxHeartbeats 1600000 in
theorem fRoom_any (ns wn:Nat)(X:FLoc)(blk:Nat→Nat→Bk)(tch:Nat→List Int)(g o x q:Nat)(w:World)(h:FarM w ns wn X blk tch)(hp:w.cell? ⟨g,o,none⟩=some (.slice (some ⟨X.r,0,none⟩) ns X.rc))(hx:x≤1000000)(hq:Hid (q=x%ns)) :
  Calls Tryz.prog 160 #[.pointer (some ⟨g,o,none⟩),.int .i64 x] w fun e w'=>e = .returned (.int .i64 (roomF (blk q) wn (tch q)))∧Below w.heap.size w w':=by
 have hqs:q<ns:=by rw [hq.out];exact Nat.mod_lt _ h.n0
 obtain ⟨e1,e2⟩:=h.setAt hqs
 have n1:=h.n1
 have w1:=h.w1
 have HV:Hid (victimOk (wn:Int) (tch q)=true):=by
  unfold Hid victimOk smallB
  have h1:=h.sm
  rw [Bool.and_eq_true]
  refine ⟨by rcases h1 with e | e | e <;> subst e <;> rfl,?_⟩
  rw [List.all_eq_true]
  intro e he
  have:=h.tin q hqs e he
  rw [within_iff]
  omega
 have hv:∀ w,Ints w (X.ta q) (X.tl q) (X.tc q) (tch q)→Calls Tryz.prog 64 #[.int .i64 wn,.slice (X.ta q) (X.tl q) (X.tc q)] w fun e w'=>e = .returned (.tuple #[.int .i64 (victimZ wn (tch q)),.int .i64 0])∧w'=w:=fun w hw=>by
  have:=cvictim_any (wn:Int) (X.ta q) (X.tl q) (X.tc q) (tch q) w hw
  rw [(vic_yes HV.out).1,(vic_yes HV.out).2] at this
  exact this
 have tq:=h.tcs q hqs
 by_cases a1:wayF (blk q) wn (-1)=-1
 ·
  have HR:Hid _:=show roomF (blk q) wn (tch q)=victimZ wn (tch q) by unfold roomF;rw [if_pos a1]
  go_enter Tryz.func160,Tryz.ntmps160
  go_wp2_with (first
   | (go_at_call 158;refine (fsetOf_any ns X g o x q _ hp h.n0 h.n1 hx hq).mono ?_;rintro e w' ⟨rfl,rfl⟩)
   | (go_at_call 159;refine (fwayOf_any _ wn _ (blk q) (-1) _ (h.cel q hqs) h.w1).mono ?_;rintro e w' ⟨rfl,rfl⟩;rw [a1]))
  go_quiet ((go_at_call 64;exact Calls.quiet_of_same (hv _ (by first | exact tq.drewN _ | exact tq))))
  go_wp2
  go_ret
  exact ⟨ret_int HR.out.symm,below_drewN (Below.refl _ _) _⟩
 ·
  have HR:Hid _:=show roomF (blk q) wn (tch q)=wayF (blk q) wn (-1) by unfold roomF;rw [if_neg a1]
  go_enter Tryz.func160,Tryz.ntmps160
  go_wp2_with (first
   | (go_at_call 158;refine (fsetOf_any ns X g o x q _ hp h.n0 h.n1 hx hq).mono ?_;rintro e w' ⟨rfl,rfl⟩)
   | (go_at_call 159;refine (fwayOf_any _ wn _ (blk q) (-1) _ (h.cel q hqs) h.w1).mono ?_;rintro e w' ⟨rfl,rfl⟩))
  all_goals go_ret
  all_goals exact ⟨ret_int HR.out.symm,Below.refl _ _⟩
structure ELoc where
 r:Nat
 rc:Nat
 b:Nat→Nat
 bc:Nat→Nat
 sa:Option Addr
 sb:Nat
 sc:Nat
structure MemM (w:World)(nd pv sn:Nat)(X:ELoc)(own:Nat→Nat→Int)(sh:Nat→Int):Prop where
 row:Cells w X.r nd 25 (fun d=>.slice (some ⟨X.b d,0,none⟩) pv (X.bc d))
 cel:∀ d,d<nd→Cells w (X.b d) pv 3 (fun a=>.int .i64 (own d a))
 shv:(sn=0∧X.sa=none)∨(X.sa=some ⟨X.sb,0,none⟩∧Cells w X.sb sn 3 (fun a=>.int .i64 (sh a)))
 rcap:nd≤X.rc∧X.rc≤maxLen
 bcap:∀ d,d<nd→pv≤X.bc d∧X.bc d≤maxLen
 scap:sn≤X.sc∧X.sc≤maxLen
 dis:∀ j k,j<nd→k<nd→X.b j=X.b k→j=k
 sdis:∀ d,d<nd→X.b d≠X.sb
 n1:nd≤4
 p0:0<pv
 p1:pv≤64
 s1:sn≤32
def ELoc.own (X:ELoc)(nd:Nat)(b:Nat):Prop:=b=X.sb∨∃ d,d<nd∧b=X.b d
theorem MemM.same {w w':World}{nd pv sn:Nat}{X:ELoc}{own:Nat→Nat→Int}{sh:Nat→Int}(h:MemM w nd pv sn X own sh)(h0:w'.heap[X.r]? = w.heap[X.r]?)(h1:∀ b,b<w.heap.size→X.own nd b→w'.heap[b]? = w.heap[b]?):MemM w' nd pv sn X own sh:=
 ⟨h.row.same h0,fun d hd=>(h.cel d hd).same (h1 _ (h.cel d hd).lt (Or.inr ⟨d,hd,rfl⟩)),by
  rcases h.shv with h2|⟨h2,h3⟩
  · exact Or.inl h2
  · exact Or.inr ⟨h2,h3.same (h1 _ h3.lt (Or.inl rfl))⟩,h.rcap,h.bcap,h.scap,h.dis,h.sdis,h.n1,h.p0,h.p1,h.s1⟩
theorem MemM.below {w w':World}{nd pv sn m:Nat}{X:ELoc}{own:Nat→Nat→Int}{sh:Nat→Int}(h:MemM w nd pv sn X own sh)(hb:Below m w w')(hm:w.heap.size≤m):MemM w' nd pv sn X own sh:=
 h.same (hb.block _ (Nat.lt_of_lt_of_le h.row.lt hm)) fun _ hb' _=>hb.block _ (Nat.lt_of_lt_of_le hb' hm)
theorem MemM.fill {w:World}{nd pv sn:Nat}{X:ELoc}{own:Nat→Nat→Int}{sh:Nat→Int}(h:MemM w nd pv sn X own sh){d:Nat}(hd:d<nd)(a:Nat)(v:Int) :
  MemM (w.setCell ⟨X.b d,a,none⟩ (.int .i64 v)) nd pv sn X (up1 own d (up1 (own d) a v)) sh∧Touch (X.own nd) w (w.setCell ⟨X.b d,a,none⟩ (.int .i64 v)):=by
 have hr:X.r≠X.b d:=fun e=>absurd ((e ▸ h.row).type (h.cel d hd)) (by decide)
 refine ⟨⟨h.row.setOther _ _ hr,fun e he=>?_,?_,h.rcap,h.bcap,h.scap,h.dis,h.sdis,h.n1,h.p0,h.p1,h.s1⟩,Touch.setCell _ _ _ _ (Or.inr ⟨d,hd,rfl⟩)⟩
 ·
  by_cases e2:e=d
  ·
   subst e2
   refine ((h.cel e he).set a _).congr fun i _=>?_
   simp only [up1,if_true]
   by_cases e3:i=a <;> simp [e3]
  ·
   refine ((h.cel e he).setOther a _ (fun k=>e2 (h.dis e d he hd k))).congr fun i _=>?_
   simp [up1,e2]
 ·
  rcases h.shv with h2 | ⟨h2,h3⟩
  · exact Or.inl h2
  · exact Or.inr ⟨h2,h3.setOther _ _ (Ne.symm (h.sdis d hd))⟩
theorem MemM.share {w:World}{nd pv sn:Nat}{X:ELoc}{own:Nat→Nat→Int}{sh:Nat→Int}(h:MemM w nd pv sn X own sh)(hs:Cells w X.sb sn 3 (fun a=>.int .i64 (sh a)))(hsa:X.sa=some ⟨X.sb,0,none⟩)(a:Nat)(v:Int) :
  MemM (w.setCell ⟨X.sb,a,none⟩ (.int .i64 v)) nd pv sn X own (up1 sh a v)∧Touch (X.own nd) w (w.setCell ⟨X.sb,a,none⟩ (.int .i64 v)):=by
 have hr:X.r≠X.sb:=fun e=>absurd ((e ▸ h.row).type hs) (by decide)
 refine ⟨⟨h.row.setOther _ _ hr,fun e he=>(h.cel e he).setOther _ _ (h.sdis e he),Or.inr ⟨hsa,?_⟩,h.rcap,h.bcap,h.scap,h.dis,h.sdis,h.n1,h.p0,h.p1,h.s1⟩,Touch.setCell _ _ _ _ (Or.inl rfl)⟩
 refine (hs.set a _).congr fun i _=>?_
 simp only [up1]
 by_cases e3:i=a <;> simp [e3]
set_option maxHeartbeats 1600000 in
theorem mFill_any (nd pv sn:Nat)(X:ELoc)(own:Nat→Nat→Int)(sh:Nat→Int)(g o d a:Nat)(v:Int)(w:World)(h:MemM w nd pv sn X own sh)(hp:w.cell? ⟨g,o+1,none⟩=some (.slice (some ⟨X.r,0,none⟩) nd X.rc))(hd:d<nd)(ha:a≤1000000) :
  Calls Tryz.prog 133 #[.pointer (some ⟨g,o,none⟩),.int .i64 d,.int .i64 a,.int .i64 v] w fun e w'=>e = .returned (.tuple #[])∧MemM w' nd pv sn X (if a<pv then up1 own d (up1 (own d) a v) else own) sh∧Touch (X.own nd) w w':=by
 have c1:=h.row.cell hd
 have n1:=h.n1
 have p1:=h.p1
 by_cases hap:a<pv
 ·
  have c2:=(h.cel d hd).cell hap
  have f2:=(h.cel d hd).frozen a
  have HF:Hid _:=h.fill hd a v
  have HI:Hid (a<pv):=hap
  clear h
  go_enter Tryz.func133,Tryz.ntmps133
  go_wp2
  refine bodyPost_end (results_none rfl _ _ _) rfl ?_
  exact ⟨rfl,by have h2:=HF.out.1;first | exact h2 | (rw [if_pos HI.out];exact h2),HF.out.2⟩
 ·
  have HI:Hid (¬a<pv):=hap
  have HM:Hid _:=h
  go_enter Tryz.func133,Tryz.ntmps133
  go_wp2
  refine bodyPost_ret (results_none rfl _ _ _) rfl ?_
  exact ⟨rfl,by have h2:=HM.out;first | exact h2 | (rw [if_neg HI.out];exact h2),Touch.refl _ _⟩
set_option maxHeartbeats 1600000 in
theorem mShare_any (nd pv sn:Nat)(X:ELoc)(own:Nat→Nat→Int)(sh:Nat→Int)(g o a:Nat)(v:Int)(w:World)(h:MemM w nd pv sn X own sh)(hp:w.cell? ⟨g,o+2,none⟩=some (.slice X.sa sn X.sc))(ha:a<sn) :
  Calls Tryz.prog 134 #[.pointer (some ⟨g,o,none⟩),.int .i64 a,.int .i64 v] w fun e w'=>e = .returned (.tuple #[])∧MemM w' nd pv sn X own (up1 sh a v)∧Touch (X.own nd) w w':=by
 have s1:=h.s1
 rcases h.shv with ⟨h2,_⟩|⟨h2,h3⟩
 · omega
 have c2:=h3.cell ha
 have f2:=h3.frozen a
 have HF:Hid _:=h.share h3 h2 a v
 rw [h2] at hp
 clear h2
 go_enter Tryz.func134,Tryz.ntmps134
 go_wp2
 refine bodyPost_end (results_none rfl _ _ _) rfl ?_
 exact ⟨rfl,HF.out.1,HF.out.2⟩
set_option maxHeartbeats 1600000 in
theorem mWord_any (nd pv sn:Nat)(X:ELoc)(own:Nat→Nat→Int)(sh:Nat→Int)(g o d a:Nat)(w:World)(h:MemM w nd pv sn X own sh)(hp:w.cell? ⟨g,o+1,none⟩=some (.slice (some ⟨X.r,0,none⟩) nd X.rc))(hp2:w.cell? ⟨g,o+2,none⟩=some (.slice X.sa sn X.sc))(hd:d<nd)(ha:a≤1000000) :
  Calls Tryz.prog 92 #[.pointer (some ⟨g,o,none⟩),.int .i64 d,.int .i64 a] w fun e w'=>e = .returned (.int .i64 (wordM pv sn (own d) sh a))∧w'=w:=by
 have c1:=h.row.cell hd
 have n1:=h.n1
 have p1:=h.p1
 have s1:=h.s1
 by_cases hap:a<pv
 ·
  have c2:=(h.cel d hd).cell hap
  have HV:Hid _:=show wordM pv sn (own d) sh a=own d a by unfold wordM;rw [if_pos hap]
  go_enter Tryz.func92,Tryz.ntmps92
  go_wp2
  go_ret
  exact ⟨ret_int HV.out.symm,rfl⟩
 ·
  obtain ⟨k,hk⟩:∃ k,a=pv+k:=⟨a-pv,by omega⟩
  subst hk
  by_cases hks:k<sn
  ·
   have HV:Hid _:=show wordM pv sn (own d) sh (pv+k)=sh k by unfold wordM;rw [if_neg hap,if_pos (by omega),Nat.add_sub_cancel_left]
   rcases h.shv with ⟨h2,_⟩|⟨h2,h3⟩
   · omega
   have c2:=h3.cell hks
   rw [h2] at hp2
   have e1:((pv+k:Nat):Int)-(pv:Int)=(k:Int):=by omega
   have e2:(pv:Int)+(k:Int)-(pv:Int)=(k:Int):=by omega
   clear h2
   go_enter Tryz.func92,Tryz.ntmps92
   go_wp2
   go_ret
   exact ⟨ret_int HV.out.symm,rfl⟩
  ·
   have HV:Hid _:=show wordM pv sn (own d) sh (pv+k)=0 by unfold wordM;rw [if_neg hap,if_neg (by omega)]
   have e1:((pv+k:Nat):Int)-(pv:Int)=(k:Int):=by omega
   have e2:(pv:Int)+(k:Int)-(pv:Int)=(k:Int):=by omega
   go_enter Tryz.func92,Tryz.ntmps92
   go_wp2
   go_ret
   exact ⟨ret_int HV.out.symm,rfl⟩
abbrev wdA (f:Nat→Int):Array Value:=#[.int .i64 (f 0),.int .i64 (f 1),.int .i64 (f 2),.int .i64 (f 3)]
def upto4 (f:Nat→Int)(i:Nat):Nat→Int:=fun k=>if k<i then f k else 0
abbrev wdL (f:Nat→Int):List Value:=[.int .i64 (f 0),.int .i64 (f 1),.int .i64 (f 2),.int .i64 (f 3)]
theorem upto4_set (F:Nat→Int){i:Nat}(hi:i<4):(wdL (upto4 F i)).set i (.int .i64 (F i))=wdL (upto4 F (i+1)):=by
 have:i=0∨i=1∨i=2∨i=3:=by omega
 rcases this with e|e|e|e <;> subst e <;> rfl
theorem upto4_at (F:Nat→Int){i:Nat}(hi:i<4):(wdL (upto4 F i))[i]? = some (.int .i64 (upto4 F i i)):=by
 have:i=0∨i=1∨i=2∨i=3:=by omega
 rcases this with e|e|e|e <;> subst e <;> rfl
set_option maxHeartbeats 3200000 in
theorem mRead_any (nd pv sn ln:Nat)(X:ELoc)(own:Nat→Nat→Int)(sh:Nat→Int)(g o d x:Nat)(w:World)(h:MemM w nd pv sn X own sh)(hp0:w.cell? ⟨g,o,none⟩=some (.int .i64 ln))(hp:w.cell? ⟨g,o+1,none⟩=some (.slice (some ⟨X.r,0,none⟩) nd X.rc))(hp2:w.cell? ⟨g,o+2,none⟩=some (.slice X.sa sn X.sc))(hd:d<nd)(hx:x≤1000)(hln:ln=1∨ln=2∨ln=4) :
  Calls Tryz.prog 165 #[.pointer (some ⟨g,o,none⟩),.int .i64 d,.int .i64 x] w fun e w'=>e = .returned (.agg (wdA (readM pv sn ln (own d) sh x)))∧Below w.heap.size w w':=by
 have lg:=cell_lt hp0
 have hW:∀ (a:Nat) (wr:World),Below w.heap.size w wr→a≤1000000→Calls Tryz.prog 92 #[.pointer (some ⟨g,o,none⟩),.int .i64 d,.int .i64 a] wr fun e w'=>e = .returned (.int .i64 (wordM pv sn (own d) sh a))∧w'=wr:=fun a wr hb ha=>
  mWord_any nd pv sn X own sh g o d a _ (h.below hb (Nat.le_refl _)) ((hb.cell (p:=⟨g,o+1,none⟩) lg).trans hp) ((hb.cell (p:=⟨g,o+2,none⟩) lg).trans hp2) hd ha
 have HR:Hid (∀ i,i<ln→i<4→readM pv sn ln (own d) sh x i=wordM pv sn (own d) sh (x*ln+i)):=fun i h1 h2=>by unfold readM;rw [if_pos ⟨h1,h2⟩]
 have HZ:Hid (∀ i,¬i<ln→readM pv sn ln (own d) sh x i=0):=fun i h1=>by unfold readM;rw [if_neg (fun hh=>h1 hh.1)]
 generalize readM pv sn ln (own d) sh x=F at *
 obtain ⟨y,hy⟩:∃ y,x*ln=y:=⟨_,rfl⟩
 have HY:Hid _:=hy
 have hy2:y≤4000:=by rw [← hy];rcases hln with e | e | e <;> subst e <;> omega
 have hyI:(x:Int)*(ln:Int)=(y:Int):=by rw [← hy];simp
 have hl4:ln≤4:=by omega
 clear h hp hp2 hy
 go_enter Tryz.func165,Tryz.ntmps165
 go_wp2_with fail
 have h0:Row ((w.alloc (.cells (wdA (fun _=>0)) 169)).alloc (.cells (wdA (fun _=>0)) 169)) (w.heap.size+1) (wdL (fun _=>0)) 169:=by
  have:=heap_alloc_new (w.alloc (.cells (wdA (fun _=>0)) 169)) (.cells (wdA (fun _=>0)) 169)
  simpa [Row] using this
 have h1:Row ((w.alloc (.cells (wdA (fun _=>0)) 169)).alloc (.cells (wdA (fun _=>0)) 169)) w.heap.size (wdL (fun _=>0)) 169:=Row.alloc (heap_alloc_new w _) _
 have H0:Hid _:=h0
 have H1:Hid _:=h1
 clear h0 h1
 go_loopw [8] (fun u wr=>∃ i:Nat,i≤ln∧u = .int .i64 i∧Row wr (w.heap.size+1) (wdL (upto4 F i)) 169∧Row wr w.heap.size (wdL (fun _=>0)) 169∧Below w.heap.size w wr) (fun u _=>ln-(intOf u).toNat)
 case atStart=>exact ⟨0,by omega,rfl,H0.out,H1.out,((Below.refl _ _).alloc (Nat.le_refl _) _).alloc (by simp) _⟩
 case round=>
  obtain ⟨i,hi,rfl,hr1,hr0,hb⟩:=hrel
  have rp0:=(hb.cell (p:=⟨g,o,none⟩) lg).trans hp0
  by_cases hlt:i<ln
  ·
   have hi4:i<4:=by omega
   have HF:Hid _:=HR.out i hlt (by omega)
   have hc:wr.cell? ⟨w.heap.size+1,i,none⟩=some (.int .i64 (upto4 F i i)):=by rw [hr1.cell,upto4_at F hi4]
   have hf:=hr1.frozen i
   have hww:=hW (y+i) wr hb (by omega)
   rw [← HY.out,← HF.out] at hww
   have HS1:Hid _:=upto4_set F hi4
   have HR1:Hid (Row wr (w.heap.size+1) (wdL (upto4 F i)) 169):=hr1
   have HR0:Hid (Row wr w.heap.size (wdL (fun _=>0)) 169):=hr0
   have HB:Hid _:=hb
   generalize upto4 F i i=zz at *
   clear hW hr1 hr0 hb
   rw [HY.out,show ((y+i:Nat):Int)=(y:Int)+(i:Int) by omega] at hww
   go_wp2_with fail
   refine hww.mono ?_;rintro e w' ⟨rfl,rfl⟩
   clear hww
   have hR2:=Row.setCell (w:=w') (g:=w.heap.size+1) (A:=wdL (upto4 F i)) (t:=169) HR1.out i (.int .i64 (F i))
   rw [HS1.out] at hR2
   have hR3:=Row.setCellOther (w:=w') (k:=w.heap.size) (A:=wdL (fun _=>0)) (t:=169) HR0.out i (.int .i64 (F i)) (show w.heap.size≠w.heap.size+1 by omega)
   have hB2:=HB.out.setCell (show w.heap.size≤(⟨w.heap.size+1,i,none⟩:Addr).block by show w.heap.size≤w.heap.size+1;omega) (.int .i64 (F i))
   have HR2:Hid _:=hR2
   have HR3:Hid _:=hR3
   have HB2:Hid _:=hB2
   clear hR2 hR3 hB2
   go_wp2_with fail
   go_roundw
   case rel=>exact ⟨i+1,by omega,by go_num,HR2.out,HR3.out,HB2.out⟩
   case measure=>simp [intOf];omega
  ·
   have ei:i=ln:=by omega
   have HA:Hid (upto4 F i=F):=by
    unfold Hid
    funext k
    unfold upto4
    by_cases hk:k<i
    · rw [if_pos hk]
    · rw [if_neg hk,HZ.out k (by omega)]
   rw [HA.out] at hr1
   clear ei
   have a0:wr.cell? ⟨w.heap.size+1,0,none⟩=some (.int .i64 (F 0)):=by rw [hr1.cell];rfl
   have a1:wr.cell? ⟨w.heap.size+1,1,none⟩=some (.int .i64 (F 1)):=by rw [hr1.cell];rfl
   have a2:wr.cell? ⟨w.heap.size+1,2,none⟩=some (.int .i64 (F 2)):=by rw [hr1.cell];rfl
   have a3:wr.cell? ⟨w.heap.size+1,3,none⟩=some (.int .i64 (F 3)):=by rw [hr1.cell];rfl
   have b0:wr.cell? ⟨w.heap.size,0,none⟩=some (.int .i64 0):=by rw [hr0.cell];rfl
   have b1:wr.cell? ⟨w.heap.size,1,none⟩=some (.int .i64 0):=by rw [hr0.cell];rfl
   have b2:wr.cell? ⟨w.heap.size,2,none⟩=some (.int .i64 0):=by rw [hr0.cell];rfl
   have b3:wr.cell? ⟨w.heap.size,3,none⟩=some (.int .i64 0):=by rw [hr0.cell];rfl
   have f0:=hr0.frozen 0
   have f1:=hr0.frozen 1
   have f2:=hr0.frozen 2
   have f3:=hr0.frozen 3
   have q:Row ((((wr.setCell ⟨w.heap.size,0,none⟩ (.int .i64 (F 0))).setCell ⟨w.heap.size,1,none⟩ (.int .i64 (F 1))).setCell ⟨w.heap.size,2,none⟩ (.int .i64 (F 2))).setCell ⟨w.heap.size,3,none⟩ (.int .i64 (F 3))) w.heap.size (wdL F) 169:=(((hr0.setCell 0 _).setCell 1 _).setCell 2 _).setCell 3 _
   have q0:=q.cell 0
   have q1:=q.cell 1
   have q2:=q.cell 2
   have q3:=q.cell 3
   have HB:Hid _:=hb
   clear hW hr1 hr0 hb q
   go_wp2
   refine bodyPost_ret (v:=.agg (wdA F)) (by simp [results,Tryz.results165,go_sem,q0,q1,q2,q3]) rfl ⟨rfl,?_⟩
   exact (((HB.out.setCell (Nat.le_refl _) _).setCell (Nat.le_refl _) _).setCell (Nat.le_refl _) _).setCell (Nat.le_refl _) _
def partM (pv y:Nat)(own wd:Nat→Int)(i:Nat):Nat→Int:=fun a=>if y≤a∧a<y+i∧a<pv then wd (a-y) else own a
theorem part_step {pv y i:Nat}{own wd:Nat→Int}:partM pv y own wd (i+1)=if y+i<pv then up1 (partM pv y own wd i) (y+i) (wd i) else partM pv y own wd i:=by
 funext a
 by_cases h:y+i<pv
 ·
  rw [if_pos h]
  unfold partM up1
  dsimp only
  by_cases e:a=y+i
  ·
   subst e
   rw [if_pos (by omega),if_pos rfl,Nat.add_sub_cancel_left]
  ·
   rw [if_neg e]
   by_cases c:y≤a∧a<y+i∧a<pv
   · rw [if_pos (by omega),if_pos c]
   · rw [if_neg (by omega),if_neg c]
 ·
  rw [if_neg h]
  unfold partM
  by_cases c:y≤a∧a<y+i∧a<pv
  · rw [if_pos (by omega),if_pos c]
  · rw [if_neg (by omega),if_neg c]
theorem up1_up1 {α:Type}(f:Nat→α)(i:Nat)(u v:α):up1 (up1 f i u) i v=up1 f i v:=by
 funext j
 unfold up1
 by_cases e:j=i <;> simp [e]
theorem up1_self {α:Type}(f:Nat→α)(i:Nat):up1 f i (f i)=f:=by
 funext j
 unfold up1
 by_cases e:j=i <;> simp [e]
theorem up1_at {α:Type}(f:Nat→α)(i:Nat)(v:α):up1 f i v i=v:=by simp [up1]
theorem wdL_at (F:Nat→Int){i:Nat}(hi:i<4):(wdL F)[i]? = some (.int .i64 (F i)):=by
 have:i=0∨i=1∨i=2∨i=3:=by omega
 rcases this with e|e|e|e <;> subst e <;> rfl
set_option maxHeartbeats 3200000 in
theorem mWrite_any (nd pv sn ln:Nat)(X:ELoc)(own:Nat→Nat→Int)(sh:Nat→Int)(g o d x:Nat)(F:Nat→Int)(w:World)(h:MemM w nd pv sn X own sh)(hp0:w.cell? ⟨g,o,none⟩=some (.int .i64 ln))(hp:w.cell? ⟨g,o+1,none⟩=some (.slice (some ⟨X.r,0,none⟩) nd X.rc))(hg:¬X.own nd g)(hsb:X.sb<w.heap.size)(hd:d<nd)(hx:x≤1000)(hln:ln=1∨ln=2∨ln=4) :
  Calls Tryz.prog 163 #[.pointer (some ⟨g,o,none⟩),.int .i64 d,.int .i64 x,.agg (wdA F)] w fun e w'=>e = .returned (.tuple #[])∧MemM w' nd pv sn X (up1 own d (writeM pv ln (own d) x F)) sh∧Touch (X.own nd) w w':=by
 have lg:=cell_lt hp0
 obtain ⟨y,hy⟩:∃ y,x*ln=y:=⟨_,rfl⟩
 have hy2:y≤4000:=by rw [← hy];rcases hln with e | e | e <;> subst e <;> omega
 have hyI:(x:Int)*(ln:Int)=(y:Int):=by rw [← hy];simp
 have hl4:ln≤4:=by omega
 have HWR:Hid (writeM pv ln (own d) x F=partM pv y (own d) F ln):=by
  unfold Hid writeM partM
  rw [hy]
  funext a
  by_cases c:y≤a∧a<y+ln∧a<pv
  · rw [if_pos (by omega),if_pos c]
  · rw [if_neg (by omega),if_neg c]
 have hW0:Row (w.alloc (.cells (wdA F) 169)) w.heap.size (wdL F) 169:=heap_alloc_new w _
 have hB0:Below w.heap.size w (w.alloc (.cells (wdA F) 169)):=(Below.refl _ _).alloc (Nat.le_refl _) _
 have hT0:Touch (X.own nd) w (w.alloc (.cells (wdA F) 169)):=Touch.of_below hB0 (Nat.le_refl _)
 have hno:¬X.own nd w.heap.size:=by
  rintro (e|⟨k,hk,e⟩)
  · omega
  · have:=(h.cel k hk).lt;omega
 have hM0:MemM (w.alloc (.cells (wdA F) 169)) nd pv sn X (up1 own d (partM pv y (own d) F 0)) sh:=by
  have:partM pv y (own d) F 0=own d:=by
   funext a
   unfold partM
   rw [if_neg (by omega)]
  rw [this,up1_self]
  exact h.below hB0 (Nat.le_refl _)
 have hs1:(w.alloc (.cells (wdA F) 169)).heap.size=w.heap.size+1:=by simp
 obtain ⟨w1,hw1⟩:∃ w1,w.alloc (.cells (wdA F) 169)=w1:=⟨_,rfl⟩
 rw [hw1] at hW0 hB0 hT0 hM0 hs1
 have HW0:Hid (Row w1 w.heap.size (wdL F) 169):=hW0
 have HM0:Hid _:=hM0
 have HB0:Hid _:=hB0
 have HT0:Hid _:=hT0
 have HS1:Hid _:=hs1
 have q0:=(hB0.cell (p:=⟨g,o,none⟩) lg).trans hp0
 have q1:=(hB0.cell (p:=⟨g,o+1,none⟩) lg).trans hp
 clear hy hW0 hB0 hT0 hM0 hs1 h hp0 hp
 go_enter Tryz.func163,Tryz.ntmps163
 go_wp2_with fail
 try rw [hw1]
 have HW1:Hid _:=hw1
 clear hw1
 go_loopw [8] (fun u wr=>∃ i:Nat,i≤ln∧u = .int .i64 i∧MemM wr nd pv sn X (up1 own d (partM pv y (own d) F i)) sh∧Touch (X.own nd) w1 wr) (fun u _=>ln-(intOf u).toNat)
 case atStart=>exact ⟨0,by omega,rfl,HM0.out,Touch.refl _ _⟩
 case round=>
  obtain ⟨i,hi,rfl,hM,hT⟩:=hrel
  have hlg1:g<w1.heap.size:=by have:=HS1.out;omega
  have r0:wr.cell? ⟨g,o,none⟩=some (.int .i64 ln):=by rw [← q0];simp only [World.cell?];rw [hT.block g hlg1 hg]
  have r1:wr.cell? ⟨g,o+1,none⟩=some (.slice (some ⟨X.r,0,none⟩) nd X.rc):=by rw [← q1];simp only [World.cell?];rw [hT.block g hlg1 hg]
  have lr:=cell_lt r0
  by_cases hlt:i<ln
  ·
   have hi4:i<4:=by omega
   have rb:Row wr w.heap.size (wdL F) 169:=Row.same (w:=w1) HW0.out (hT.block _ (by have:=HS1.out;omega) hno)
   have c1:wr.cell? ⟨w.heap.size,i,none⟩=some (.int .i64 (F i)):=by rw [rb.cell,wdL_at F hi4]
   have lb:=rb.lt
   have hF:=mFill_any nd pv sn X _ sh g o d (y+i) (F i) wr.drew (hM.below ((Below.refl _ _).drew) (Nat.le_refl _)) r1 hd (by omega)
   rw [show ((y+i:Nat):Int)=(y:Int)+(i:Int) by omega] at hF
   have HT:Hid _:=hT
   have wr1:IntKind.i64.wrap (y:Int)=(y:Int):=by rw [IntKind.wrap_i64];omega
   have wr2:IntKind.i64.wrap ((y:Int)+(i:Int))=(y:Int)+(i:Int):=by rw [IntKind.wrap_i64];omega
   clear rb hM hT
   go_wp2_with fail
   go_region_with (go_at_call 133;refine hF.mono ?_;rintro e w2 ⟨rfl,hM2,hT2⟩)
   all_goals
    have hp':(if y+i<pv then up1 (up1 own d (partM pv y (own d) F i)) d (up1 (up1 own d (partM pv y (own d) F i) d) (y+i) (F i)) else up1 own d (partM pv y (own d) F i))=up1 own d (partM pv y (own d) F (i+1)):=by
     rw [part_step]
     by_cases c:y+i<pv
     · rw [if_pos c,if_pos c,up1_up1,up1_at]
     · rw [if_neg c,if_neg c]
    rw [hp'] at hM2
    have HM2:Hid _:=hM2
    have HT2:Hid _:=(HT.out.drewN 1).trans hT2
    clear hM2 hT2 hp'
   all_goals go_wp2_with fail
   all_goals go_roundw
   all_goals try (case rel=>exact ⟨i+1,by omega,by go_num,HM2.out,HT2.out⟩)
   all_goals try (case measure=>simp [intOf];omega)
  ·
   have ei:i=ln:=by omega
   subst ei
   have HM:Hid _:=hM
   have HT:Hid _:=hT
   clear hM hT
   go_wp2
   refine bodyPost_end (results_none rfl _ _ _) rfl ?_
   exact ⟨rfl,by rw [HWR.out];exact HM.out,HT0.out.trans HT.out⟩
end Go.Proofs.YtehheaedbnfidaaGreat
