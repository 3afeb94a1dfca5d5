import Derived.Test.YtehheaedbnfidaaGreatClWMachT
set_option maxRecDepth 100000
namespace Go.Proofs.YtehheaedbnfidaaGreat
open Go.RowKit
theorem victim_no {n:Int}{xs:List Int}(h:victimOk n xs=false):victimE n xs=6∧victimN n xs=0:=by simp [victimE,victimN,h]
theorem victim_yes {n:Int}{xs:List Int}(h:victimOk n xs=true):victimE n xs=0∧victimN n xs=victimZ n xs:=by simp [victimE,victimN,h]
set_option maxHeartbeats 800000 in
theorem rVictim_any (n:Int)(sa:Option Addr)(len cap:Nat)(xs:List Int)(w:World)(h:Ints w sa len cap xs) :
  Calls Tryz.prog 27 #[.int .i64 n,.slice sa len cap] w fun e w'=>e = .returned (.tuple #[.int .i64 (victimN n xs),.int .i64 (victimE n xs)])∧w'=w:=by
 have hle:=h.hle
 have hm:=h.hmax
 unfold maxLen at hm
 have HL:Hid (xs.length=len):=h.hlen
 rcases Bool.eq_false_or_eq_true (smallB n) with hs|hs
 ·
  have HS:Hid _:=hs
  go_enter Tryz.func27,Tryz.ntmps27
  go_wp2_with (go_at_call 65;refine (rsmall_any _ _).mono ?_;rintro e w' ⟨rfl,rfl⟩)
  go_loop [6] (fun i=>∃ k:Nat,k≤len∧i = .int .i64 k∧(xs.take k).all (fun x=>withinB x 0 (n-1))=true) (fun i=>len-(intOf i).toNat)
  case atStart=>exact ⟨0,Nat.zero_le _,rfl,rfl⟩
  case round=>
   obtain ⟨k,hk,rfl,hall⟩:=hrel
   have HA:Hid _:=hall
   clear hall
   by_cases hlt:k<len
   ·
    obtain ⟨b,off,rfl,hc⟩:=h.hat k hlt
    have HS2:Hid _:=all_snoc (fun x=>withinB x 0 (n-1)) xs 0 k (by rw [h.hlen];exact hlt)
    have HF:Hid _:=all_false_of (fun x=>withinB x 0 (n-1)) xs 0 k (by rw [h.hlen];exact hlt)
    generalize xs.getD k 0=x at *
    by_cases h1:x<0
    ·
     have HN:Hid _:=victim_no (n:=n) (xs:=xs) (by unfold victimOk;rw [HF.out ((within_not _ _ _).2 (by omega))];simp)
     go_wp2
     go_ret2
     exact ⟨ret_pair HN.out.2.symm HN.out.1.symm,rfl⟩
    ·
     by_cases h2:n≤x
     ·
      have HN:Hid _:=victim_no (n:=n) (xs:=xs) (by unfold victimOk;rw [HF.out ((within_not _ _ _).2 (by omega))];simp)
      go_wp2
      go_ret2
      exact ⟨ret_pair HN.out.2.symm HN.out.1.symm,rfl⟩
     ·
      go_wp2
      go_round
      case rel=>exact ⟨k+1,by omega,by go_num,by rw [HS2.out,HA.out];exact (within_iff _ _ _).2 (by omega)⟩
      case measure=>simp [intOf];omega
   ·
    have HN:Hid _:=victim_yes (n:=n) (xs:=xs) (by
     have:=HA.out
     rw [List.take_of_length_le (by rw [h.hlen];omega)] at this
     unfold victimOk;rw [HS.out,this];rfl)
    go_wp2_with (go_at_call 66;refine (rvictim_any _ _ _ _ xs _ h HS.out).mono ?_;rintro e w' ⟨rfl,rfl⟩)
    go_ret2
    exact ⟨ret_pair HN.out.2.symm HN.out.1.symm,rfl⟩
 ·
  have HN:Hid _:=victim_no (n:=n) (xs:=xs) (by unfold victimOk;rw [hs];rfl)
  go_enter Tryz.func27,Tryz.ntmps27
  go_wp2_with (go_at_call 65;refine (rsmall_any _ _).mono ?_;rintro e w' ⟨rfl,rfl⟩)
  go_ret2
  exact ⟨ret_pair HN.out.2.symm HN.out.1.symm,rfl⟩
theorem WSt.reads {w:World}{gw base:Nat}{o:Own}{m e p b:Value}{ts:List Int}{os:List (Int × Int × Int)}(h:WSt w gw base o m e p b ts os):Ints w o.ta o.tl o.tc ts:=by
 obtain ⟨h1,h2⟩:=h.tou
 rcases h2 with ⟨h3,h4⟩|⟨g,cap,cur,hv,hg,hh,hn,hm,hs,ht⟩
 ·
  simp only [Value.slice.injEq] at h3
  obtain ⟨e1,e2,e3⟩:=h3
  rw [e1,e2,e3]
  have:ts=[]:=List.eq_nil_of_length_eq_zero h4
  subst this
  exact ⟨rfl,Nat.le_refl _,by unfold maxLen;omega,fun _=>rfl,fun i hi=>absurd hi (Nat.not_lt_zero _)⟩
 ·
  simp only [Value.slice.injEq] at hv
  obtain ⟨e1,e2,e3⟩:=hv
  rw [e1,e2,e3]
  refine ⟨rfl,hn,hm,(fun h=>by cases h),fun i hi=>⟨g,0,rfl,?_⟩⟩
  have hr:Row w g cur.toList 3:=by unfold Row;simpa using hh
  rw [Nat.zero_add,hr.cell]
  have e4:cur.toList[i]? = (cur.toList.take (ts.length*1))[i]? := by
   rw [List.getElem?_take,if_pos (by omega)]
  rw [e4,ht,List.getElem?_map]
  simp [List.getD,hi]
set_option maxHeartbeats 1600000 in
theorem chosen_any (gw base:Nat)(o:Own)(m e p b:Value)(ts:List Int)(os:List (Int × Int × Int))(n:Int)(w:World)(h:WSt w gw base o m e p b ts os)(hr:ts.length*8≤140737488351232)
  (hv:∀ (sa:Option Addr) (len cap:Nat) (xs:List Int) (w:World),Ints w sa len cap xs→Calls Tryz.prog 26 #[.int .i64 n,.slice sa len cap] w fun e w'=>e = .returned (.tuple #[.int .i64 (victimN n xs),.int .i64 (victimE n xs)])∧Below w.heap.size w w') :
  Calls Tryz.prog 12 #[.pointer (some ⟨gw,0,none⟩),.int .i64 n] w fun x w'=>x = .returned (.bool true)∧Below w.heap.size w w':=by
 have HV:Hid _:=hv
 clear hv
 have hi:=h.reads
 have rz:o.tl*8≤140737488351232:=by have:=hi.hlen;omega
 have c1:w.cell? ⟨gw,1,none⟩=some (.slice o.ta o.tl o.tc):=by rw [h.row.cell];rfl
 go_enter Tryz.func12,Tryz.ntmps12
 go_wp2_with fail
 refine (lentInts_any _ _ _ ts _ hi rz).mono ?_
 rintro x w1 ⟨va,vl,vc,rfl,l1,b1,_⟩
 have h1:=h.below b1 rfl
 have c1':w1.cell? ⟨gw,1,none⟩=some (.slice o.ta o.tl o.tc):=by rw [h1.row.cell];rfl
 have i1:=l1.ints hi rz
 clear c1
 go_wp2_with fail
 refine (HV.out _ _ _ ts _ i1).mono ?_
 rintro x w2 ⟨rfl,b2⟩
 have h2:=h1.below b2 rfl
 have c2:w2.cell? ⟨gw,1,none⟩=some (.slice o.ta o.tl o.tc):=by rw [h2.row.cell];rfl
 have l2:=l1.below b2 (Nat.le_refl _)
 clear c1'
 go_wp2_with fail
 refine (rVictim_any n _ _ _ ts _ h2.reads).mono ?_
 rintro x w' ⟨rfl,rfl⟩
 go_wp2_with fail
 refine (wholeInts_any _ _ _ ts _ _ _ _ _ h2.reads rz l2).mono ?_
 rintro x w' ⟨rfl,rfl⟩
 have e1:(victimN n ts==victimN n ts)=true:=by simp
 have e2:(victimE n ts==victimE n ts)=true:=by simp
 have B:Hid _:=below_step b1 b2 rfl
 go_wp2
 go_ret
 exact ⟨rfl,B.out⟩
set_option maxHeartbeats 1600000 in
theorem step_chosen (gw base:Nat)(o:Own)(m e p b:Value)(ts:List Int)(os:List (Int × Int × Int))(st:St)(w:World)(h:WSt w gw base o m e p b ts os)(hr:ts.length*8≤140737488351232)
  (hk:st.k=10) (hv:VictimC) :
  Calls Tryz.prog 9 #[.pointer (some ⟨gw,0,none⟩),opV st] w fun x w'=>x = .returned (.bool true)∧Below w.heap.size w w':=by
 obtain ⟨k,a,bb,cc,dd⟩:=st
 simp only at hk
 subst hk
 have bW:Below w.heap.size w (w.alloc (.cells (opA ⟨10,a,bb,cc,dd⟩) 36)):=(Below.refl _ _).alloc (Nat.le_refl _) _
 have rO:Row (w.alloc (.cells (opA ⟨10,a,bb,cc,dd⟩) 36)) w.heap.size [.int .i64 10,.int .i64 a,.int .i64 bb,.int .i64 cc,.int .i64 dd] 36:=heap_alloc_new w _
 have hW:=h.below bW rfl
 go_enter Tryz.func9,Tryz.ntmps9
 go_wp2_with fail
 refine (owner_other gw ⟨10,a,bb,cc,dd⟩ _ (by simp only [];omega)).mono ?_
 rintro x w1 ⟨rfl,b1⟩
 have h1:=hW.below b1 rfl
 have q1:=row_q (rO.below b1 rO.lt)
 have BW:Hid _:=below_step bW b1 rfl
 clear b1 bW hW rO
 go_wp2_with fail
 refine (chosen_any gw base o m e p b ts os a _ h1 hr (fun sa len cap xs w hi=>hv a sa len cap xs w hi)).mono ?_
 rintro x w2 ⟨rfl,b2⟩
 have B2:Hid _:=b2
 clear b2 q1
 go_wp2
 go_ret
 exact ⟨rfl,below_step BW.out B2.out rfl⟩
set_option maxHeartbeats 800000 in
theorem Enough_any (c:Cf)(s:Sl)(core d k:Int)(w:World)(h:CfgAt w c s) :
  Calls Tryz.prog 37 #[cfgV c s,.int .i64 core,.int .i64 d,.int .i64 k] w fun e w'=>e = .returned (.tuple #[.int .i64 (enoughN c core d k),.int .i64 (enoughE c core d k)])∧Below w.heap.size w w':=by
 have k0:=Kept.start w (cfgA c s) 43
 go_enter Tryz.func37,Tryz.ntmps37
 go_wp2_with fail
 refine (enough_any c s core d k _ (h.below k0.below (Nat.le_refl _))).mono ?_;rintro e w1 ⟨rfl,hb1⟩
 go_wp2
 go_ret2
 exact ⟨rfl,(k0.next hb1 rfl).below⟩
theorem next_place {S a:Int}{j:Nat}(ha:a=(j:Int)*S):a+S=((j+1:Nat):Int)*S:=by
 rw [ha,show ((j+1:Nat):Int)=(j:Int)+1 by omega,Int.add_mul];omega
theorem renough_bd {k g lq:Int}{r:Nat}(hg:1≤g)(hk:0≤k)(hk2:k≤64)(h1:0≤lq)(h2:lq≤8000)(hr:r=0∨((r-1:Nat):Int)*g<k) :
  0≤(r:Int)*g∧(r:Int)*g≤k+g∧0≤(r:Int)*lq∧(r:Int)*lq≤65*8000:=by
 have a0:0≤(r:Int)*g:=Int.mul_nonneg (by omega) (by omega)
 have b0:0≤(r:Int)*lq:=Int.mul_nonneg (by omega) h1
 rcases hr with hr|hr
 · subst hr;simp;omega
 ·
  by_cases e:r=0
  · subst e;simp;omega
  ·
   have e1:((r-1:Nat):Int)=(r:Int)-1:=by omega
   rw [e1] at hr
   have e2:((r:Int)-1)*g=(r:Int)*g-g:=by rw [Int.sub_mul];omega
   have e3:((r:Int)-1)*1≤((r:Int)-1)*g:=Int.mul_le_mul_of_nonneg_left hg (by omega)
   have e4:(r:Int)*lq≤65*8000:=Int.mul_le_mul (by omega) h2 h1 (by omega)
   omega
set_option maxHeartbeats 1600000 in
theorem renough_no (c:Cf)(s:Sl)(core d k:Int)(w:World)(h:CfgAt w c s)(hz:chk c=0)(hn:¬(0≤core∧core<c.cores∧0≤d∧d<c.domains∧0≤k∧k≤64)) :
  Calls Tryz.prog 38 #[cfgV c s,.int .i64 core,.int .i64 d,.int .i64 k] w fun e w'=>e = .returned (.tuple #[.int .i64 (enoughN c core d k),.int .i64 (enoughE c core d k)])∧Below w.heap.size w w':=by
 have k0:=Kept.start w (cfgA c s) 43
 have hb:(chk c != 0)=false:=by simp [hz]
 have HN:Hid _:=enough_no hz (ok_not hn)
 clear hz
 have cases:core<0∨(0≤core∧c.cores≤core)∨(0≤core∧core<c.cores∧d<0)∨(0≤core∧core<c.cores∧0≤d∧c.domains≤d)∨(0≤core∧core<c.cores∧0≤d∧d<c.domains∧k<0)∨(0≤core∧core<c.cores∧0≤d∧d<c.domains∧0≤k∧64<k):=by omega
 clear hn
 rcases cases with a1|⟨a1,a2⟩|⟨a1,a2,a3⟩|⟨a1,a2,a3,a4⟩|⟨a1,a2,a3,a4,a5⟩|⟨a1,a2,a3,a4,a5,a6⟩
 all_goals
  go_enter Tryz.func38,Tryz.ntmps38
  go_wp2_with fail
  refine (rcheck_any c s _ (h.below k0.below (Nat.le_refl _))).mono ?_
  rintro e w1 ⟨rfl,hb1⟩
  have k1:=k0.next hb1 rfl
  have q1:=k1.box
  go_wp2
  go_ret2
  exact ⟨ret_two HN.out.2.symm HN.out.1.symm,k1.below⟩
set_option maxHeartbeats 800000 in
theorem renough_bad (c:Cf)(s:Sl)(core d k:Int)(w:World)(h:CfgAt w c s)(hz:chk c≠0) :
  Calls Tryz.prog 38 #[cfgV c s,.int .i64 core,.int .i64 d,.int .i64 k] w fun e w'=>e = .returned (.tuple #[.int .i64 (enoughN c core d k),.int .i64 (enoughE c core d k)])∧Below w.heap.size w w':=by
 have k0:=Kept.start w (cfgA c s) 43
 have hb:(chk c != 0)=true:=by simpa using hz
 have HN:Hid _:=enough_bad (core:=core) (d:=d) (k:=k) hz
 clear hz
 go_enter Tryz.func38,Tryz.ntmps38
 go_wp2_with fail
 refine (rcheck_any c s _ (h.below k0.below (Nat.le_refl _))).mono ?_;rintro e w1 ⟨rfl,hb1⟩;have k1:=k0.next hb1 rfl;have q1:=k1.box
 go_wp2
 go_ret2
 exact ⟨ret_two HN.out.2.symm HN.out.1.symm,k1.below⟩
set_option maxHeartbeats 3200000 in
theorem renough_yes (c:Cf)(wa:Option Addr)(wl wc:Nat)(sa:Option Addr)(sl sc:Nat)(b off tl tc:Nat)(i:Nat)(d k:Int)(w:World)(h:CfgAt w c ⟨wa,wl,wc,sa,sl,sc,some ⟨b,off,none⟩,tl,tc⟩)(hz:chk c=0)
  (ia:Option Addr) (il ic:Nat) (row:List Int) (hrow:c.turns.getD i []=row) (hi:i<tl) (hc:w.cell? ⟨b,off+i,none⟩=some (.slice ia il ic)) (hints:Ints w ia il ic row)
  (hok:0≤(i:Int)∧(i:Int)<c.cores∧0≤d∧d<c.domains∧0≤k∧k≤64) :
  Calls Tryz.prog 38 #[cfgV c ⟨wa,wl,wc,sa,sl,sc,some ⟨b,off,none⟩,tl,tc⟩,.int .i64 i,.int .i64 d,.int .i64 k] w fun e w'=>e = .returned (.tuple #[.int .i64 (enoughN c i d k),.int .i64 (enoughE c i d k)])∧Below w.heap.size w w':=by
 have k0:=Kept.start w (cfgA c ⟨wa,wl,wc,sa,sl,sc,some ⟨b,off,none⟩,tl,tc⟩) 43
 have R:=right_of hz
 have hb:(chk c != 0)=false:=by simp [hz]
 have htle:=h.turns.hle
 have htm:=h.turns.hmax
 unfold maxLen at htm
 have hrl:=grid_row R (show i<c.turns.length by have:=h.turns.hlen;simp only [] at this;omega)
 rw [hrow] at hrl
 have hlen:=hints.hlen
 have HBD:b<w.heap.size:=cell_lt hc
 have hil:il≤4:=by omega
 have hil1:1≤il:=by omega
 have HL:Hid _:=hlen
 obtain ⟨a1,a2,a3,a4,a5,a6⟩:=hok
 have HOK:Hid (0≤(i:Int)∧(i:Int)<c.cores∧0≤d∧d<c.domains∧0≤k∧k≤64):=⟨a1,a2,a3,a4,a5,a6⟩
 have HZ:Hid _:=hz
 clear hz hlen hrl
 rcases Bool.eq_false_or_eq_true ((row.count d:Int)==0) with a7|a7
 ·
  have HN:Hid _:=enough_no HZ.out (ok_none (c:=c) (core:=(i:Int)) (d:=d) (k:=k) (by rw [Int.toNat_natCast,hrow];exact a7))
  clear hrow
  go_enter Tryz.func38,Tryz.ntmps38
  go_wp2_with fail
  refine (rcheck_any c _ _ (h.below k0.below (Nat.le_refl _))).mono ?_;rintro e w1 ⟨rfl,hb1⟩;have k1:=k0.next hb1 rfl;have q1:=k1.box
  have hc1:w1.cell? ⟨b,off+i,none⟩=some (.slice ia il ic):=by rw [k1.below.cell (p:=⟨b,off+i,none⟩) HBD];exact hc
  have hints1:=hints.below k1.below (Nat.le_refl _)
  go_wp2_with (go_at_call 78;refine (rcount_any _ _ _ row _ _ hints1).mono ?_;rintro e w' ⟨rfl,rfl⟩)
  go_ret2
  exact ⟨ret_two HN.out.2.symm HN.out.1.symm,k1.below⟩
 ·
  have HN:Hid _:=enough_yes HZ.out (ok_yes (c:=c) (core:=(i:Int)) (d:=d) (k:=k) HOK.out (by rw [Int.toNat_natCast,hrow];exact a7))
  rw [Int.toNat_natCast,hrow,HL.out] at HN
  clear hrow
  obtain ⟨_,_,_,_,_,_,_,_,w0,w1,f1,f2,q1,q2,_,_⟩:=R
  have R:=right_of HZ.out
  go_enter Tryz.func38,Tryz.ntmps38
  go_wp2_with fail
  refine (rcheck_any c _ _ (h.below k0.below (Nat.le_refl _))).mono ?_;rintro e w1 ⟨rfl,hb1⟩;have k1:=k0.next hb1 rfl;have q1:=k1.box
  have hc1:w1.cell? ⟨b,off+i,none⟩=some (.slice ia il ic):=by rw [k1.below.cell (p:=⟨b,off+i,none⟩) HBD];exact hc
  have hints1:=hints.below k1.below (Nat.le_refl _)
  go_wp2_with (go_at_call 78;refine (rcount_any _ _ _ row _ _ hints1).mono ?_;rintro e w' ⟨rfl,rfl⟩)
  have cf:=h.below k1.below (Nat.le_refl _)
  refine (rworst_any c _ _ cf R.c1 R.c2 R.s1 R.s2 R.t2).mono ?_;rintro e w2 ⟨rfl,hb2⟩;have k2:=k1.next hb2 rfl;have q2:=k2.box
  have hc2:w2.cell? ⟨b,off+i,none⟩=some (.slice ia il ic):=by rw [k2.below.cell (p:=⟨b,off+i,none⟩) HBD];exact hc
  clear q1 hb1 hb2 hc1 hints1
  go_wp2
  go_loop [13,14] (fun g at_=>∃ (j:Nat) (a:Int),g = .int .i64 j∧at_ = .int .i64 a∧a=(j:Int)*(worstZ c+1)∧(j=0∨((j-1:Nat):Int)*(worstZ c+1)<c.quantum-c.flush-worstZ c)) (fun _ at_=>(c.quantum-c.flush-worstZ c-intOf at_).toNat)
  case atStart=>exact ⟨0,0,rfl,rfl,by simp,Or.inl rfl⟩
  case round=>
   obtain ⟨j,a,rfl,rfl,ha,hj⟩:=hrel
   have bd:=step_bd (D:=c.quantum-c.flush-worstZ c) (S:=worstZ c+1) (j:=j) (by omega) (by omega) hj
   rw [← ha] at bd
   have HA:Hid _:=ha
   have HJ:Hid _:=hj
   obtain ⟨bd1,bd2,bd3⟩:=bd
   clear ha hj
   by_cases hlt:a<c.quantum-c.flush-worstZ c
   ·
    go_wp2
    go_round
    case rel=>
     refine ⟨j+1,a+worstZ c+1,by go_num,rfl,?_,Or.inr ?_⟩
     · rw [← next_place HA.out];omega
     · simp only [Nat.add_sub_cancel];rw [← HA.out];exact hlt
    case measure=>simp [intOf];omega
   ·
    have hge:(j:Int)=gZ c:=perTurn_eq (by omega) (by rw [← HA.out];omega) HJ.out (by omega)
    have gb:=perTurn_bd (D:=c.quantum-c.flush-worstZ c) (S:=worstZ c+1) (by omega) (by omega)
    have HG:Hid _:=hge
    have j1:1≤(j:Int):=by rw [hge];exact gb.1
    have j2:(j:Int)≤2000:=by omega
    clear hge gb
    go_wp2
    have p1:0≤(il:Int)*c.quantum∧(il:Int)*c.quantum≤4*2000:=⟨Int.mul_nonneg (by omega) (by omega),Int.mul_le_mul (by omega) (by omega) (by omega) (by omega)⟩
    obtain ⟨lq,elq⟩:∃ lq,(il:Int)*c.quantum=lq:=⟨_,rfl⟩
    rw [elq] at p1
    obtain ⟨p11,p12⟩:=p1
    have ELQ:Hid _:=elq
    clear elq
    go_loopw [15,16] (fun cy n wr=>∃ (r m:Nat) (nn cc:Int),n = .int .i64 nn∧cy = .int .i64 cc∧nn=(r:Int)*(j:Int)∧cc=(r:Int)*lq∧(r=0∨((r-1:Nat):Int)*(j:Int)<k)∧wr=w2.drewN m) (fun _ n _=>(k-intOf n).toNat)
    case atStart=>exact ⟨0,0,0,0,rfl,rfl,by simp,by simp,Or.inl rfl,rfl⟩
    case round=>
     obtain ⟨r,m,nn,cc,rfl,rfl,hn,hcc,hr,hwr⟩:=hrel
     have rb:=renough_bd (k:=k) (g:=(j:Int)) (lq:=lq) (r:=r) j1 a5 a6 (by omega) (by omega) hr
     rw [← hn,← hcc] at rb
     obtain ⟨rb1,rb2,rb3,rb4⟩:=rb
     have HNN:Hid _:=hn
     have HCC:Hid _:=hcc
     have HR:Hid _:=hr
     have HW:Hid _:=hwr
     have c10:wr.cell? ⟨w.heap.size,10,none⟩=some (.slice (some ⟨b,off,none⟩) tl tc):=by rw [hwr];exact q2 10
     have c11:wr.cell? ⟨w.heap.size,11,none⟩=some (.int .i64 c.quantum):=by rw [hwr];exact q2 11
     have cS:wr.cell? ⟨b,off+i,none⟩=some (.slice ia il ic):=by rw [hwr];exact hc2
     clear hn hcc hr hwr
     by_cases hlt:nn<k
     ·
      have e1:IntKind.i64.wrap ((il:Int)*c.quantum)=lq:=by rw [ELQ.out,IntKind.wrap_i64];omega
      have e2:IntKind.i64.wrap (cc+lq)=cc+lq:=by rw [IntKind.wrap_i64];omega
      go_wp2
      go_quiet (fail)
      go_wp2
      go_roundw
      case rel=>
       refine ⟨r+1,m+nq,nn+j,cc+lq,rfl,?_,next_place HNN.out,next_place HCC.out,Or.inr ?_,by rw [HW.out,World.drewN_drewN]⟩
       · first | rfl | (simp only [e1,e2])
       · simp only [Nat.add_sub_cancel];rw [← HNN.out];exact hlt
      case measure=>simp [intOf];omega
     ·
      have hre:(r:Int)=roundsZ k (gZ c):=by rw [← HG.out];exact rounds_eq j1 a5 (by rw [← HNN.out];omega) HR.out
      have hfin:cc=enoughN c i d k:=by
       rw [HN.out.2,HCC.out,← hre,← ELQ.out,Int.mul_assoc]
      have HF:Hid _:=hfin
      clear hre hfin
      go_wp2
      go_ret2
      exact ⟨ret_two HF.out HN.out.1.symm,by rw [HW.out];exact Go.below_drewN k2.below _⟩
theorem renough_any (c:Cf)(s:Sl)(core d k:Int)(w:World)(h:CfgAt w c s) :
  Calls Tryz.prog 38 #[cfgV c s,.int .i64 core,.int .i64 d,.int .i64 k] w fun e w'=>e = .returned (.tuple #[.int .i64 (enoughN c core d k),.int .i64 (enoughE c core d k)])∧Below w.heap.size w w':=by
 by_cases hz:chk c=0
 ·
  by_cases hok:0≤core∧core<c.cores∧0≤d∧d<c.domains∧0≤k∧k≤64
  ·
   obtain ⟨i,rfl⟩:=Int.eq_ofNat_of_zero_le hok.1
   have R:=right_of hz
   have hi:i<s.tl:=by
    have e1:=R.tl
    have e2:=h.turns.hlen
    omega
   obtain ⟨wa,wl,wc,sa,sl,sc,ta,tl,tc⟩:=s
   obtain ⟨b,off,ia,il,ic,hta,hc,hints⟩:=h.turns.hat i hi
   simp only at hta
   subst hta
   exact renough_yes c wa wl wc sa sl sc b off tl tc i d k w h hz ia il ic _ rfl hi hc hints hok
  · exact renough_no c s core d k w h hz hok
 · exact renough_bad c s core d k w h hz
end Go.Proofs.YtehheaedbnfidaaGreat
namespace Go.Proofs.YtehheaedbnfidaaGreat
open Go.RowKit
attribute [local go_sem] Tryz.nilInts Tryz.nilGrid
set_option maxHeartbeats 2000000 in
theorem plan_worst (c:Cf)(s:Sl)(o:St)(w:World)(h:CfgAt w c s)(hc:CfR c)(hk:o.k=6) :
  Calls Tryz.prog 15 #[cfgV c s,opV o] w fun e w'=>e = .returned (.bool true)∧Below w.heap.size w w':=by
 obtain ⟨k,a,b,cc,d⟩:=o
 simp only at hk
 subst hk
 have bW:Below w.heap.size w ((w.alloc (.cells (cfgA c s) 43)).alloc (.cells (opA ⟨6,a,b,cc,d⟩) 36)):=((Below.refl _ _).alloc (Nat.le_refl _) _).alloc (by simp) _
 have rC:Row ((w.alloc (.cells (cfgA c s) 43)).alloc (.cells (opA ⟨6,a,b,cc,d⟩) 36)) w.heap.size (cfgL c s) 43:=by
  have:Row (w.alloc (.cells (cfgA c s) 43)) w.heap.size (cfgL c s) 43:=heap_alloc_new w _
  exact this.alloc _
 have rO:Row ((w.alloc (.cells (cfgA c s) 43)).alloc (.cells (opA ⟨6,a,b,cc,d⟩) 36)) (w.heap.size+1) [.int .i64 6,.int .i64 a,.int .i64 b,.int .i64 cc,.int .i64 d] 36:=by
  have:=heap_alloc_new (w.alloc (.cells (cfgA c s) 43)) (.cells (opA ⟨6,a,b,cc,d⟩) 36)
  rw [World.size_alloc] at this
  exact this
 have hW:=h.below bW (Nat.le_refl _)
 go_enter Tryz.func15,Tryz.ntmps15
 go_wp2_with fail
 have sW:((w.alloc (.cells (cfgA c s) 43)).alloc (.cells (opA ⟨6,a,b,cc,d⟩) 36)).heap.size=w.heap.size+2:=by simp
 generalize (w.alloc (.cells (cfgA c s) 43)).alloc (.cells (opA ⟨6,a,b,cc,d⟩) 36)=W at *
 have SW:Hid _:=sW
 clear sW
 refine (lent_any c s W hW hc).mono ?_
 rintro e w1 ⟨s1,ma,ml,mc,rfl,b1,l1⟩
 have q1:=row_q (rC.below b1 rC.lt)
 have q2:=row_q (rO.below b1 rO.lt)
 have z2:w.heap.size+1<w1.heap.size:=by have:=b1.size;have:=SW.out;omega
 have z1:w.heap.size<w1.heap.size:=by omega
 have B1:Hid _:=b1
 have L1:Hid _:=l1
 clear b1 l1
 go_wp2_with fail
 have bX:Below w1.heap.size w1 (w1.alloc (.cells (cfgA c s1) 43)):=(Below.refl _ _).alloc (Nat.le_refl _) _
 have lX:=LentC.same L1.out bX
 have rC2:=(rC.below B1.out rC.lt).alloc (.cells (cfgA c s1) 43)
 have rL2:Row (w1.alloc (.cells (cfgA c s1) 43)) w1.heap.size (cfgL c s1) 43:=heap_alloc_new w1 _
 have bWX:=below_step B1.out bX rfl
 clear q1 q2 bX
 generalize w1.alloc (.cells (cfgA c s1) 43)=w2 at *
 refine (Worst_any c s1 w2 (lX.reads hW hc)).mono ?_
 rintro e w3 ⟨rfl,b3⟩
 have rC3:=rC2.below b3 rC2.lt
 have rL3:=rL2.below b3 rL2.lt
 have l3:=lX.same b3
 have bW3:=below_step bWX b3 rfl
 have q1:=row_q rC3
 have q2:=row_q rL3
 clear b3 rC2 rL2 lX bWX
 go_wp2_with fail
 refine (rWorst_any c s w3 (hW.below bW3 (Nat.le_refl _))).mono ?_
 rintro e w4 ⟨rfl,b4⟩
 have rC4:=rC3.below b4 rC3.lt
 have rL4:=rL3.below b4 rL3.lt
 have l4:=l3.same b4
 have bW4:=below_step bW3 b4 rfl
 clear q1 q2
 have q1:=row_q rC4
 have q2:=row_q rL4
 clear b4 rC3 rL3 l3 bW3
 have he:(chk c==chk c)=true:=by simp
 have he2:(worstR c==worstR c)=true:=by simp
 go_wp2_with fail
 refine (whole_any W w4 c s s1 ma ml mc hW hc bW4 l4).mono ?_
 rintro e w5 ⟨rfl,b5⟩
 clear q1 q2
 go_wp2
 go_ret
 exact ⟨rfl,bW.trans ((bW4.trans b5).mono bW.size)⟩
set_option maxHeartbeats 2000000 in
theorem plan_enough (c:Cf)(s:Sl)(o:St)(w:World)(h:CfgAt w c s)(hc:CfR c)(hk:o.k=7) :
  Calls Tryz.prog 15 #[cfgV c s,opV o] w fun e w'=>e = .returned (.bool true)∧Below w.heap.size w w':=by
 obtain ⟨k,a,b,cc,d⟩:=o
 simp only at hk
 subst hk
 have bW:Below w.heap.size w ((w.alloc (.cells (cfgA c s) 43)).alloc (.cells (opA ⟨7,a,b,cc,d⟩) 36)):=((Below.refl _ _).alloc (Nat.le_refl _) _).alloc (by simp) _
 have rC:Row ((w.alloc (.cells (cfgA c s) 43)).alloc (.cells (opA ⟨7,a,b,cc,d⟩) 36)) w.heap.size (cfgL c s) 43:=by
  have:Row (w.alloc (.cells (cfgA c s) 43)) w.heap.size (cfgL c s) 43:=heap_alloc_new w _
  exact this.alloc _
 have rO:Row ((w.alloc (.cells (cfgA c s) 43)).alloc (.cells (opA ⟨7,a,b,cc,d⟩) 36)) (w.heap.size+1) [.int .i64 7,.int .i64 a,.int .i64 b,.int .i64 cc,.int .i64 d] 36:=by
  have:=heap_alloc_new (w.alloc (.cells (cfgA c s) 43)) (.cells (opA ⟨7,a,b,cc,d⟩) 36)
  rw [World.size_alloc] at this
  exact this
 have hW:=h.below bW (Nat.le_refl _)
 go_enter Tryz.func15,Tryz.ntmps15
 go_wp2_with fail
 have sW:((w.alloc (.cells (cfgA c s) 43)).alloc (.cells (opA ⟨7,a,b,cc,d⟩) 36)).heap.size=w.heap.size+2:=by simp
 generalize (w.alloc (.cells (cfgA c s) 43)).alloc (.cells (opA ⟨7,a,b,cc,d⟩) 36)=W at *
 have SW:Hid _:=sW
 clear sW
 refine (lent_any c s W hW hc).mono ?_
 rintro e w1 ⟨s1,ma,ml,mc,rfl,b1,l1⟩
 have q1:=row_q (rC.below b1 rC.lt)
 have q2:=row_q (rO.below b1 rO.lt)
 have z2:w.heap.size+1<w1.heap.size:=by have:=b1.size;have:=SW.out;omega
 have z1:w.heap.size<w1.heap.size:=by omega
 have B1:Hid _:=b1
 have L1:Hid _:=l1
 clear b1 l1
 go_wp2_with fail
 have bX:Below w1.heap.size w1 (w1.alloc (.cells (cfgA c s1) 43)):=(Below.refl _ _).alloc (Nat.le_refl _) _
 have lX:=LentC.same L1.out bX
 have rC2:=(rC.below B1.out rC.lt).alloc (.cells (cfgA c s1) 43)
 have rO2:=(rO.below B1.out rO.lt).alloc (.cells (cfgA c s1) 43)
 have rL2:Row (w1.alloc (.cells (cfgA c s1) 43)) w1.heap.size (cfgL c s1) 43:=heap_alloc_new w1 _
 have bWX:=below_step B1.out bX rfl
 clear q1 q2 bX
 generalize w1.alloc (.cells (cfgA c s1) 43)=w2 at *
 refine (Enough_any c s1 b cc d w2 (lX.reads hW hc)).mono ?_
 rintro e w3 ⟨rfl,b3⟩
 have rC3:=rC2.below b3 rC2.lt
 have q3:=row_q (rO2.below b3 rO2.lt)
 have rL3:=rL2.below b3 rL2.lt
 have l3:=lX.same b3
 have bW3:=below_step bWX b3 rfl
 have q1:=row_q rC3
 have q2:=row_q rL3
 clear b3 rC2 rL2 lX bWX
 go_wp2_with fail
 refine (renough_any c s b cc d w3 (hW.below bW3 (Nat.le_refl _))).mono ?_
 rintro e w4 ⟨rfl,b4⟩
 have rC4:=rC3.below b4 rC3.lt
 have rL4:=rL3.below b4 rL3.lt
 have l4:=l3.same b4
 have bW4:=below_step bW3 b4 rfl
 clear q1 q2
 have q1:=row_q rC4
 have q2:=row_q rL4
 clear b4 rC3 rL3 l3 bW3
 have he:(enoughN c b cc d==enoughN c b cc d)=true:=by simp
 have he2:(enoughE c b cc d==enoughE c b cc d)=true:=by simp
 go_wp2_with fail
 refine (whole_any W w4 c s s1 ma ml mc hW hc bW4 l4).mono ?_
 rintro e w5 ⟨rfl,b5⟩
 clear q1 q2
 go_wp2
 go_ret
 exact ⟨rfl,bW.trans ((bW4.trans b5).mono bW.size)⟩
end Go.Proofs.YtehheaedbnfidaaGreat
namespace Go.Proofs.YtehheaedbnfidaaGreat
open Go.RowKit
def TurnC:Prop:=∀ (c:Cf)(s:Sl)(core t:Int)(w:World),CfgAt w c s→
  Calls Tryz.prog 39 #[cfgV c s,.int .i64 core,.int .i64 t] w fun e w'=>e = .returned (.tuple #[.int .i64 (turnD c core t),.bool (turnO c core t),.int .i64 (turnE c core t)])∧Below w.heap.size w w'
def WaitC:Prop:=∀ (c:Cf)(s:Sl)(d t:Int)(w:World),CfgAt w c s→
  Calls Tryz.prog 41 #[cfgV c s,.int .i64 d,.int .i64 t] w fun e w'=>e = .returned (.tuple #[.int .i64 (waitN c d t),.int .i64 (waitE c d t)])∧Below w.heap.size w w'
end Go.Proofs.YtehheaedbnfidaaGreat
namespace Go.Proofs.YtehheaedbnfidaaGreat
open Go.RowKit
attribute [local go_sem] Tryz.nilInts Tryz.nilGrid
set_option maxHeartbeats 2000000 in
theorem plan_turn (c:Cf)(s:Sl)(o:St)(w:World)(h:CfgAt w c s)(hc:CfR c)(hk:o.k=8)(hT:TurnC) :
  Calls Tryz.prog 15 #[cfgV c s,opV o] w fun e w'=>e = .returned (.bool true)∧Below w.heap.size w w':=by
 obtain ⟨k,a,b,cc,d⟩:=o
 simp only at hk
 subst hk
 have bW:Below w.heap.size w ((w.alloc (.cells (cfgA c s) 43)).alloc (.cells (opA ⟨8,a,b,cc,d⟩) 36)):=((Below.refl _ _).alloc (Nat.le_refl _) _).alloc (by simp) _
 have rC:Row ((w.alloc (.cells (cfgA c s) 43)).alloc (.cells (opA ⟨8,a,b,cc,d⟩) 36)) w.heap.size (cfgL c s) 43:=by
  have:Row (w.alloc (.cells (cfgA c s) 43)) w.heap.size (cfgL c s) 43:=heap_alloc_new w _
  exact this.alloc _
 have rO:Row ((w.alloc (.cells (cfgA c s) 43)).alloc (.cells (opA ⟨8,a,b,cc,d⟩) 36)) (w.heap.size+1) [.int .i64 8,.int .i64 a,.int .i64 b,.int .i64 cc,.int .i64 d] 36:=by
  have:=heap_alloc_new (w.alloc (.cells (cfgA c s) 43)) (.cells (opA ⟨8,a,b,cc,d⟩) 36)
  rw [World.size_alloc] at this
  exact this
 have hW:=h.below bW (Nat.le_refl _)
 go_enter Tryz.func15,Tryz.ntmps15
 go_wp2_with fail
 have sW:((w.alloc (.cells (cfgA c s) 43)).alloc (.cells (opA ⟨8,a,b,cc,d⟩) 36)).heap.size=w.heap.size+2:=by simp
 generalize (w.alloc (.cells (cfgA c s) 43)).alloc (.cells (opA ⟨8,a,b,cc,d⟩) 36)=W at *
 have SW:Hid _:=sW
 clear sW
 refine (lent_any c s W hW hc).mono ?_
 rintro e w1 ⟨s1,ma,ml,mc,rfl,b1,l1⟩
 have q1:=row_q (rC.below b1 rC.lt)
 have q2:=row_q (rO.below b1 rO.lt)
 have z2:w.heap.size+1<w1.heap.size:=by have:=b1.size;have:=SW.out;omega
 have z1:w.heap.size<w1.heap.size:=by omega
 have B1:Hid _:=b1
 have L1:Hid _:=l1
 clear b1 l1
 go_wp2_with fail
 have bX:Below w1.heap.size w1 (w1.alloc (.cells (cfgA c s1) 43)):=(Below.refl _ _).alloc (Nat.le_refl _) _
 have lX:=LentC.same L1.out bX
 have rC2:=(rC.below B1.out rC.lt).alloc (.cells (cfgA c s1) 43)
 have rO2:=(rO.below B1.out rO.lt).alloc (.cells (cfgA c s1) 43)
 have rL2:Row (w1.alloc (.cells (cfgA c s1) 43)) w1.heap.size (cfgL c s1) 43:=heap_alloc_new w1 _
 have bWX:=below_step B1.out bX rfl
 clear q1 q2 bX
 generalize w1.alloc (.cells (cfgA c s1) 43)=w2 at *
 refine (hT c s1 b cc w2 (lX.reads hW hc)).mono ?_
 rintro e w3 ⟨rfl,b3⟩
 have rC3:=rC2.below b3 rC2.lt
 have q3:=row_q (rO2.below b3 rO2.lt)
 have rL3:=rL2.below b3 rL2.lt
 have l3:=lX.same b3
 have bW3:=below_step bWX b3 rfl
 have q1:=row_q rC3
 have q2:=row_q rL3
 clear b3 rC2 rL2 lX bWX
 go_wp2_with fail
 refine (rTurn_any c s b cc w3 (hW.below bW3 (Nat.le_refl _))).mono ?_
 rintro e w4 ⟨rfl,b4⟩
 have rC4:=rC3.below b4 rC3.lt
 have rL4:=rL3.below b4 rL3.lt
 have l4:=l3.same b4
 have bW4:=below_step bW3 b4 rfl
 clear q1 q2
 have q1:=row_q rC4
 have q2:=row_q rL4
 clear b4 rC3 rL3 l3 bW3
 have he:(turnD c b cc==turnD c b cc)=true:=by simp
 have he2:(turnO c b cc==turnO c b cc)=true:=by simp
 have he3:(turnE c b cc==turnE c b cc)=true:=by simp
 go_wp2_with fail
 refine (whole_any W w4 c s s1 ma ml mc hW hc bW4 l4).mono ?_
 rintro e w5 ⟨rfl,b5⟩
 clear q1 q2
 go_wp2
 go_ret
 exact ⟨rfl,bW.trans ((bW4.trans b5).mono bW.size)⟩
set_option maxHeartbeats 2000000 in
theorem plan_wait (c:Cf)(s:Sl)(o:St)(w:World)(h:CfgAt w c s)(hc:CfR c)(hk:o.k=9)(hT:WaitC) :
  Calls Tryz.prog 15 #[cfgV c s,opV o] w fun e w'=>e = .returned (.bool true)∧Below w.heap.size w w':=by
 obtain ⟨k,a,b,cc,d⟩:=o
 simp only at hk
 subst hk
 have bW:Below w.heap.size w ((w.alloc (.cells (cfgA c s) 43)).alloc (.cells (opA ⟨9,a,b,cc,d⟩) 36)):=((Below.refl _ _).alloc (Nat.le_refl _) _).alloc (by simp) _
 have rC:Row ((w.alloc (.cells (cfgA c s) 43)).alloc (.cells (opA ⟨9,a,b,cc,d⟩) 36)) w.heap.size (cfgL c s) 43:=by
  have:Row (w.alloc (.cells (cfgA c s) 43)) w.heap.size (cfgL c s) 43:=heap_alloc_new w _
  exact this.alloc _
 have rO:Row ((w.alloc (.cells (cfgA c s) 43)).alloc (.cells (opA ⟨9,a,b,cc,d⟩) 36)) (w.heap.size+1) [.int .i64 9,.int .i64 a,.int .i64 b,.int .i64 cc,.int .i64 d] 36:=by
  have:=heap_alloc_new (w.alloc (.cells (cfgA c s) 43)) (.cells (opA ⟨9,a,b,cc,d⟩) 36)
  rw [World.size_alloc] at this
  exact this
 have hW:=h.below bW (Nat.le_refl _)
 go_enter Tryz.func15,Tryz.ntmps15
 go_wp2_with fail
 have sW:((w.alloc (.cells (cfgA c s) 43)).alloc (.cells (opA ⟨9,a,b,cc,d⟩) 36)).heap.size=w.heap.size+2:=by simp
 generalize (w.alloc (.cells (cfgA c s) 43)).alloc (.cells (opA ⟨9,a,b,cc,d⟩) 36)=W at *
 have SW:Hid _:=sW
 clear sW
 refine (lent_any c s W hW hc).mono ?_
 rintro e w1 ⟨s1,ma,ml,mc,rfl,b1,l1⟩
 have q1:=row_q (rC.below b1 rC.lt)
 have q2:=row_q (rO.below b1 rO.lt)
 have z2:w.heap.size+1<w1.heap.size:=by have:=b1.size;have:=SW.out;omega
 have z1:w.heap.size<w1.heap.size:=by omega
 have B1:Hid _:=b1
 have L1:Hid _:=l1
 clear b1 l1
 go_wp2_with fail
 have bX:Below w1.heap.size w1 (w1.alloc (.cells (cfgA c s1) 43)):=(Below.refl _ _).alloc (Nat.le_refl _) _
 have lX:=LentC.same L1.out bX
 have rC2:=(rC.below B1.out rC.lt).alloc (.cells (cfgA c s1) 43)
 have rO2:=(rO.below B1.out rO.lt).alloc (.cells (cfgA c s1) 43)
 have rL2:Row (w1.alloc (.cells (cfgA c s1) 43)) w1.heap.size (cfgL c s1) 43:=heap_alloc_new w1 _
 have bWX:=below_step B1.out bX rfl
 clear q1 q2 bX
 generalize w1.alloc (.cells (cfgA c s1) 43)=w2 at *
 refine (hT c s1 b cc w2 (lX.reads hW hc)).mono ?_
 rintro e w3 ⟨rfl,b3⟩
 have rC3:=rC2.below b3 rC2.lt
 have q3:=row_q (rO2.below b3 rO2.lt)
 have rL3:=rL2.below b3 rL2.lt
 have l3:=lX.same b3
 have bW3:=below_step bWX b3 rfl
 have q1:=row_q rC3
 have q2:=row_q rL3
 clear b3 rC2 rL2 lX bWX
 go_wp2_with fail
 refine (rWait_any c s b cc w3 (hW.below bW3 (Nat.le_refl _))).mono ?_
 rintro e w4 ⟨rfl,b4⟩
 have rC4:=rC3.below b4 rC3.lt
 have rL4:=rL3.below b4 rL3.lt
 have l4:=l3.same b4
 have bW4:=below_step bW3 b4 rfl
 clear q1 q2
 have q1:=row_q rC4
 have q2:=row_q rL4
 clear b4 rC3 rL3 l3 bW3
 have he:(waitN c b cc==waitN c b cc)=true:=by simp
 have he2:(waitE c b cc==waitE c b cc)=true:=by simp
 go_wp2_with fail
 refine (whole_any W w4 c s s1 ma ml mc hW hc bW4 l4).mono ?_
 rintro e w5 ⟨rfl,b5⟩
 clear q1 q2
 go_wp2
 go_ret
 exact ⟨rfl,bW.trans ((bW4.trans b5).mono bW.size)⟩
end Go.Proofs.YtehheaedbnfidaaGreat
namespace Go.Proofs.YtehheaedbnfidaaGreat
open Go.RowKit
set_option maxHeartbeats 1600000 in
theorem cturn_any (c:Cf)(s:Sl)(core t:Int)(w:World)(h:CfgAt w c s) :
  Calls Tryz.prog 79 #[cfgV c s,.int .i64 core,.int .i64 t] w fun e w'=>e = .returned (.tuple #[.int .i64 (turnD c core t),.bool (turnO c core t),.int .i64 (turnE c core t)])∧Below w.heap.size w w':=by
 have k0:=Kept.start w (cfgA c s) 43
 by_cases hz:chk c=0
 ·
  have R:=right_of hz
  have c1:=R.c1
  have c2:=R.c2
  have hb:(chk c != 0)=false:=by simp [hz]
  have HZ:Hid _:=hz
  clear hz
  rcases Bool.eq_false_or_eq_true (withinB core 0 (c.cores-1)) with a1|a1
  ·
   have a1':=(within_iff _ _ _).1 a1
   rcases Bool.eq_false_or_eq_true (withinB t 0 10000) with a2|a2
   ·
    have a2':=(within_iff _ _ _).1 a2
    have HN:Hid _:=turn_yes HZ.out (decide_eq_true (show 0≤core∧core<c.cores∧0≤t∧t≤10000 by omega))
    obtain ⟨i,rfl⟩:=Int.eq_ofNat_of_zero_le (show 0≤core by omega)
    rw [Int.toNat_natCast] at HN
    have hO:=fun w' hw=>cowner_any c s i t w' hw HZ.out (by omega) (by omega) (by omega)
    clear a1' a2'
    go_enter Tryz.func79,Tryz.ntmps79
    go_wp2_with fail
    refine (check_any c s _ (h.below k0.below (Nat.le_refl _))).mono ?_;rintro e w1 ⟨rfl,hb1⟩;have k1:=k0.next hb1 rfl;have q1:=k1.box
    go_wp2_with (go_at_call 117;refine (within_any _ _ _ _).mono ?_;rintro e w' ⟨rfl,rfl⟩)
    refine (hO _ (h.below k1.below (Nat.le_refl _))).mono ?_;rintro e w2 ⟨rfl,hb2⟩;have k2:=k1.next hb2 rfl
    go_wp2
    go_ret3
    exact ⟨ret_three HN.out.2.1.symm HN.out.2.2.symm HN.out.1.symm,k2.below⟩
   ·
    have a2':=(within_not _ _ _).1 a2
    have HN:Hid _:=turn_no HZ.out (decide_eq_false (show ¬(0≤core∧core<c.cores∧0≤t∧t≤10000) by omega))
    clear a1' a2'
    go_enter Tryz.func79,Tryz.ntmps79
    go_wp2_with fail
    refine (check_any c s _ (h.below k0.below (Nat.le_refl _))).mono ?_;rintro e w1 ⟨rfl,hb1⟩;have k1:=k0.next hb1 rfl;have q1:=k1.box
    go_wp2_with (go_at_call 117;refine (within_any _ _ _ _).mono ?_;rintro e w' ⟨rfl,rfl⟩)
    go_ret3
    exact ⟨ret_three HN.out.2.1.symm HN.out.2.2.symm HN.out.1.symm,k1.below⟩
  ·
   have a1':=(within_not _ _ _).1 a1
   have HN:Hid _:=turn_no HZ.out (decide_eq_false (show ¬(0≤core∧core<c.cores∧0≤t∧t≤10000) by omega))
   clear a1'
   go_enter Tryz.func79,Tryz.ntmps79
   go_wp2_with fail
   refine (check_any c s _ (h.below k0.below (Nat.le_refl _))).mono ?_;rintro e w1 ⟨rfl,hb1⟩;have k1:=k0.next hb1 rfl;have q1:=k1.box
   go_wp2_with (go_at_call 117;refine (within_any _ _ _ _).mono ?_;rintro e w' ⟨rfl,rfl⟩)
   go_ret3
   exact ⟨ret_three HN.out.2.1.symm HN.out.2.2.symm HN.out.1.symm,k1.below⟩
 ·
  have hb:(chk c != 0)=true:=by simpa using hz
  have HN:Hid _:=turn_bad (core:=core) (t:=t) hz
  clear hz
  go_enter Tryz.func79,Tryz.ntmps79
  go_wp2_with fail
  refine (check_any c s _ (h.below k0.below (Nat.le_refl _))).mono ?_;rintro e w1 ⟨rfl,hb1⟩;have k1:=k0.next hb1 rfl;have q1:=k1.box
  go_wp2
  go_ret3
  exact ⟨ret_three HN.out.2.1.symm HN.out.2.2.symm HN.out.1.symm,k1.below⟩
theorem turn_any:TurnC:=by
 intro c s core t w h
 have k0:=Kept.start w (cfgA c s) 43
 go_enter Tryz.func39,Tryz.ntmps39
 go_wp2_with fail
 refine (cturn_any c s core t _ (h.below k0.below (Nat.le_refl _))).mono ?_
 rintro e w' ⟨rfl,hb⟩
 go_wp2
 go_ret3
 exact ⟨rfl,(k0.next hb rfl).below⟩
end Go.Proofs.YtehheaedbnfidaaGreat
namespace Go.Proofs.YtehheaedbnfidaaGreat
theorem firstF_eq {p:Int→Bool}:∀ (n:Nat) (u m:Int),u≤m→m<u+n→p m=true→(∀ v,u≤v→v<m→p v=false)→firstF p n u=m
 | 0,u,m,h1,h2,_,_=>by omega
 | n+1,u,m,h1,h2,h3,h4=>by
  unfold firstF
  by_cases e:u=m
  · subst e;rw [if_pos h3]
  ·
   rw [if_neg (by rw [h4 u (by omega) (by omega)];simp)]
   exact firstF_eq n (u+1) m (by omega) (by omega) h3 (fun v hv1 hv2=>h4 v (by omega) hv2)
def ownZ (c:Cf)(k:Int):Int:=c.slots.getD (k%(c.slots.length:Int)).toNat 0
theorem some_slot {c:Cf}{d:Int}(h:0<c.slots.count d)(q:Int):∃ i:Nat,i<c.slots.length∧ownZ c (q+i)=d:=by
 have hm:d∈c.slots:=List.count_pos_iff.1 h
 obtain ⟨j,hj,e⟩:=List.getElem_of_mem hm
 have hl:0<c.slots.length:=by omega
 have h1:=Int.emod_nonneg ((j:Int)-q) (show (c.slots.length:Int)≠0 by omega)
 have h2:=Int.emod_lt_of_pos ((j:Int)-q) (show (0:Int)<(c.slots.length:Int) by omega)
 obtain ⟨i,hi⟩:=Int.eq_ofNat_of_zero_le h1
 refine ⟨i,by omega,?_⟩
 unfold ownZ
 rw [← hi,Int.add_comm,Int.emod_add_emod,show (j:Int)-q+q=(j:Int) by omega,Int.emod_eq_of_lt (by omega) (by omega),Int.toNat_natCast]
 simp [List.getD,hj,e]
theorem last_slot {c:Cf}{d:Int}(h:0<c.slots.count d)(q:Int)(n:Nat)(hn:n+1=c.slots.length)(hno:∀ i:Nat,i<n→ownZ c (q+i)≠d):ownZ c (q+n)=d:=by
 obtain ⟨i,hi,he⟩:=some_slot h q
 by_cases e:i<n
 · exact absurd he (hno i e)
 ·
  have:i=n:=by omega
  subst this;exact he
theorem wait_at {c:Cf}{d t:Int}(s1:1≤c.slot)(t0:0≤t)(j:Nat)(hj:j<c.slots.length)(he:ownZ c (t / c.slot+j)=d)(hno:∀ i:Nat,i<j→ownZ c (t / c.slot+i)≠d):waitZ c d t=(t / c.slot+j)*c.slot+c.slot-1:=by
 have hd:=Int.mul_ediv_add_emod t c.slot
 have r0:=Int.emod_nonneg t (show c.slot≠0 by omega)
 have r1:=Int.emod_lt_of_pos t (show 0<c.slot by omega)
 rw [Int.mul_comm] at hd
 generalize hq:t / c.slot=q at *
 have q0:0≤q:=by rw [← hq];exact Int.ediv_nonneg t0 (by omega)
 have p1:(0:Int)≤(j:Int)*c.slot:=Int.mul_nonneg (by omega) (by omega)
 have p2:((j:Int)+1)*c.slot≤(c.slots.length:Int)*c.slot:=Int.mul_le_mul_of_nonneg_right (by omega) (by omega)
 have e1:((j:Int)+1)*c.slot=(j:Int)*c.slot+c.slot:=by rw [Int.add_mul];omega
 have e2:(q+j)*c.slot=q*c.slot+(j:Int)*c.slot:=Int.add_mul ..
 have e3:(q+j)*c.slot+c.slot-1=(c.slot-1)+(q+j)*c.slot:=by omega
 have m1:((c.slot-1)+(q+j)*c.slot)%c.slot=c.slot-1:=by
  rw [Int.add_mul_emod_self_right,Int.emod_eq_of_lt (by omega) (by omega)]
 have m2:((c.slot-1)+(q+j)*c.slot) / c.slot=q+j:=by
  rw [Int.add_mul_ediv_right _ _ (by omega),Int.ediv_eq_zero_of_lt (by omega) (by omega)];omega
 unfold waitZ
 refine firstF_eq _ _ _ (by omega) ?_ ?_ ?_
 · rw [Int.toNat_of_nonneg (by omega)];omega
 ·
  rw [e3]
  unfold servesB
  rw [m1,m2]
  have:c.slots.getD ((q+(j:Int))%(c.slots.length:Int)).toNat 0=d:=he
  rw [this]
  simp
 ·
  intro v hv1 hv2
  unfold servesB
  by_cases g:v%c.slot=c.slot-1
  ·
   have hv:=Int.mul_ediv_add_emod v c.slot
   rw [Int.mul_comm,g] at hv
   have l1:q≤v / c.slot:=by rw [← hq];exact Int.ediv_le_ediv (by omega) hv1
   have l2:v / c.slot*c.slot<(q+j)*c.slot:=by omega
   have l3:v / c.slot<q+j:=Int.lt_of_mul_lt_mul_right l2 (by omega)
   obtain ⟨i,hi⟩:=Int.eq_ofNat_of_zero_le (show 0≤v / c.slot-q by omega)
   have:=hno i (by omega)
   rw [show q+(i:Int)=v / c.slot by omega] at this
   have this':c.slots.getD (v / c.slot%(c.slots.length:Int)).toNat 0≠d:=this
   simp only [Bool.and_eq_false_iff,beq_eq_false_iff_ne]
   exact Or.inr this'
  · simp [g]
end Go.Proofs.YtehheaedbnfidaaGreat
namespace Go.Proofs.YtehheaedbnfidaaGreat
open Go.RowKit
set_option maxHeartbeats 1600000 in
theorem cwait_any (c:Cf)(s:Sl)(d t:Int)(w:World)(h:CfgAt w c s) :
  Calls Tryz.prog 82 #[cfgV c s,.int .i64 d,.int .i64 t] w fun e w'=>e = .returned (.tuple #[.int .i64 (waitN c d t),.int .i64 (waitE c d t)])∧Below w.heap.size w w':=by
 have k0:=Kept.start w (cfgA c s) 43
 by_cases hz:chk c=0
 ·
  have R:=right_of hz
  have HS:Hid (slotsB c=true):=(chk_zero hz).2.2.1
  have d1:=R.d1
  have d2:=R.d2
  have hb:(chk c != 0)=false:=by simp [hz]
  have HZ:Hid _:=hz
  clear hz
  rcases Bool.eq_false_or_eq_true (withinB d 0 (c.domains-1)) with a3|a3
  ·
   have a3':=(within_iff _ _ _).1 a3
   rcases Bool.eq_false_or_eq_true (withinB t 0 10000) with a4|a4
   ·
    have a4':=(within_iff _ _ _).1 a4
    obtain ⟨t0,tm⟩:=a4'
    have HN:Hid _:=wait_yes HZ.out (decide_eq_true (show 0≤d∧d<c.domains∧0≤t∧t≤10000 by omega))
    have HC:Hid (0<c.slots.count d):=owns_slot HS.out (by omega) (by omega)
    have s1:=R.s1
    have s2:=R.s2
    have l1:=R.t1
    have l2:=R.t2
    have hlen:=h.slots.hlen
    have hle:=h.slots.hle
    obtain ⟨wa,wl,wc,sa,sl,sc,ta,tl,tc⟩:=s
    dsimp only at *
    rw [hlen] at l1 l2
    have y1:0<c.slot:=by omega
    have y0:¬c.slot=0:=by omega
    have y2:0≤t / c.slot:=Int.ediv_nonneg t0 (by omega)
    have y3:t / c.slot≤t:=Int.ediv_le_self _ t0
    have i1:(0:Int)<(sl:Int):=by omega
    have i0:¬(sl:Int)=0:=by omega
    have HL:Hid _:=hlen
    have HW:Hid (∀ j:Nat,j<sl→ownZ c (t / c.slot+j)=d→(∀ i:Nat,i<j→ownZ c (t / c.slot+i)≠d)→waitN c d t=(t / c.slot+j)*c.slot+c.slot-1):=fun j hj he hno=>by
     rw [HN.out.2];exact wait_at s1 t0 j (by rw [HL.out];exact hj) he hno
    have HLast:Hid (∀ n:Nat,n+1=sl→(∀ i:Nat,i<n→ownZ c (t / c.slot+i)≠d)→ownZ c (t / c.slot+n)=d):=fun n hn hno=>last_slot HC.out _ n (by rw [HL.out];exact hn) hno
    obtain ⟨q,hq⟩:∃ q,t / c.slot=q:=⟨_,rfl⟩
    rw [hq] at HW HLast y2 y3
    have hslots:=h.slots
    have HO:Hid (∀ k:Int,∃ j:Nat,k%(sl:Int)=(j:Int)∧j<sl∧ownZ c k=c.slots.getD j 0):=fun k=>by
     obtain ⟨j,hj,hjl⟩:=mod_nat (a:=k) (n:=sl) (by omega)
     refine ⟨j,hj,hjl,?_⟩
     unfold ownZ;rw [HL.out,hj,Int.toNat_natCast]
    clear hlen a3'
    go_enter Tryz.func82,Tryz.ntmps82
    go_wp2_with fail
    refine (check_any c _ _ (h.below k0.below (Nat.le_refl _))).mono ?_;rintro e w1 ⟨rfl,hb1⟩;have k1:=k0.next hb1 rfl;have q1:=k1.box
    go_wp2_with (go_at_call 117;refine (within_any _ _ _ _).mono ?_;rintro e w' ⟨rfl,rfl⟩)
    go_loopw [9,10] (fun k p wr=>∃ j:Nat,j<sl∧k = .int .i64 (q+j)∧p = .int .i64 (1+j)∧(∀ i:Nat,i<j→ownZ c (q+i)≠d)∧Kept w wr w.heap.size (cfgA c ⟨wa,wl,wc,sa,sl,sc,ta,tl,tc⟩)) (fun _ p _=>(sl+1-intOf p).toNat)
    case atStart=>exact ⟨0,by omega,by rw [hq];simp,by simp,fun i hi=>by omega,k1⟩
    case round=>
     obtain ⟨j,hj,rfl,rfl,hno,kr⟩:=hrel
     have HNo:Hid _:=hno
     obtain ⟨m,hm,hml,ho⟩:=HO.out (q+j)
     have hints1:=hslots.below kr.below (Nat.le_refl _)
     obtain ⟨b,off,rfl,hc⟩:=hints1.hat m hml
     have HOo:Hid _:=ho
     have p1:0≤(q+(j:Int))*c.slot∧(q+(j:Int))*c.slot≤10008*4:=⟨Int.mul_nonneg (by omega) (by omega),Int.mul_le_mul (by omega) (by omega) (by omega) (by omega)⟩
     obtain ⟨p11,p12⟩:=p1
     have q0:=kr.box
     have c8:=q0 8
     have c9:=q0 9
     generalize c.slots.getD m 0=v at *
     simp only [List.size_toArray,List.length_cons,List.length_nil,Nat.reduceAdd,Nat.reduceLT,getElem?_pos,List.getElem_toArray,List.getElem_cons_succ,List.getElem_cons_zero] at c8 c9
     clear hno ho hq q1
     rcases Bool.eq_false_or_eq_true (v==d) with a5|a5
     ·
      have HN2:Hid _:=HW.out j hj (by rw [HOo.out];simpa using a5) HNo.out
      by_cases hlt:(1:Int)+j<sl
      ·
       go_wp2_with fail
       go_quiet (fail)
       go_wp2
       go_ret2
       exact ⟨ret_two HN2.out.symm HN.out.1.symm,Go.below_drewN kr.below _⟩
      ·
       go_wp2
       go_ret2
       exact ⟨ret_two HN2.out.symm HN.out.1.symm,kr.below⟩
     ·
      by_cases hlt:(1:Int)+j<sl
      ·
       go_wp2_with fail
       go_quiet (fail)
       go_wp2
       go_roundw
       case rel=>
        refine ⟨j+1,by omega,by go_num,by go_num,fun i hi=>?_,?_⟩
        ·
         by_cases e:i=j
         · subst e;rw [HOo.out];simpa using a5
         · exact HNo.out i (by omega)
        · exact ⟨Go.below_drewN kr.below _,kr.box,kr.lt⟩
       case measure=>simp [intOf];omega
      ·
       have HN2:Hid _:=HW.out j hj (HLast.out j (by omega) HNo.out) HNo.out
       go_wp2
       go_ret2
       exact ⟨ret_two HN2.out.symm HN.out.1.symm,kr.below⟩
   ·
    have a4':=(within_not _ _ _).1 a4
    have HN:Hid _:=wait_no HZ.out (decide_eq_false (show ¬(0≤d∧d<c.domains∧0≤t∧t≤10000) by omega))
    clear a3' a4'
    go_enter Tryz.func82,Tryz.ntmps82
    go_wp2_with fail
    refine (check_any c s _ (h.below k0.below (Nat.le_refl _))).mono ?_;rintro e w1 ⟨rfl,hb1⟩;have k1:=k0.next hb1 rfl;have q1:=k1.box
    go_wp2_with (go_at_call 117;refine (within_any _ _ _ _).mono ?_;rintro e w' ⟨rfl,rfl⟩)
    go_ret2
    exact ⟨ret_two HN.out.2.symm HN.out.1.symm,k1.below⟩
  ·
   have a3':=(within_not _ _ _).1 a3
   have HN:Hid _:=wait_no HZ.out (decide_eq_false (show ¬(0≤d∧d<c.domains∧0≤t∧t≤10000) by omega))
   clear a3'
   go_enter Tryz.func82,Tryz.ntmps82
   go_wp2_with fail
   refine (check_any c s _ (h.below k0.below (Nat.le_refl _))).mono ?_;rintro e w1 ⟨rfl,hb1⟩;have k1:=k0.next hb1 rfl;have q1:=k1.box
   go_wp2_with (go_at_call 117;refine (within_any _ _ _ _).mono ?_;rintro e w' ⟨rfl,rfl⟩)
   go_ret2
   exact ⟨ret_two HN.out.2.symm HN.out.1.symm,k1.below⟩
 ·
  have hb:(chk c != 0)=true:=by simpa using hz
  have HN:Hid _:=wait_bad (d:=d) (t:=t) hz
  clear hz
  go_enter Tryz.func82,Tryz.ntmps82
  go_wp2_with fail
  refine (check_any c s _ (h.below k0.below (Nat.le_refl _))).mono ?_;rintro e w1 ⟨rfl,hb1⟩;have k1:=k0.next hb1 rfl;have q1:=k1.box
  go_wp2
  go_ret2
  exact ⟨ret_two HN.out.2.symm HN.out.1.symm,k1.below⟩
theorem wait_any:WaitC:=by
 intro c s d t w h
 have k0:=Kept.start w (cfgA c s) 43
 go_enter Tryz.func41,Tryz.ntmps41
 go_wp2_with fail
 refine (cwait_any c s d t _ (h.below k0.below (Nat.le_refl _))).mono ?_
 rintro e w' ⟨rfl,hb⟩
 go_wp2
 go_ret2
 exact ⟨rfl,(k0.next hb rfl).below⟩
end Go.Proofs.YtehheaedbnfidaaGreat
