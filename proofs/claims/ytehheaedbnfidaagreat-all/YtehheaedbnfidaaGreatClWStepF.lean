import Derived.Test.YtehheaedbnfidaaGreatClWPlaysZ
import Derived.Test.YtehheaedbnfidaaGreatClRefMy
import Derived.Test.YtehheaedbnfidaaGreatClWCohere
set_option maxRecDepth 100000
namespace Go.Proofs.YtehheaedbnfidaaGreat
open Go.RowKit
attribute [local go_sem ↓] Go.wp_at_zero Go.wp_at_succ
set_option maxHeartbeats 3200000 in
theorem step_fared (gw base:Nat)(o:Own)(n mc g:Nat)(e p b:Value)(ts:List Int)(os:List (Int × Int × Int))(st:St)(w:World)(h:WSt w gw base o (.slice (some ⟨g,0,none⟩) n mc) e p b ts os)(hr:StR st)(hk:st.k=19)(hpos:0<n)(hnm:n≤mc)(hmm:mc≤maxLen)(hg:g<w.heap.size)
  (px pl:Nat→Nat) (hat:∀ j,j<n→w.cell? ⟨g,j*2,none⟩=some (.pointer (some ⟨px j,0,none⟩))∧w.cell? ⟨g,j*2+1,none⟩=some (.pointer (some ⟨pl j,0,none⟩))) (R:World→Prop)
  (hgiven:∀ (j:Nat) (w2:World),j<n→Below w.heap.size w w2→Calls Tryz.prog 18 #[.pointer (some ⟨gw,0,none⟩),.agg #[.pointer (some ⟨px j,0,none⟩),.pointer (some ⟨pl j,0,none⟩)],.int .i64 st.b] w2 fun x w'=>x = .returned (.bool true)∧R w') :
  Calls Tryz.prog 9 #[.pointer (some ⟨gw,0,none⟩),opV st] w fun x w'=>x = .returned (.bool true)∧R w':=by
 have HP:Hid _:=hgiven
 clear hgiven
 obtain ⟨k,a,bb,cc,dd⟩:=st
 simp only at hk
 subst hk
 have bW:Below w.heap.size w (w.alloc (.cells (opA ⟨19,a,bb,cc,dd⟩) 36)):=(Below.refl _ _).alloc (Nat.le_refl _) _
 have rO:Row (w.alloc (.cells (opA ⟨19,a,bb,cc,dd⟩) 36)) w.heap.size [.int .i64 19,.int .i64 a,.int .i64 bb,.int .i64 cc,.int .i64 dd] 36:=heap_alloc_new w _
 have hW:=h.below bW rfl
 unfold maxLen at hmm
 go_enter Tryz.func9,Tryz.ntmps9
 go_wp2_with fail
 refine (owner_other gw ⟨19,a,bb,cc,dd⟩ _ (by simp only [];omega)).mono ?_
 rintro x w1 ⟨rfl,b1⟩
 have h1:=hW.below b1 rfl
 have rO1:=rO.below b1 rO.lt
 have bW1:=below_step bW b1 rfl
 have q1:∀ i,w1.cell? ⟨w.heap.size,i,none⟩=(opA ⟨19,a,bb,cc,dd⟩)[i]? := fun i=>by rw [rO1.cell];simp
 have c3:w1.cell? ⟨gw,3,none⟩=some (.slice (some ⟨g,0,none⟩) n mc):=by rw [h1.row.cell];rfl
 have ncl:((n:Int)==0)=false:=by simp;exact Nat.pos_iff_ne_zero.1 hpos
 clear b1 bW hW rO
 have pb:=pickZ_bd a n (by omega)
 obtain ⟨j,hj⟩:=Int.eq_ofNat_of_zero_le pb.1
 have hjl:j<n:=by have:=pb.2;omega
 have hpick:∀ w:World,Calls Tryz.prog 13 #[.int .i64 a,.int .i64 n] w fun e w'=>e = .returned (.int .i64 (j:Int))∧w'=w:=fun w=>by
  have:=pick_any a n w hr.a1 hr.a2 (by omega) (by omega)
  rw [hj] at this
  exact this
 have HK:Hid _:=hpick
 obtain ⟨e0',e1'⟩:=hat j hjl
 have e0:w1.cell? ⟨g,j*2,none⟩=some (.pointer (some ⟨px j,0,none⟩)):=(bW1.cell (p:=⟨g,j*2,none⟩) hg).trans e0'
 have e1:w1.cell? ⟨g,j*2+1,none⟩=some (.pointer (some ⟨pl j,0,none⟩)):=(bW1.cell (p:=⟨g,j*2+1,none⟩) hg).trans e1'
 have c1:w1.cell? ⟨w.heap.size,1,none⟩=some (.int .i64 a):=q1 1
 have hj0:(0:Int)≤(j:Int):=by omega
 have hj1:(j:Int)<(n:Int):=by omega
 have nw:=h1.row.lt
 have ng:g<w1.heap.size:=Nat.lt_of_lt_of_le hg bW1.size
 have HPJ:=HP.out j
 have HPJ':Hid _:=HPJ
 generalize px j=xj at *
 generalize pl j=lj at *
 clear hpick hj pb e0' e1' hat HPJ
 go_wp2_with fail
 go_region_held3 (fun w'=>w'.cell? ⟨gw,3,none⟩=some (.slice (some ⟨g,0,none⟩) n mc)∧w'.cell? ⟨w.heap.size,1,none⟩=some (.int .i64 a)∧w'.cell? ⟨g,j*2,none⟩=some (.pointer (some ⟨xj,0,none⟩))∧w'.cell? ⟨g,j*2+1,none⟩=some (.pointer (some ⟨lj,0,none⟩))) (go_keep) (first | (go_at_call 13;refine (HK.out _).mono ?_;rintro e w' ⟨rfl,rfl⟩))
 all_goals
  have bX:Below w1.heap.size w1 (w1.alloc (.cells #[.pointer (some ⟨xj,0,none⟩),.pointer (some ⟨lj,0,none⟩)] 50)).drew:=((Below.refl _ _).alloc (Nat.le_refl _) _).drew
  have rP:Row (w1.alloc (.cells #[.pointer (some ⟨xj,0,none⟩),.pointer (some ⟨lj,0,none⟩)] 50)).drew w1.heap.size [.pointer (some ⟨xj,0,none⟩),.pointer (some ⟨lj,0,none⟩)] 50:=heap_alloc_new w1 _
  have rO2:=rO1.below bX rO1.lt
  have bW2:=below_step bW1 bX rfl
  clear e0 e1 c1 c3 q1 bX
  generalize (w1.alloc (.cells #[.pointer (some ⟨xj,0,none⟩),.pointer (some ⟨lj,0,none⟩)] 50)).drew=w2 at *
  have q1:=row_q rP
  have q2:=row_q rO2
  go_wp2_with fail
  refine (HPJ'.out w2 hjl bW2).mono ?_
  rintro x w3 ⟨rfl,r3⟩
  have HR3:Hid _:=r3
  clear r3
  go_wp2
  go_ret
  exact ⟨rfl,HR3.out⟩
end Go.Proofs.YtehheaedbnfidaaGreat
namespace Go.Proofs.YtehheaedbnfidaaGreat
open Go.RowKit
attribute [local go_sem ↓] Go.wp_at_zero Go.wp_at_succ
set_option maxHeartbeats 3200000 in
theorem step_memory (gw base:Nat)(o:Own)(n mc g:Nat)(e p b:Value)(ts:List Int)(os:List (Int × Int × Int))(st:St)(w:World)(h:WSt w gw base o (.slice (some ⟨g,0,none⟩) n mc) e p b ts os)(hr:StR st)(hk:st.k=20)(hpos:0<n)(hnm:n≤mc)(hmm:mc≤maxLen)(hg:g<w.heap.size)
  (px pl:Nat→Nat) (hat:∀ j,j<n→w.cell? ⟨g,j*2,none⟩=some (.pointer (some ⟨px j,0,none⟩))∧w.cell? ⟨g,j*2+1,none⟩=some (.pointer (some ⟨pl j,0,none⟩)))
  (hgiven:∀ (j:Nat) (w2:World),j<n→Below w.heap.size w w2→∃ v er:Int,Calls Tryz.prog 19 #[.pointer (some ⟨px j,0,none⟩),.int .i64 st.b,.int .i64 st.c] w2 (fun x w'=>x = .returned (.tuple #[.int .i64 v,.int .i64 er])∧Below w2.heap.size w2 w')∧∀ w3,Below w2.heap.size w2 w3→Calls Tryz.prog 20 #[.pointer (some ⟨pl j,0,none⟩),.int .i64 st.b,.int .i64 st.c] w3 (fun x w'=>x = .returned (.tuple #[.int .i64 v,.int .i64 er])∧Below w3.heap.size w3 w')) :
  Calls Tryz.prog 9 #[.pointer (some ⟨gw,0,none⟩),opV st] w fun x w'=>x = .returned (.bool true)∧Below w.heap.size w w':=by
 have HP:Hid _:=hgiven
 clear hgiven
 obtain ⟨k,a,bb,cc,dd⟩:=st
 simp only at hk
 subst hk
 have bW:Below w.heap.size w (w.alloc (.cells (opA ⟨20,a,bb,cc,dd⟩) 36)):=(Below.refl _ _).alloc (Nat.le_refl _) _
 have rO:Row (w.alloc (.cells (opA ⟨20,a,bb,cc,dd⟩) 36)) w.heap.size [.int .i64 20,.int .i64 a,.int .i64 bb,.int .i64 cc,.int .i64 dd] 36:=heap_alloc_new w _
 have hW:=h.below bW rfl
 unfold maxLen at hmm
 go_enter Tryz.func9,Tryz.ntmps9
 go_wp2_with fail
 refine (owner_other gw ⟨20,a,bb,cc,dd⟩ _ (by simp only [];omega)).mono ?_
 rintro x w1 ⟨rfl,b1⟩
 have h1:=hW.below b1 rfl
 have rO1:=rO.below b1 rO.lt
 have bW1:=below_step bW b1 rfl
 have q1:∀ i,w1.cell? ⟨w.heap.size,i,none⟩=(opA ⟨20,a,bb,cc,dd⟩)[i]? := fun i=>by rw [rO1.cell];simp
 have c3:w1.cell? ⟨gw,3,none⟩=some (.slice (some ⟨g,0,none⟩) n mc):=by rw [h1.row.cell];rfl
 have ncl:((n:Int)==0)=false:=by simp;exact Nat.pos_iff_ne_zero.1 hpos
 clear b1 bW hW rO
 have pb:=pickZ_bd a n (by omega)
 obtain ⟨j,hj⟩:=Int.eq_ofNat_of_zero_le pb.1
 have hjl:j<n:=by have:=pb.2;omega
 have hpick:∀ w:World,Calls Tryz.prog 13 #[.int .i64 a,.int .i64 n] w fun e w'=>e = .returned (.int .i64 (j:Int))∧w'=w:=fun w=>by
  have:=pick_any a n w hr.a1 hr.a2 (by omega) (by omega)
  rw [hj] at this
  exact this
 have HK:Hid _:=hpick
 obtain ⟨e0',e1'⟩:=hat j hjl
 have e0:w1.cell? ⟨g,j*2,none⟩=some (.pointer (some ⟨px j,0,none⟩)):=(bW1.cell (p:=⟨g,j*2,none⟩) hg).trans e0'
 have e1:w1.cell? ⟨g,j*2+1,none⟩=some (.pointer (some ⟨pl j,0,none⟩)):=(bW1.cell (p:=⟨g,j*2+1,none⟩) hg).trans e1'
 have c1:w1.cell? ⟨w.heap.size,1,none⟩=some (.int .i64 a):=q1 1
 have hj0:(0:Int)≤(j:Int):=by omega
 have hj1:(j:Int)<(n:Int):=by omega
 have nw:=h1.row.lt
 have ng:g<w1.heap.size:=Nat.lt_of_lt_of_le hg bW1.size
 have HPJ:=HP.out j
 have HPJ':Hid _:=HPJ
 generalize px j=xj at *
 generalize pl j=lj at *
 clear hpick hj pb e0' e1' hat HPJ
 go_wp2_with fail
 go_region_held3 (fun w'=>w'.cell? ⟨gw,3,none⟩=some (.slice (some ⟨g,0,none⟩) n mc)∧w'.cell? ⟨w.heap.size,1,none⟩=some (.int .i64 a)∧w'.cell? ⟨g,j*2,none⟩=some (.pointer (some ⟨xj,0,none⟩))∧w'.cell? ⟨g,j*2+1,none⟩=some (.pointer (some ⟨lj,0,none⟩))) (go_keep) (first | (go_at_call 13;refine (HK.out _).mono ?_;rintro e w' ⟨rfl,rfl⟩))
 all_goals
  have bX:Below w1.heap.size w1 (w1.alloc (.cells #[.pointer (some ⟨xj,0,none⟩),.pointer (some ⟨lj,0,none⟩)] 50)).drew:=((Below.refl _ _).alloc (Nat.le_refl _) _).drew
  have rP:Row (w1.alloc (.cells #[.pointer (some ⟨xj,0,none⟩),.pointer (some ⟨lj,0,none⟩)] 50)).drew w1.heap.size [.pointer (some ⟨xj,0,none⟩),.pointer (some ⟨lj,0,none⟩)] 50:=heap_alloc_new w1 _
  have rO2:=rO1.below bX rO1.lt
  have bW2:=below_step bW1 bX rfl
  clear e0 e1 c1 c3 q1 bX
  generalize (w1.alloc (.cells #[.pointer (some ⟨xj,0,none⟩),.pointer (some ⟨lj,0,none⟩)] 50)).drew=w2 at *
  have q1:=row_q rP
  have q2:=row_q rO2
  go_wp2_with fail
  clear q1 q2
  obtain ⟨v,er,hM,hR⟩:=HPJ'.out w2 hjl bW2
  have HRR:Hid _:=hR
  refine hM.mono ?_
  rintro x w3 ⟨rfl,b3⟩
  have rP3:=rP.below b3 rP.lt
  have rO3:=rO2.below b3 rO2.lt
  have bW3:=below_step bW2 b3 rfl
  have hR3:=HRR.out w3 b3
  have q1:=row_q rP3
  have q2:=row_q rO3
  clear b3 hM hR
  go_wp2_with fail
  refine hR3.mono ?_
  rintro x w4 ⟨rfl,b4⟩
  have HB4:Hid (Below w.heap.size w w4):=below_step bW3 b4 rfl
  clear b4 hR3 q1 q2
  go_wp2
  go_ret
  exact ⟨by simp,HB4.out⟩
end Go.Proofs.YtehheaedbnfidaaGreat
namespace Go.Proofs.YtehheaedbnfidaaGreat
open Go.RowKit
def blkF (c:Cf)(L:List Ent)(s j:Nat):Bk:=⟨liesF c s j L,if 0≤liesF c s j L then markedF (liesF c s j L) L else false,fun _=>0⟩
theorem owns_base {w:World}{b b':Nat}{e:TypeId}{size:Nat}{v:Value}{n:Nat}{xs:List Value}(h:w.ownsRow b' e size v n xs)(hb:b≤b'):w.ownsRow b e size v n xs:=by
 obtain ⟨h1,h2⟩:=h
 refine ⟨h1,?_⟩
 rcases h2 with h2|⟨g,cap,cur,a1,a2,r⟩
 · exact Or.inl h2
 · exact Or.inr ⟨g,cap,cur,a1,by omega,r⟩
set_option maxHeartbeats 6400000 in
theorem rFar_good (L:RLoc)(M:RDat)(d:Nat)(w:World)(h:RefM w L M)(hc:CfgAt w M.c M.s)(hd:d<L.nd)(ns wn:Nat)(hns:M.c.sets=ns)(hwn:M.c.ways.count (d:Int)=wn) :
  Calls Tryz.prog 48 #[.pointer (some ⟨L.gr,0,none⟩),.int .i64 d] w fun e w'=>∃ la lc,e = .returned (.tuple #[.slice la (ns*wn) lc,.int .i64 0])∧w'.ownsRow w.heap.size 66 2 (.slice la (ns*wn) lc) (ns*wn) (bksL (blkF M.c (So.upto M.toM d M.T.toNat).log) wn (ns*wn))∧Below w.heap.size w w':=by
 obtain ⟨i0,hi0,hz0,hz1,hz2⟩:=info_parts Tryz.infoBlkA
 have hP:=rplayed_any L M d w h hc hd
 have m1:w.cell? ⟨L.gr,1,none⟩=some (.int .i64 M.c.domains):=by rw [h.row.cell];rfl
 have hdd:(d:Int)<M.c.domains:=by have:=h.nd;omega
 have d0:(0:Int)≤(d:Int):=by omega
 obtain ⟨_,_,_,_,_,hsets,_⟩:=shape_bounds (chk_zero h.right).1
 have n1:ns≤4:=by omega
 have hsm:=ways_small h.right hdd
 rw [hwn] at hsm
 have w1:wn≤4:=by
  have:=(small_iff _).1 hsm
  omega
 have hnw:ns*wn≤16:=by have:=Nat.mul_le_mul n1 w1;omega
 have HOK:Hid _:=(SoOk.upto (M:=M.toM) (d:=d) h.right M.T.toNat (by have:=h.T1;omega)).log
 clear h hc hsets hsm
 go_enter Tryz.func48,Tryz.ntmps48
 go_wp2_with fail
 refine hP.mono ?_
 rintro e w1 ⟨X,rfl,hX,hC⟩
 have hl:=play_log hC
 obtain ⟨S,hS⟩:∃ S,So.upto M.toM d M.T.toNat=S:=⟨_,rfl⟩
 rw [hS] at hC hl HOK
 have HSE:Hid _:=hS
 clear hS
 have hw:=rsways_any X M.c M.s L M.T w1 hC.sor hC.cfg.ways
 rw [hX,hwn] at hw
 have HC:Hid _:=hC
 have HL:Hid _:=hl
 have HB0:Hid (Below w.heap.size w w1):=hC.below
 clear hC hl hP m1
 go_wp2_with fail
 refine hw.mono ?_
 rintro e w2 ⟨rfl,hb2⟩
 have HC2:Hid _:=HC.out.reads hb2
 have HL2:Hid (LogAt w2 X.la X.ll S.log):=HL.out.below hb2 (Nat.le_refl _)
 have lg:L.gr<w2.heap.size:=HC2.out.ref.row.lt
 have HB2:Hid (Below w.heap.size w w2):=below_step HB0.out hb2 rfl
 clear hw hb2 HC HL
 go_wp2_with fail
 go_loopw [8,9] (fun l u wr=>∃ (s:Nat) (la:Option Addr) (lc:Nat),s≤ns∧u = .int .i64 s∧l = .slice la (s*wn) lc∧wr.ownsRow w2.heap.size 66 2 (.slice la (s*wn) lc) (s*wn) (bksL (blkF M.c S.log) wn (s*wn))∧Below w2.heap.size w2 wr) (fun _ u _=>ns-(intOf u).toNat)
 case atStart=>exact ⟨0,none,0,by omega,rfl,by rw [Nat.zero_mul],by rw [Nat.zero_mul];simp [World.ownsRow,bksL],Below.refl _ _⟩
 case round=>
  obtain ⟨s,la,lc,hs,rfl,rfl,hown,hb⟩:=hrel
  have m6:wr.cell? ⟨L.gr,6,none⟩=some (.int .i64 ns):=by
   rw [(HC2.out.reads hb).ref.row.cell,← hns];rfl
  have HO:Hid _:=hown
  have HB:Hid _:=hb
  by_cases hlt:s<ns
  ·
   clear hown hb
   go_wp2_with fail
   clear m6
   go_loopw [8,10] (fun l u wx=>∃ (i:Nat) (la:Option Addr) (lc:Nat),i≤wn∧u = .int .i64 i∧l = .slice la (s*wn+i) lc∧wx.ownsRow w2.heap.size 66 2 (.slice la (s*wn+i) lc) (s*wn+i) (bksL (blkF M.c S.log) wn (s*wn+i))∧Below w2.heap.size w2 wx) (fun _ u _=>wn-(intOf u).toNat)
   case atStart=>exact ⟨0,la,lc,by omega,rfl,rfl,HO.out,HB.out⟩
   case round=>
    obtain ⟨i,ka,kc,hi,rfl,rfl,hown,hb⟩:=hrel
    have HO2:Hid _:=hown
    have HB2':Hid _:=hb
    have HRW:Hid (∀ k,(Value.slice ka (s*wn+i) kc).ownBlock=some k→w2.heap.size≤k):=fun k hk=>(owns_lt hown k hk).2
    have hbs:=hb.size
    by_cases hli:i<wn
    ·
     have hx:=HC2.out.reads hb
     have hxl:=rlies_any X M.c M.s L M.T s i S.log wr hx.sor (HL2.out.below hb (Nat.le_refl _)) HOK.out
     have hsn:s*wn+i<ns*wn:=by
      have:(s+1)*wn≤ns*wn:=Nat.mul_le_mul_right _ hlt
      rw [Nat.succ_mul] at this
      omega
     have LM:Hid (s*wn+i+1≤maxLen):=by unfold Hid maxLen;omega
     have L8:Hid ((s*wn+i+1)*16≤140737488355328):=by unfold Hid;omega
     have hmod:(s*wn+i) / wn=s∧(s*wn+i)%wn=i:=by
      rw [Nat.mul_comm,Nat.mul_add_div (by omega),Nat.div_eq_of_lt hli,Nat.mul_add_mod,Nat.mod_eq_of_lt hli]
      omega
     have HBS:Hid (bksL (blkF M.c S.log) wn (s*wn+i+1)=bksL (blkF M.c S.log) wn (s*wn+i)++[.int .i64 (liesF M.c s i S.log),.bool (if 0≤liesF M.c s i S.log then markedF (liesF M.c s i S.log) S.log else false)]):=by
      unfold Hid;rw [bks_succ,hmod.1,hmod.2];rfl
     clear hown hb hmod
     go_wp2_with fail
     refine hxl.mono ?_
     rintro e w3 ⟨rfl,hb3⟩
     have HB3:Hid (Below w2.heap.size w2 w3):=below_step HB2'.out hb3 rfl
     have HO3:Hid (w3.ownsRow w2.heap.size 66 2 (.slice ka (s*wn+i) kc) (s*wn+i) (bksL (blkF M.c S.log) wn (s*wn+i))):=owns_same HO2.out (fun g hg=>hb3.block g (owns_lt HO2.out g hg).1)
     have HX3:Hid _:=hx.reads hb3
     have HL3:Hid (LogAt w3 X.la X.ll S.log):=HL2.out.below HB3.out (Nat.le_refl _)
     have s3:=HB3.out.size
     clear hxl hx hb3 HO2 HB2'
     by_cases hx0:0≤liesF M.c s i S.log
     ·
      have HBS':Hid (bksL (blkF M.c S.log) wn (s*wn+i+1)=bksL (blkF M.c S.log) wn (s*wn+i)++[.int .i64 (liesF M.c s i S.log),.bool (markedF (liesF M.c s i S.log) S.log)]):=by
       unfold Hid;rw [HBS.out,if_pos hx0]
      clear HBS
      generalize liesF M.c s i S.log=x at *
      have bA:Below w3.heap.size w3 (w3.alloc (.cells #[.int .i64 x,.bool false] 66)):=(Below.refl _ _).alloc (Nat.le_refl _) _
      have rB:Row (w3.alloc (.cells #[.int .i64 x,.bool false] 66)) w3.heap.size [.int .i64 x,.bool false] 66:=heap_alloc_new w3 _
      obtain ⟨wa,hwa⟩:∃ wa,w3.alloc (.cells #[.int .i64 x,.bool false] 66)=wa:=⟨_,rfl⟩
      rw [hwa] at bA rB
      have hmk:=rmarked_any X M.c M.s L M.T x S.log wa (HX3.out.reads bA).sor (HL3.out.below bA (Nat.le_refl _)) HOK.out
      have HWA:Hid _:=hwa
      have HBA:Hid _:=bA
      have HRB:Hid (Row wa w3.heap.size [.int .i64 x,.bool false] 66):=rB
      clear hwa bA rB
      go_wp2_with fail
      try rw [HWA.out]
      refine hmk.mono ?_
      rintro e w4 ⟨rfl,hb4⟩
      generalize markedF x S.log=mk at *
      have rB4:Row w4 w3.heap.size [.int .i64 x,.bool false] 66:=Row.below HRB.out hb4 (Row.lt HRB.out)
      have g0:w4.cell? ⟨w3.heap.size,0,none⟩=some (.int .i64 x):=rB4.cell 0
      have g1:w4.cell? ⟨w3.heap.size,1,none⟩=some (.bool false):=rB4.cell 1
      have f1:=rB4.frozen 1
      have lB:=rB4.lt
      have HB4:Hid (Below w3.heap.size w3 w4):=below_step HBA.out hb4 rfl
      have HR5:Hid (Row (w4.setCell ⟨w3.heap.size,1,none⟩ (.bool mk)) w3.heap.size [.int .i64 x,.bool mk] 66):=rB4.setCell 1 _
      have HB5:Hid (Below w2.heap.size w2 (w4.setCell ⟨w3.heap.size,1,none⟩ (.bool mk))):=(below_step HB3.out HB4.out rfl).setCell (p:=⟨w3.heap.size,1,none⟩) (by show w2.heap.size≤w3.heap.size;omega) _
      have HO5:Hid ((w4.setCell ⟨w3.heap.size,1,none⟩ (.bool mk)).ownsRow w2.heap.size 66 2 (.slice ka (s*wn+i) kc) (s*wn+i) (bksL (blkF M.c S.log) wn (s*wn+i))):=owns_same HO3.out (fun g hg=>(Below.heap_setCell _ _ _ _ (fun q=>by have:=(owns_lt HO3.out g hg).1;have q':g=w3.heap.size:=q;omega)).trans (HB4.out.block g (owns_lt HO3.out g hg).1))
      have s5:=HB5.out.size
      rw [World.size_setCell] at s5
      clear hmk hb4 rB4
      go_wp2_with (at_builtin;refine wpList_append_lies _ rfl _ _ 64 rfl w2.heap.size 66 i0 _ 2 16 Tryz.underlying64 hi0 hz0 hz1 hz2 rfl (by decide) (.slice ka (s*wn+i) kc) (s*wn+i) (bksL (blkF M.c S.log) wn (s*wn+i)) rfl ?o1 ⟨w4.heap.size,0,none⟩ 1 1 [.int .i64 x,.bool mk] ?o9 rfl ?o3 ?o4 (by omega) ?o5 ?o6 ?o7 _ rfl ?o8)
      case o1=>exact World.ownsRow.alloc HO5.out _
      case o3=>
       have hnb:=heap_alloc_new (w4.setCell ⟨w3.heap.size,1,none⟩ (.bool mk)) (.cells #[.int .i64 x,.bool mk] 66)
       rw [World.size_setCell] at hnb
       exact World.news_of_block (cs:=#[.int .i64 x,.bool mk]) (t:=66) (fr:=(0,0)) hnb
      case o4=>simp [Value.oneCell']
      case o5=>exact LM.out
      case o6=>exact L8.out
      case o7=>simp;omega
      case o9=>rfl
      case o8=>
       intro gg cap2 w6 hown6 hgrow6 hat6 hlt6
       have hb6:Below w2.heap.size w2 w6:=below_grown (HB5.out.alloc (by first | omega | (simp;omega)) _) (by simp;omega) hgrow6 HRW.out
       have HB6:Hid _:=hb6
       have HO6:Hid (w6.ownsRow w2.heap.size 66 2 (.slice (some ⟨gg,0,none⟩) (s*wn+(i+1)) cap2) (s*wn+(i+1)) (bksL (blkF M.c S.log) wn (s*wn+(i+1)))):=by
        unfold Hid
        rw [show s*wn+(i+1)=s*wn+i+1 by omega,HBS'.out]
        exact hown6
       clear hown6 hgrow6 hat6 hb6
       go_wp2_with fail
       go_roundw
       case rel=>first | exact ⟨i+1,_,cap2,by omega,by go_num,rfl,HO6.out,HB6.out⟩ | ((repeat apply Exists.intro);exact ⟨⟨i+1,_,cap2,by omega,by go_num,rfl,HO6.out,HB6.out⟩,rfl⟩)
       case measure=>simp [intOf];omega
     ·
      have HBS':Hid (bksL (blkF M.c S.log) wn (s*wn+i+1)=bksL (blkF M.c S.log) wn (s*wn+i)++[.int .i64 (liesF M.c s i S.log),.bool false]):=by
       unfold Hid;rw [HBS.out,if_neg hx0]
      clear HBS
      generalize liesF M.c s i S.log=x at *
      have HR5:Hid (Row (w3.alloc (.cells #[.int .i64 x,.bool false] 66)) w3.heap.size [.int .i64 x,.bool false] 66):=heap_alloc_new w3 _
      have HB5:Hid (Below w2.heap.size w2 (w3.alloc (.cells #[.int .i64 x,.bool false] 66))):=HB3.out.alloc s3 _
      have HO5:Hid ((w3.alloc (.cells #[.int .i64 x,.bool false] 66)).ownsRow w2.heap.size 66 2 (.slice ka (s*wn+i) kc) (s*wn+i) (bksL (blkF M.c S.log) wn (s*wn+i))):=World.ownsRow.alloc HO3.out _
      have s5:=HB5.out.size
      rw [World.size_alloc] at s5
      clear HO3
      go_wp2_with (at_builtin;refine wpList_append_lies _ rfl _ _ 64 rfl w2.heap.size 66 i0 _ 2 16 Tryz.underlying64 hi0 hz0 hz1 hz2 rfl (by decide) (.slice ka (s*wn+i) kc) (s*wn+i) (bksL (blkF M.c S.log) wn (s*wn+i)) rfl ?o1 ⟨w3.heap.size+1,0,none⟩ 1 1 [.int .i64 x,.bool false] ?o9 rfl ?o3 ?o4 (by omega) ?o5 ?o6 ?o7 _ rfl ?o8)
      case o1=>exact World.ownsRow.alloc HO5.out _
      case o3=>
       have hnb:=heap_alloc_new (w3.alloc (.cells #[.int .i64 x,.bool false] 66)) (.cells #[.int .i64 x,.bool false] 66)
       rw [World.size_alloc] at hnb
       exact World.news_of_block (cs:=#[.int .i64 x,.bool false]) (t:=66) (fr:=(0,0)) hnb
      case o4=>simp [Value.oneCell']
      case o5=>exact LM.out
      case o6=>exact L8.out
      case o7=>simp;omega
      case o9=>rfl
      case o8=>
       intro gg cap2 w6 hown6 hgrow6 hat6 hlt6
       have hb6:Below w2.heap.size w2 w6:=below_grown (HB5.out.alloc (by first | omega | (simp;omega)) _) (by simp;omega) hgrow6 HRW.out
       have HB6:Hid _:=hb6
       have HO6:Hid (w6.ownsRow w2.heap.size 66 2 (.slice (some ⟨gg,0,none⟩) (s*wn+(i+1)) cap2) (s*wn+(i+1)) (bksL (blkF M.c S.log) wn (s*wn+(i+1)))):=by
        unfold Hid
        rw [show s*wn+(i+1)=s*wn+i+1 by omega,HBS'.out]
        exact hown6
       clear hown6 hgrow6 hat6 hb6
       go_wp2_with fail
       go_roundw
       case rel=>first | exact ⟨i+1,_,cap2,by omega,by go_num,rfl,HO6.out,HB6.out⟩ | ((repeat apply Exists.intro);exact ⟨⟨i+1,_,cap2,by omega,by go_num,rfl,HO6.out,HB6.out⟩,rfl⟩)
       case measure=>simp [intOf];omega
    ·
     have ei:i=wn:=by omega
     subst ei
     have e1:s*i+i=(s+1)*i:=by rw [Nat.succ_mul]
     have HO3:Hid (wr.ownsRow w2.heap.size 66 2 (.slice ka ((s+1)*i) kc) ((s+1)*i) (bksL (blkF M.c S.log) i ((s+1)*i))):=by unfold Hid;rw [← e1];exact HO2.out
     clear hown hb
     go_wp2_with fail
     go_roundw
     case rel=>exact ⟨s+1,ka,kc,by omega,by go_num,by rw [e1],HO3.out,HB2'.out⟩
     case measure=>simp [intOf];omega
  ·
   have es:s=ns:=by omega
   subst es
   clear hown hb
   go_wp2
   go_ret2
   refine ⟨la,lc,rfl,?_,below_step HB2.out HB.out rfl⟩
   rw [HSE.out]
   exact owns_base HO.out HB2.out.size
set_option maxHeartbeats 1600000 in
theorem rFar_bad (L:RLoc)(M:RDat)(d:Int)(w:World)(h:RefM w L M)(hd:d<0∨M.c.domains≤d) :
  Calls Tryz.prog 48 #[.pointer (some ⟨L.gr,0,none⟩),.int .i64 d] w fun e w'=>e = .returned (.tuple #[.slice none 0 0,.int .i64 6])∧w'=w:=by
 have m1:w.cell? ⟨L.gr,1,none⟩=some (.int .i64 M.c.domains):=by rw [h.row.cell];rfl
 have cases:d<0∨(0≤d∧M.c.domains≤d):=by omega
 clear h hd
 rcases cases with b1|⟨b1,b2⟩
 all_goals
  go_enter Tryz.func48,Tryz.ntmps48
  go_wp2
  go_ret2
  exact ⟨rfl,rfl⟩
theorem Tryz.infoBks:(Tryz.prog.info? 64).map (fun i=>(i.zero,i.size,i.bytes))=some (some (.slice none 0 0),1,24):=by kernel_rfl
theorem markL_len (mk:List Value):∀ l:Nat,(markL mk l).length=l*mk.length
 | 0=>by simp [markL]
 | l+1=>by rw [markL,List.length_append,markL_len mk l,Nat.succ_mul];omega
theorem marks_all {A:List Value}{en l:Nat}(hl:A.length=l*2)(h:∀ x,x<l→A[x*2]? = some (.int .i64 (-1000-(en:Int)))∧A[x*2+1]? = some (.bool true)):A=markL (markB en) l:=by
 apply List.ext_getElem?
 intro i
 by_cases hi:i<l*2
 ·
  have e:i=i / 2*2+i%2:=by omega
  have hm:i%2=0∨i%2=1:=by omega
  obtain ⟨a1,a2⟩:=h (i / 2) (by omega)
  rw [e,markL_at (markB en) 2 rfl l (i / 2) (i%2) (by omega) (by omega)]
  rcases hm with q|q <;> rw [q]
  · exact a1
  · exact a2
 · rw [List.getElem?_eq_none (by omega),List.getElem?_eq_none (by rw [markL_len];show l*2≤i;omega)]
theorem bks_congr {f g:Nat→Nat→Bk}{wn n:Nat}(h:∀ i,i<n→(f (i / wn) (i%wn)).line=(g (i / wn) (i%wn)).line∧(f (i / wn) (i%wn)).mkd=(g (i / wn) (i%wn)).mkd):bksL f wn n=bksL g wn n:=by
 induction n with
 | zero=>rfl
 | succ n ih=>rw [bks_succ,bks_succ,ih (fun i hi=>h i (by omega)),(h n (by omega)).1,(h n (by omega)).2]
theorem owns_block {w:World}{base:Nat}{e:TypeId}{size:Nat}{la:Option Addr}{len lc:Nat}{xs:List Value}(h:w.ownsRow base e size (.slice la len lc) len xs)(h0:0<len):∃ g A,la=some ⟨g,0,none⟩∧base≤g∧Row w g A e∧A.length=lc*size∧len≤lc∧lc≤9223372036854775807∧∀ i,i<len*size→A[i]? = xs[i]? := by
 obtain ⟨h1,h2⟩:=h
 rcases h2 with ⟨_,h4⟩|⟨g,cap,cur,hv,hg,hh,hn',hm,hs,ht⟩
 · omega
 ·
  simp only [Value.slice.injEq] at hv
  obtain ⟨e1,e2,e3⟩:=hv
  subst e3
  refine ⟨g,cur.toList,e1,hg,by unfold Row;simpa using hh,by simpa using hs,hn',by unfold maxLen at hm;omega,fun i hi=>?_⟩
  rw [← ht,List.getElem?_take,if_pos hi]
set_option maxHeartbeats 6400000 in
theorem fared_good (W w:World)(o:Own)(ea:Option Addr)(en ec:Nat)(e p:Value)(ts:List Int)(os:List (Int × Int × Int))(zone:Nat→Option Nat)(n:Nat)(X:Nat→XLoc)(m:Nat→Mh)(L:Nat→RLoc)(M:Nat→RDat)(ma:Option Addr)(mc:Nat)(h:MI W w o e p (.slice ea en ec) ts os zone n X m L M ma mc)
  (aE:Nat→Option Addr) (lE:Nat→Nat) (hE:Outs w W.heap.size 64 66 markB (.slice ea en ec) en aE lE) (hEz:∀ g,OB (.slice ea en ec) en aE lE g→¬MZ W.heap.size o zone (.slice ma n mc) g) (j:Nat) (hj:j<n) (d:Nat) (hd:(d:Int)<(M j).c.domains) (hbig:(en+1)*24≤140737488355328) :
  Calls Tryz.prog 18 #[.pointer (some ⟨W.heap.size,0,none⟩),.agg (prA (X j).g (L j).gr),.int .i64 d] w fun x w'=>x = .returned (.bool true)∧∃ ea' ec' aE' lE',MI W w' o e p (.slice ea' (en+1) ec') ts os zone n X m L M ma mc∧Outs w' W.heap.size 64 66 markB (.slice ea' (en+1) ec') (en+1) aE' lE'∧
   Touch (fun g=>g=W.heap.size∨(Value.slice ea en ec).ownBlock=some g) w w'∧∀ g,g<w.heap.size→OB (.slice ea' (en+1) ec') (en+1) aE' lE' g→OB (.slice ea en ec) en aE lE g:=by
 have hb0:Below w.heap.size w (w.alloc (.cells (prA (X j).g (L j).gr) 50)):=(Below.refl _ _).alloc (Nat.le_refl _) _
 have rP:Row (w.alloc (.cells (prA (X j).g (L j).gr) 50)) w.heap.size [.pointer (some ⟨(X j).g,0,none⟩),.pointer (some ⟨(L j).gr,0,none⟩)] 50:=heap_alloc_new w _
 obtain ⟨wb,hwb⟩:∃ wb,w.alloc (.cells (prA (X j).g (L j).gr) 50)=wb:=⟨_,rfl⟩
 rw [hwb] at hb0 rP
 have H0:=h.below hb0
 have hz:=(h.ms.ref j hj).right
 have hT0:=(h.ms.ref j hj).T0
 have hT1:=(h.ms.ref j hj).T1
 have hpd:=h.ms.pair j hj
 have hdc:d<(M j).c.domains.toNat:=by omega
 have hF:=wFar_good (cnOf (M j).c) (X j) (m j) d wb (H0.ms.mach j hj) hdc
 obtain ⟨ns,hns⟩:∃ ns,(cnOf (M j).c).ns=ns:=⟨_,rfl⟩
 obtain ⟨wn,hwn⟩:∃ wn,(cnOf (M j).c).wn d=wn:=⟨_,rfl⟩
 rw [hns,hwn] at hF
 have hns':(M j).c.sets.toNat=ns:=hns
 have hwn':(M j).c.ways.count (d:Int)=wn:=hwn
 have hnsi:(M j).c.sets=(ns:Int):=by have:=(nm_of hz).ns;omega
 have hns0:0<ns:=by have:=(nm_of hz).s0;omega
 have hwn0:0<wn:=by
  have:=(small_iff _).1 (ways_small hz hd)
  omega
 have hwn4:wn≤4:=by
  have:=(small_iff _).1 (ways_small hz hd)
  omega
 have hns4:ns≤4:=by
  obtain ⟨_,_,_,_,_,hsets,_⟩:=shape_bounds (chk_zero hz).1
  omega
 have hl16:ns*wn≤16:=by have:=Nat.mul_le_mul hns4 hwn4;omega
 have hl0:0<ns*wn:=Nat.mul_pos hns0 hwn0
 have hbk:bksL (blkF (M j).c (So.upto (M j).toM d (M j).T.toNat).log) wn (ns*wn)=bksL ((m j).blk d) wn (ns*wn):=bks_congr (fun i hi=>by
  have h1:i / wn<ns:=Nat.div_lt_of_lt_mul (by rw [Nat.mul_comm];exact hi)
  have h2:i%wn<wn:=Nat.mod_lt _ hwn0
  obtain ⟨q1,q2⟩:=farR hpd hz hT1 hd (s:=i / wn) (j:=i%wn) (by omega) (by omega)
  exact ⟨q1.symm,q2.symm⟩)
 have hR:∀ w1:World,Below wb.heap.size wb w1→Calls Tryz.prog 48 #[.pointer (some ⟨(L j).gr,0,none⟩),.int .i64 d] w1 fun x w'=>∃ ra rc,x = .returned (.tuple #[.slice ra (ns*wn) rc,.int .i64 0])∧w'.ownsRow w1.heap.size 66 2 (.slice ra (ns*wn) rc) (ns*wn) (bksL ((m j).blk d) wn (ns*wn))∧Below w1.heap.size w1 w':=fun w1 b1=>by
  have H1:=H0.below b1
  have:=rFar_good (L j) (M j) d w1 (H1.ms.ref j hj) ((h.ms.cfg j hj).below H1.bel (Nat.le_refl _)) (by have:=(h.ms.ref j hj).nd;omega) ns wn hnsi hwn'
  rw [hbk] at this
  exact this
 obtain ⟨len,hlen⟩:∃ len,ns*wn=len:=⟨_,rfl⟩
 rw [hlen] at hF hR hl16 hl0
 have hat:=fun i hi=>bks_at ((m j).blk d) wn (n:=len) (i:=i) hi
 obtain ⟨fl,hfl⟩:∃ fl:Nat→Int,∀ i,((m j).blk d (i / wn) (i%wn)).line=fl i:=⟨_,fun _=>rfl⟩
 obtain ⟨fm,hfm⟩:∃ fm:Nat→Bool,∀ i,((m j).blk d (i / wn) (i%wn)).mkd=fm i:=⟨_,fun _=>rfl⟩
 simp only [hfl,hfm] at hat
 obtain ⟨xs,hxs⟩:∃ xs,bksL ((m j).blk d) wn len=xs:=⟨_,rfl⟩
 rw [hxs] at hF hR
 simp only [hxs] at hat
 have p0:wb.cell? ⟨w.heap.size,0,none⟩=some (.pointer (some ⟨(X j).g,0,none⟩)):=rP.cell 0
 have l0:=rP.lt
 have HWB:Hid _:=hwb
 have HH:Hid _:=h
 have HE:Hid _:=hE
 have HEZ:Hid _:=hEz
 have HP:Hid (Row wb w.heap.size [.pointer (some ⟨(X j).g,0,none⟩),.pointer (some ⟨(L j).gr,0,none⟩)] 50):=rP
 have HB0:Hid _:=hb0
 have HAT:Hid _:=hat
 clear h hE hEz hb0 rP hz hT0 hT1 hpd hwb H0 hdc hns hwn hns' hwn' hnsi hns0 hwn0 hwn4 hns4 hbk hlen hat hfl hfm hxs
 go_enter Tryz.func18,Tryz.ntmps18
 go_wp2_with fail
 rw [HWB.out]
 refine hF.mono ?_;rintro x w1 ⟨la,lc,rfl,hown,b1⟩
 obtain ⟨g,A0,rfl,hg,rT,hA0,hlc,hlm,htk⟩:=owns_block hown hl0
 have rP1:Row w1 w.heap.size [.pointer (some ⟨(X j).g,0,none⟩),.pointer (some ⟨(L j).gr,0,none⟩)] 50:=Row.below HP.out b1 (Row.lt HP.out)
 have p1:w1.cell? ⟨w.heap.size,1,none⟩=some (.pointer (some ⟨(L j).gr,0,none⟩)):=rP1.cell 1
 have l1:=rP1.lt
 have HRT:Hid (Row w1 g A0 66):=rT
 have HB1:Hid _:=b1
 have HTK:Hid _:=htk
 have HA0:Hid _:=hA0
 have hR1:=hR w1 b1
 clear p0 hF rP1 hown rT htk hA0 hR b1
 go_wp2_with fail
 refine hR1.mono ?_;rintro x w2 ⟨ra,rc,rfl,hown2,hb2⟩
 have HB2:Hid _:=hb2
 have HOK:Hid _:=hown2
 clear hR1 hb2 hown2 p1
 have hnl:∀ v:World,(binOp .eql 64 (.slice (some ⟨g,0,none⟩) len lc) (.slice none 0 0)).run Tryz.prog v = .ok (.bool false) v:=fun v=>eql_nil v _ _ _ _ _ Tryz.underlying64
 go_wp2_with fail
 clear hnl
 have HR2:Hid (Row w2 g A0 66):=Row.below HRT.out HB2.out (Row.lt HRT.out)
 have HS0:Hid (w.heap.size<wb.heap.size):=l0
 have S1:=HB1.out.size
 have S2:=HB2.out.size
 go_loopw [11,12] (fun okv u wr=>okv = .bool true∧∃ (q:Nat),q≤len∧u = .int .i64 q∧Below w2.heap.size w2 wr) (fun _ u _=>len-(intOf u).toNat)
 case atStart=>exact ⟨rfl,0,by omega,rfl,Below.refl _ _⟩
 case round=>
  obtain ⟨rfl,q,hq,rfl,hbr⟩:=hrel
  have HBR:Hid _:=hbr
  have rL:Row wr g A0 66:=Row.below HR2.out hbr (Row.lt HR2.out)
  by_cases hlt:q<len
  ·
   obtain ⟨z0,z1⟩:=HAT.out q hlt
   have c0:=((rL.cell _).trans (HTK.out (q*2) (by omega))).trans z0
   have c1:=((rL.cell _).trans (HTK.out (q*2+1) (by omega))).trans z1
   obtain ⟨gk,e1,_,_,e2,e3⟩:=owns_cell HOK.out (by omega)
   subst e1
   have k0:wr.cell? ⟨gk,q*2,none⟩=_:=(hbr.cell (p:=⟨gk,q*2,none⟩) e2).trans ((e3 _ (by omega)).trans z0)
   have k1:wr.cell? ⟨gk,q*2+1,none⟩=_:=(hbr.cell (p:=⟨gk,q*2+1,none⟩) e2).trans ((e3 _ (by omega)).trans z1)
   have lL:=rL.lt
   clear z0 z1 rL e3 hbr
   generalize fl q=v0 at *
   generalize fm q=v1 at *
   go_wp2_with fail
   go_quiet (fail)
   go_wp2_with fail
   go_roundw
   case rel=>exact ⟨by simp,q+1,by omega,by go_num,HBR.out.trans ⟨rfl,rfl,rfl,Nat.le_refl _,fun _ _=>rfl⟩⟩
   case measure=>simp [intOf];omega
  ·
   have HRL:Hid (Row wr g A0 66):=rL
   have HWR:Hid (Below w.heap.size w wr):=((HB0.out.trans (HB1.out.mono (by omega))).trans (HB2.out.mono (by omega))).trans (hbr.mono (by omega))
   have S3:=hbr.size
   clear rL hbr HBR
   go_wp2_with fail
   go_loopw [14] (fun u wv=>∃ (q:Nat) (A:List Value),q≤lc∧u = .int .i64 q∧A.length=lc*2∧(∀ x,x<q→A[x*2]? = some (.int .i64 (-1000-(en:Int)))∧A[x*2+1]? = some (.bool true))∧Row wv g A 66∧Below w.heap.size w wv∧w2.heap.size≤wv.heap.size) (fun u _=>lc-(intOf u).toNat)
   case atStart=>exact ⟨0,A0,by omega,rfl,HA0.out,fun x hx=>by omega,HRL.out,HWR.out,S3⟩
   case round=>
    obtain ⟨q2,A,hq2,rfl,hA,hm,rA,hbv,sv⟩:=hrel
    have rW:Row wr W.heap.size (ownL o (.slice ma n mc) e p (.slice ea en ec)) 34:=Row.below HH.out.ws.row hbv HH.out.ws.row.lt
    have g4:wr.cell? ⟨W.heap.size,6,none⟩=some (.slice ea en ec):=rW.cell 6
    have lW:=rW.lt
    have lA:=rA.lt
    have HRA:Hid (Row wr g A 66):=rA
    have HBV:Hid _:=hbv
    have HM:Hid _:=hm
    have HA:Hid _:=hA
    by_cases hlt2:q2<lc
    ·
     have b1:Below wr.heap.size wr (wr.alloc (.cells #[.int .i64 (-1000-(en:Int)),.bool true] 66)):=(Below.refl _ _).alloc (Nat.le_refl _) _
     have rB:Row (wr.alloc (.cells #[.int .i64 (-1000-(en:Int)),.bool true] 66)) g A 66:=Row.below rA b1 rA.lt
     have hK:=kmarkBlock_any en (by omega) wr
     obtain ⟨wn,hwn⟩:∃ wn,wr.alloc (.cells #[.int .i64 (-1000-(en:Int)),.bool true] 66)=wn:=⟨_,rfl⟩
     rw [hwn] at b1 rB hK
     obtain ⟨v0,hv0⟩:∃ v0,A[q2*2]? = some v0:=⟨_,List.getElem?_eq_getElem (by omega)⟩
     obtain ⟨v1,hv1⟩:∃ v1,A[q2*2+1]? = some v1:=⟨_,List.getElem?_eq_getElem (by omega)⟩
     have c0:=(rB.cell _).trans hv0
     have c1:=(rB.cell _).trans hv1
     have f0:=rB.frozen (q2*2)
     have f1:=rB.frozen (q2*2+1)
     have lB:=rB.lt
     have HRB:Hid (Row wn g A 66):=rB
     have HB1':Hid _:=b1
     clear rA rW rB b1 hbv hm hA hwn hv0 hv1
     go_wp2_with fail
     refine hK.mono ?_;rintro x wk ⟨rfl,rfl⟩
     clear g4
     go_wp2_with fail
     go_roundw
     case rel=>
      have sB:=HB1'.out.size
      have hAl:A.length=lc*2:=HA.out
      refine ⟨q2+1,(A.set (q2*2) (.int .i64 (-1000-(en:Int)))).set (q2*2+1) (.bool true),by omega,by go_num,by rw [List.length_set,List.length_set];exact HA.out,fun x hx=>?_,?_,?_,?_⟩
      ·
       by_cases e:x=q2
       ·
        subst e
        rw [List.getElem?_set_ne (by omega),List.getElem?_set_self (by omega),List.getElem?_set_self (by rw [List.length_set];omega)]
        exact ⟨rfl,rfl⟩
       ·
        rw [List.getElem?_set_ne (by omega),List.getElem?_set_ne (by omega),List.getElem?_set_ne (by omega),List.getElem?_set_ne (by omega)]
        exact HM.out x (by omega)
      · exact (Row.setCell HRB.out (q2*2) (.int .i64 (-1000-(en:Int)))).setCell (q2*2+1) (.bool true)
      ·
       have b2:=below_step HBV.out HB1'.out rfl
       exact (b2.setCell (p:=⟨g,q2*2,none⟩) (by show w.heap.size≤g;omega) _).setCell (p:=⟨g,q2*2+1,none⟩) (by show w.heap.size≤g;omega) _
      ·
       simp only [World.size_setCell]
       omega
     case measure=>simp [intOf];omega
    ·
     have eq2:q2=lc:=by omega
     have rM:Row wr g (markL (markB en) lc) 66:=by
      rw [marks_all hA (fun x hx=>hm x (by omega))] at rA
      exact rA
     have HRM:Hid (Row wr g (markL (markB en) lc) 66):=rM
     have HO:Hid (wr.ownsRow W.heap.size 64 1 (.slice ea en ec) en ((List.range en).map fun i=>.slice (aE i) (lE i) (lE i))):=owns_same HE.out.row (fun g hg=>hbv.block g (owns_lt HE.out.row g hg).1)
     have HRW:Hid (Row wr W.heap.size (ownL o (.slice ma n mc) e p (.slice ea en ec)) 34):=rW
     have ag:(Value.slice ea en ec).ownBlock≠some W.heap.size:=own_ne HO.out rW (by decide)
     obtain ⟨i0,hi0,hz0,hz1,hz2⟩:=info_parts Tryz.infoBks
     have HBIG:Hid _:=hbig
     have HSZ:Hid (W.heap.size≤w.heap.size):=HH.out.bel.size
     clear rA rM rW hbv hm hA hbig
     go_wp2_with (at_builtin;refine wpList_append_lies _ rfl _ _ 32 rfl W.heap.size 64 i0 _ 1 24 Tryz.underlying32 hi0 hz0 hz1 hz2 rfl (by decide) (.slice ea en ec) en ((List.range en).map fun i=>.slice (aE i) (lE i) (lE i)) rfl ?p1 ⟨wr.heap.size,0,none⟩ 1 1 [.slice (some ⟨g,0,none⟩) lc lc] ?p9 rfl ?p3 ?p4 (by omega) ?p5 ?p6 ?p7 _ rfl ?p8)
     case p1=>exact World.ownsRow.alloc HO.out _
     try case p3=>exact World.news_of_block (cs:=#[.slice (some ⟨g,0,none⟩) lc lc]) (t:=64) (fr:=(0,0)) (heap_alloc_new wr _)
     case p4=>simp [Value.oneCell']
     case p5=>have:=HBIG.out;unfold maxLen;omega
     case p6=>exact HBIG.out
     case p7=>simp;omega
     try case p9=>rfl
     case p8=>
      intro gg cap w8 hown8 hgrow hat hlt8
      have f2:w8.frozen? ⟨W.heap.size,6,none⟩=false:=(hgrow.frozen_far ⟨W.heap.size,6,none⟩ (by simp;omega) (Ne.symm ag)).trans ((Row.alloc HRW.out _).frozen 6)
      have c4:w8.cell? ⟨W.heap.size,6,none⟩=some (.slice ea en ec):=(hgrow.cell_far ⟨W.heap.size,6,none⟩ (by simp;omega) (Ne.symm ag)).trans ((Row.alloc HRW.out _).cell 6)
      have HA:Hid _:=Outs.done (f:=6) HH.out HE.out (by decide) (by decide) (by decide) HBV.out (show lc≤9223372036854775807 by omega) (fun _=>⟨g,rfl,by omega,HRM.out⟩) ((Below.refl _ _).alloc (Nat.le_refl _) _) hgrow hown8 (hat.imp id (fun q=>by have:=HBV.out.size;first | omega | (simp at q;omega) | (rw [q];simp;omega)))
      clear hown8 hgrow hat
      go_wp2
      go_ret
      obtain ⟨g1,g2,g3,g5⟩:=HA.out
      exact ⟨rfl,some ⟨gg,0,none⟩,cap,_,_,HH.out.out (K:=fun g=>(Value.slice ea en ec).ownBlock=some g) g1 g3 (fun g hg=>⟨(HE.out.lt (Or.inl hg)).1,HEZ.out g (Or.inl hg)⟩),g2,g3,g5⟩
set_option maxHeartbeats 6400000 in
theorem fared_bad (W w:World)(o:Own)(ea:Option Addr)(en ec:Nat)(e p:Value)(ts:List Int)(os:List (Int × Int × Int))(zone:Nat→Option Nat)(n:Nat)(X:Nat→XLoc)(m:Nat→Mh)(L:Nat→RLoc)(M:Nat→RDat)(ma:Option Addr)(mc:Nat)(h:MI W w o e p (.slice ea en ec) ts os zone n X m L M ma mc)
  (aE:Nat→Option Addr) (lE:Nat→Nat) (hE:Outs w W.heap.size 64 66 markB (.slice ea en ec) en aE lE) (hEz:∀ g,OB (.slice ea en ec) en aE lE g→¬MZ W.heap.size o zone (.slice ma n mc) g) (j:Nat) (hj:j<n) (d:Int) (hd:d<0∨(M j).c.domains≤d) (hbig:(en+1)*24≤140737488355328) :
  Calls Tryz.prog 18 #[.pointer (some ⟨W.heap.size,0,none⟩),.agg (prA (X j).g (L j).gr),.int .i64 d] w fun x w'=>x = .returned (.bool true)∧∃ ea' ec' aE' lE',MI W w' o e p (.slice ea' (en+1) ec') ts os zone n X m L M ma mc∧Outs w' W.heap.size 64 66 markB (.slice ea' (en+1) ec') (en+1) aE' lE'∧
   Touch (fun g=>g=W.heap.size∨(Value.slice ea en ec).ownBlock=some g) w w'∧∀ g,g<w.heap.size→OB (.slice ea' (en+1) ec') (en+1) aE' lE' g→OB (.slice ea en ec) en aE lE g:=by
 have hb0:Below w.heap.size w (w.alloc (.cells (prA (X j).g (L j).gr) 50)):=(Below.refl _ _).alloc (Nat.le_refl _) _
 have rP:Row (w.alloc (.cells (prA (X j).g (L j).gr) 50)) w.heap.size [.pointer (some ⟨(X j).g,0,none⟩),.pointer (some ⟨(L j).gr,0,none⟩)] 50:=heap_alloc_new w _
 obtain ⟨wb,hwb⟩:∃ wb,w.alloc (.cells (prA (X j).g (L j).gr) 50)=wb:=⟨_,rfl⟩
 rw [hwb] at hb0 rP
 have H0:=h.below hb0
 have hF:=wFar_bad (cnOf (M j).c) (X j) (m j) d wb (H0.ms.mach j hj) hd
 have hR:=rFar_bad (L j) (M j) d wb (H0.ms.ref j hj) hd
 have p0:wb.cell? ⟨w.heap.size,0,none⟩=some (.pointer (some ⟨(X j).g,0,none⟩)):=rP.cell 0
 have p1:wb.cell? ⟨w.heap.size,1,none⟩=some (.pointer (some ⟨(L j).gr,0,none⟩)):=rP.cell 1
 have l0:=rP.lt
 have rW:Row wb W.heap.size (ownL o (.slice ma n mc) e p (.slice ea en ec)) 34:=H0.ws.row
 have g4:wb.cell? ⟨W.heap.size,6,none⟩=some (.slice ea en ec):=rW.cell 6
 have lW:=rW.lt
 have hnl:∀ v:World,(binOp .eql 64 (.slice none 0 0) (.slice none 0 0)).run Tryz.prog v = .ok (.bool true) v:=fun v=>eql_nil v _ _ _ _ _ Tryz.underlying64
 have HO:Hid (wb.ownsRow W.heap.size 64 1 (.slice ea en ec) en ((List.range en).map fun i=>.slice (aE i) (lE i) (lE i))):=owns_same hE.row (fun g hg=>hb0.block g (owns_lt hE.row g hg).1)
 have HRW:Hid (Row wb W.heap.size (ownL o (.slice ma n mc) e p (.slice ea en ec)) 34):=rW
 have ag:(Value.slice ea en ec).ownBlock≠some W.heap.size:=own_ne HO.out rW (by decide)
 obtain ⟨i0,hi0,hz0,hz1,hz2⟩:=info_parts Tryz.infoBks
 have HBIG:Hid _:=hbig
 have HSZ:Hid (W.heap.size≤w.heap.size):=h.bel.size
 have HWB:Hid _:=hwb
 have HH:Hid _:=h
 have HE:Hid _:=hE
 have HEZ:Hid _:=hEz
 have HBV:Hid _:=hb0
 clear h hE hEz hb0 rP rW hwb H0 hbig hd
 go_enter Tryz.func18,Tryz.ntmps18
 go_wp2_with fail
 rw [HWB.out]
 refine hF.mono ?_;rintro x v1 ⟨rfl,rfl⟩
 go_wp2_with fail
 refine hR.mono ?_;rintro x v2 ⟨rfl,rfl⟩
 go_wp2_with fail
 refine wp_loop_rounds 1 ?_
 rw [rounds_succ]
 go_wp2_with fail
 refine wp_loop_rounds 1 ?_
 rw [rounds_succ]
 clear p0 p1 hnl
 go_wp2_with (at_builtin;refine wpList_append_lies _ rfl _ _ 32 rfl W.heap.size 64 i0 _ 1 24 Tryz.underlying32 hi0 hz0 hz1 hz2 rfl (by decide) (.slice ea en ec) en ((List.range en).map fun i=>.slice (aE i) (lE i) (lE i)) rfl ?p1 ⟨v2.heap.size,0,none⟩ 1 1 [.slice none 0 0] ?p9 rfl ?p3 ?p4 (by omega) ?p5 ?p6 ?p7 _ rfl ?p8)
 case p1=>exact World.ownsRow.alloc HO.out _
 try case p3=>exact World.news_of_block (cs:=#[.slice none 0 0]) (t:=64) (fr:=(0,0)) (heap_alloc_new v2 _)
 case p4=>simp [Value.oneCell']
 case p5=>have:=HBIG.out;unfold maxLen;omega
 case p6=>exact HBIG.out
 case p7=>have:=HBV.out.size;have:=HSZ.out;simp;omega
 try case p9=>rfl
 case p8=>
  intro gg cap w8 hown8 hgrow hat hlt8
  have f2:w8.frozen? ⟨W.heap.size,6,none⟩=false:=(hgrow.frozen_far ⟨W.heap.size,6,none⟩ (by simp;omega) (Ne.symm ag)).trans ((Row.alloc HRW.out _).frozen 6)
  have c4:w8.cell? ⟨W.heap.size,6,none⟩=some (.slice ea en ec):=(hgrow.cell_far ⟨W.heap.size,6,none⟩ (by simp;omega) (Ne.symm ag)).trans ((Row.alloc HRW.out _).cell 6)
  have HA:Hid _:=Outs.done (f:=6) (a':=none) (l':=0) HH.out HE.out (by decide) (by decide) (by decide) HBV.out (show 0≤9223372036854775807 by omega) (fun q=>absurd rfl q) ((Below.refl _ _).alloc (Nat.le_refl _) _) hgrow hown8 (hat.imp id (fun q=>by have:=HBV.out.size;first | omega | (simp at q;omega) | (rw [q];simp;omega)))
  clear hown8 hgrow hat
  go_wp2
  go_ret
  obtain ⟨g1,g2,g3,g5⟩:=HA.out
  exact ⟨rfl,some ⟨gg,0,none⟩,cap,_,_,HH.out.out (K:=fun g=>(Value.slice ea en ec).ownBlock=some g) g1 g3 (fun g hg=>⟨(HE.out.lt (Or.inl hg)).1,HEZ.out g (Or.inl hg)⟩),g2,g3,g5⟩
theorem IY.far {W:World}{ca:Option Addr}{cl cc:Nat}{Z:Nat→Prop}{k:Nat}{wr:World}(h:IY W ca cl cc Z k wr)(st:St)(hr:StR st)(hk:st.k=19)(hz:k*40≤140737488351232) :
  Calls Tryz.prog 9 #[.pointer (some ⟨W.heap.size,0,none⟩),opV st] wr fun x w'=>x = .returned (.bool true)∧StepY W ca cl cc Z k wr w':=by
 have hI:=h
 obtain ⟨o,ts,os,zone,n,X,m,L,M,ma,mc,D,h1,h4,hO,hb,hD,rfl⟩:=h
 by_cases hp:n=0
 ·
  subst hp
  refine (step_noms W.heap.size W.heap.size o mc ma _ _ _ ts os st wr h4.ws (by omega) (by omega)).mono ?_
  rintro x w' ⟨rfl,b⟩
  exact ⟨rfl,hI.same b⟩
 ·
  obtain ⟨g,e1,e2,e3,e4,_⟩:=h4.pair (j:=0) (by omega)
  subst e1
  refine step_fared W.heap.size W.heap.size o n mc g _ _ _ ts os st wr h4.ws hr hk (by omega) e2 e3 e4 (fun j=>(X j).g) (fun j=>(L j).gr) (fun j hj=>?_) (fun w'=>StepY W ca cl cc _ k wr w') (fun j w2 hj hbw=>?_)
  ·
   obtain ⟨g',q1,_,_,_,q5,q6⟩:=h4.pair hj
   simp only [Option.some.injEq,Addr.mk.injEq,and_true] at q1
   subst q1
   exact ⟨q5,q6⟩
  ·
   have I2:=h4.below hbw
   have O2:=hO.below hbw
   have up:∀ w',(∃ ba' bc' aB' lB',MI W w' o D.e D.p (.slice ba' (D.bn+1) bc') ts os zone n X m L M (some ⟨g,0,none⟩) mc∧Outs w' W.heap.size 64 66 markB (.slice ba' (D.bn+1) bc') (D.bn+1) aB' lB'∧Touch (fun g=>g=W.heap.size∨D.b.ownBlock=some g) w2 w'∧∀ g,g<w2.heap.size→OB (.slice ba' (D.bn+1) bc') (D.bn+1) aB' lB' g→OB D.b D.bn D.aB D.lB g)→StepY W ca cl cc (fun g'=>MZ W.heap.size o zone (.slice (some ⟨g,0,none⟩) n mc) g'∨D.OA g') k wr w':=fun w' hA=>by
    obtain ⟨ba',bc',aB',lB',g1,g2,g3,g5⟩:=hA
    obtain ⟨b1,b2,b3⟩:=hD
    have kp:∀ {rt et:TypeId} {mark:Nat→List Value} {v:Value} {c:Nat} {a:Nat→Option Addr} {l:Nat→Nat},Outs w2 W.heap.size rt et mark v c a l→34≠rt→34≠et→64≠rt→64≠et→Outs w' W.heap.size rt et mark v c a l:=fun ho n1 n2 n3 n4=>ho.same (fun g' hg'=>g3.block g' (ho.lt hg').2 (fun q=>by
     rcases q with q|q
     · subst q;exact ho.not I2.ws.row n1 n2 hg'
     ·
      obtain ⟨A,hA⟩:=owns_row O2.ob.row q
      exact ho.not hA n3 n4 hg'))
    exact StepY.low (IY.gives (D':={ D with ba:=ba',bn:=D.bn+1,bc:=bc',aB:=aB',lB:=lB' }) D.b h1 I2 O2 hb ⟨by show D.en≤k+1;omega,by show D.pn≤k+1;omega,by show D.bn+1≤k+1;omega⟩ g1 g3 (fun g' q=>Or.inr (Or.inr (Or.inl q))) (kp O2.oe (by decide) (by decide) (by decide) (by decide)) (kp O2.op (by decide) (by decide) (by decide) (by decide)) g2 (fun g' hg' q=>q.imp id (fun q=>q.imp id (g5 g' hg')))) hbw
   have hEz:∀ g',OB D.b D.bn D.aB D.lB g'→¬MZ W.heap.size o zone (.slice (some ⟨g,0,none⟩) n mc) g':=fun g' q=>O2.apart g' (Or.inr (Or.inr q))
   by_cases hd:st.b<0∨(M j).c.domains≤st.b
   ·
    refine (fared_bad W w2 o D.ba D.bn D.bc D.e D.p ts os zone n X m L M _ mc I2 D.aB D.lB O2.ob hEz j hj st.b hd (by have:=hD.2.2;omega)).mono ?_
    rintro x w' ⟨rfl,hA⟩
    exact ⟨rfl,up w' hA⟩
   ·
    obtain ⟨d,hdd⟩:=Int.eq_ofNat_of_zero_le (show 0≤st.b by omega)
    rw [hdd]
    refine (fared_good W w2 o D.ba D.bn D.bc D.e D.p ts os zone n X m L M _ mc I2 D.aB D.lB O2.ob hEz j hj d (by omega) (by have:=hD.2.2;omega)).mono ?_
    rintro x w' ⟨rfl,hA⟩
    exact ⟨rfl,up w' hA⟩
theorem IY.memory {W:World}{ca:Option Addr}{cl cc:Nat}{Z:Nat→Prop}{k:Nat}{wr:World}(h:IY W ca cl cc Z k wr)(st:St)(hr:StR st)(hk:st.k=20) :
  Calls Tryz.prog 9 #[.pointer (some ⟨W.heap.size,0,none⟩),opV st] wr fun x w'=>x = .returned (.bool true)∧StepY W ca cl cc Z k wr w':=by
 have hI:=h
 obtain ⟨o,ts,os,zone,n,X,m,L,M,ma,mc,D,h1,h4,hO,hb,hD,rfl⟩:=h
 by_cases hp:n=0
 ·
  subst hp
  refine (step_noms W.heap.size W.heap.size o mc ma _ _ _ ts os st wr h4.ws (by omega) (by omega)).mono ?_
  rintro x w' ⟨rfl,b⟩
  exact ⟨rfl,hI.same b⟩
 ·
  obtain ⟨g,e1,e2,e3,e4,_⟩:=h4.pair (j:=0) (by omega)
  subst e1
  refine (step_memory W.heap.size W.heap.size o n mc g _ _ _ ts os st wr h4.ws hr hk (by omega) e2 e3 e4 (fun j=>(X j).g) (fun j=>(L j).gr) (fun j hj=>?_) (fun j w2 hj hbw=>?_)).mono ?_
  ·
   obtain ⟨g',q1,_,_,_,q5,q6⟩:=h4.pair hj
   simp only [Option.some.injEq,Addr.mk.injEq,and_true] at q1
   subst q1
   exact ⟨q5,q6⟩
  ·
   have I2:=h4.below hbw
   have hz:=(h4.ms.ref j hj).right
   by_cases hbad:st.b<0∨(M j).c.domains≤st.b∨st.c<0∨(M j).c.priv+(M j).c.shared≤st.c
   ·
    refine ⟨0,6,wMemory_bad (cnOf (M j).c) (X j) (m j) st.b st.c w2 (I2.ms.mach j hj) hbad,fun w3 hb3=>?_⟩
    exact rMemory_bad (L j) (M j) st.b st.c w3 ((I2.below hb3).ms.ref j hj) hbad
   ·
    obtain ⟨d,hd⟩:=Int.eq_ofNat_of_zero_le (show 0≤st.b by omega)
    obtain ⟨a,ha⟩:=Int.eq_ofNat_of_zero_le (show 0≤st.c by omega)
    rw [hd,ha]
    have hN:=nm_of hz
    have p1:=hN.pv
    have p2:=hN.sn
    refine ⟨_,0,wMemory_good (cnOf (M j).c) (X j) (m j) d a w2 (I2.ms.mach j hj) (by have:=hN.nd;omega) (by omega),fun w3 hb3=>?_⟩
    have I3:=I2.below hb3
    have hR:=rMemory_good (L j) (M j) d a w3 (I3.ms.ref j hj) ((h4.ms.cfg j hj).below I3.bel (Nat.le_refl _)) (by have:=(h4.ms.ref j hj).nd;omega) (by omega) (by omega)
    rw [← memR (h4.ms.pair j hj) hz (h4.ms.ref j hj).T1 (d:=d) (by omega) (a:=a) (by omega)] at hR
    exact hR
  ·
   rintro x w' ⟨rfl,b⟩
   exact ⟨rfl,hI.same b⟩
end Go.Proofs.YtehheaedbnfidaaGreat
