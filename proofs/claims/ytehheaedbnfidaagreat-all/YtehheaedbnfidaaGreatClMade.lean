import Derived.Test.YtehheaedbnfidaaGreatClWLentT
import Derived.Test.YtehheaedbnfidaaGreatClWNewI
set_option maxRecDepth 100000
namespace Go.Proofs.YtehheaedbnfidaaGreat
open Go.RowKit
attribute [local go_sem] Tryz.nilInts Tryz.nilGrid
theorem Tryz.infoPair:(Tryz.prog.info? 50).map (fun i=>(i.zero,i.size,i.bytes))=some (some (.agg #[.pointer none,.pointer none]),2,16):=by kernel_rfl
def AfterN (W w w':World)(o:Own)(e p b:Value)(ts:List Int)(os:List (Int × Int × Int))(zone:Nat→Option Nat)(n:Nat)(ma:Option Addr)(mc:Nat):Prop:=
 ∃ n' ma' mc' zone' X' m' L' M',n'≤n+1∧MI W w' o e p b ts os zone' n' X' m' L' M' ma' mc'∧Touch (MZ W.heap.size o zone (.slice ma n mc)) w w'∧∀ b,b<w.heap.size→MZ W.heap.size o zone' (.slice ma' n' mc') b→MZ W.heap.size o zone (.slice ma n mc) b
set_option maxHeartbeats 3200000 in
theorem made_bad (W w:World)(o:Own)(e p b:Value)(ts:List Int)(os:List (Int × Int × Int))(zone:Nat→Option Nat)(n:Nat)(X:Nat→XLoc)(m:Nat→Mh)(L:Nat→RLoc)(M:Nat→RDat)(ma:Option Addr)(mc:Nat)(h:MI W w o e p b ts os zone n X m L M ma mc)(c:Cf)(s:Sl)(hC:CfgAt W c s)(hc:CfR c)(hz:chk c≠0) :
  Calls Tryz.prog 14 #[.pointer (some ⟨W.heap.size,0,none⟩),cfgV c s] w fun x w'=>x = .returned (.bool true)∧AfterN W w w' o e p b ts os zone n ma mc:=by
 have bW:Below w.heap.size w (w.alloc (.cells (cfgA c s) 43)):=(Below.refl _ _).alloc (Nat.le_refl _) _
 have rC:Row (w.alloc (.cells (cfgA c s) 43)) w.heap.size (cfgL c s) 43:=heap_alloc_new w _
 have hW:=(hC.below h.bel (Nat.le_refl _)).below bW (Nat.le_refl _)
 have sW:(w.alloc (.cells (cfgA c s) 43)).heap.size=w.heap.size+1:=by simp
 have HZ:Hid _:=hz
 have HH:Hid _:=h
 clear h hz
 go_enter Tryz.func14,Tryz.ntmps14
 go_wp2_with fail
 generalize w.alloc (.cells (cfgA c s) 43)=wc at *
 have SW:Hid _:=sW
 clear sW
 refine (lent_any c s wc hW hc).mono ?_
 rintro x w1 ⟨s1,la,ll,lc,rfl,b1,l1⟩
 have q1:=row_q (rC.below b1 rC.lt)
 have z1:w.heap.size<w1.heap.size:=by have:=b1.size;have:=SW.out;omega
 have B1:Hid _:=b1
 have L1:Hid _:=l1
 clear b1 l1
 go_wp2_with fail
 have bX:Below w1.heap.size w1 (w1.alloc (.cells (cfgA c s1) 43)):=(Below.refl _ _).alloc (Nat.le_refl _) _
 have lX:=LentC.same L1.out bX
 have rC2:=(rC.below B1.out rC.lt).alloc (.cells (cfgA c s1) 43)
 have rL2:Row (w1.alloc (.cells (cfgA c s1) 43)) w1.heap.size (cfgL c s1) 43:=heap_alloc_new w1 _
 have bWX:=below_step B1.out bX rfl
 have BX1:Hid _:=bX
 clear q1 bX
 generalize w1.alloc (.cells (cfgA c s1) 43)=w2 at *
 refine (wnew_bad c s1 w2 (lX.reads hW hc) HZ.out).mono ?_
 rintro x w3 ⟨rfl,b3⟩
 have rC3:=rC2.below b3 rC2.lt
 have rL3:=rL2.below b3 rL2.lt
 have bW3:=below_step bWX b3 rfl
 have BX3:Hid _:=below_step BX1.out b3 rfl
 have q1:=row_q rC3
 have q2:=row_q rL3
 have zc3:=rC3.lt
 have zl3:=rL3.lt
 clear b3 rC2 rL2 lX bWX
 go_wp2_with fail
 refine (rcheck_any c s w3 (hW.below bW3 (Nat.le_refl _))).mono ?_
 rintro x w4 ⟨rfl,b4⟩
 have rC4:=rC3.below b4 rC3.lt
 have rL4:=rL3.below b4 rL3.lt
 have bW4:=below_step bW3 b4 rfl
 have BX4:Hid _:=below_step BX3.out b4 rfl
 clear q1 q2 zc3 zl3
 have q1:=row_q rC4
 have q2:=row_q rL4
 have zc4:=rC4.lt
 have zl4:=rL4.lt
 clear b4 rC3 rL3 bW3
 go_wp2_with fail
 refine (whole_anyT wc w1 w4 c s s1 la ll lc hW hc B1.out L1.out BX4.out).mono ?_
 rintro x w5 ⟨rfl,b5,_⟩
 have hb5:Below w.heap.size w w5:=bW.trans ((bW4.trans b5).mono bW.size)
 have HA:Hid (AfterN W w w5 o e p b ts os zone n ma mc):=⟨n,ma,mc,zone,X,m,L,M,by omega,HH.out.below hb5,Touch.of_below hb5 (Nat.le_refl _),fun _ _ q=>q⟩
 have he:(chk c != chk c)=false:=by simp
 have hf:(chk c==0)=false:=by have q:chk c≠0:=HZ.out;simpa using q
 clear q1 q2 rC4 rL4 bW4 b5 hb5
 generalize chk c=ck at *
 go_wp2_with fail
 try go_quiet (fail)
 try go_wp2
 go_ret
 exact ⟨rfl,HA.out⟩
set_option maxHeartbeats 3200000 in
theorem made_good (W w:World)(o:Own)(e p b:Value)(ts:List Int)(os:List (Int × Int × Int))(zone:Nat→Option Nat)(n:Nat)(X:Nat→XLoc)(m:Nat→Mh)(L:Nat→RLoc)(M:Nat→RDat)(ma:Option Addr)(mc:Nat)(h:MI W w o e p b ts os zone n X m L M ma mc)(c:Cf)(s:Sl)(hC:CfgAt W c s)(hc:CfR c)(hz:chk c=0)(hn:(n+1)*16≤140737488355328) :
  Calls Tryz.prog 14 #[.pointer (some ⟨W.heap.size,0,none⟩),cfgV c s] w fun x w'=>x = .returned (.bool true)∧AfterN W w w' o e p b ts os zone n ma mc:=by
 have bW:Below w.heap.size w (w.alloc (.cells (cfgA c s) 43)):=(Below.refl _ _).alloc (Nat.le_refl _) _
 have rC:Row (w.alloc (.cells (cfgA c s) 43)) w.heap.size (cfgL c s) 43:=heap_alloc_new w _
 have hW:=(hC.below h.bel (Nat.le_refl _)).below bW (Nat.le_refl _)
 have sW:(w.alloc (.cells (cfgA c s) 43)).heap.size=w.heap.size+1:=by simp
 have HZ:Hid _:=hz
 have HH:Hid _:=h
 have HCW:Hid _:=hC
 obtain ⟨i0,hi0,hz0,hz1,hz2⟩:=info_parts Tryz.infoPair
 have L8:Hid ((n+1)*16≤140737488355328):=hn
 have gwl:=h.ws.row.lt
 clear h hz hn
 go_enter Tryz.func14,Tryz.ntmps14
 go_wp2_with fail
 generalize w.alloc (.cells (cfgA c s) 43)=wc at *
 have SW:Hid _:=sW
 clear sW
 refine (lent_any c s wc hW hc).mono ?_
 rintro x w1 ⟨s1,la,ll,lc,rfl,b1,l1⟩
 have q1:=row_q (rC.below b1 rC.lt)
 have z1:w.heap.size<w1.heap.size:=by have:=b1.size;have:=SW.out;omega
 have B1:Hid _:=b1
 have L1:Hid _:=l1
 clear b1 l1
 go_wp2_with fail
 have bX:Below w1.heap.size w1 (w1.alloc (.cells (cfgA c s1) 43)):=(Below.refl _ _).alloc (Nat.le_refl _) _
 have lX:=LentC.same L1.out bX
 have rC2:=(rC.below B1.out rC.lt).alloc (.cells (cfgA c s1) 43)
 have rL2:Row (w1.alloc (.cells (cfgA c s1) 43)) w1.heap.size (cfgL c s1) 43:=heap_alloc_new w1 _
 have bWX:=below_step B1.out bX rfl
 have BX1:Hid _:=bX
 clear q1 bX
 generalize w1.alloc (.cells (cfgA c s1) 43)=w2 at *
 refine (wnew_good c s1 w2 (lX.reads hW hc) HZ.out).mono ?_
 rintro x w3 ⟨X',rfl,hM3,hX3,b3⟩
 have HM3:Hid _:=hM3
 have HX3:Hid _:=hX3
 have S23:Hid (w1.heap.size≤w2.heap.size):=BX1.out.size
 clear hM3 hX3
 have rC3:=rC2.below b3 rC2.lt
 have rL3:=rL2.below b3 rL2.lt
 have bW3:=below_step bWX b3 rfl
 have BX3:Hid _:=below_step BX1.out b3 rfl
 have q1:=row_q rC3
 have q2:=row_q rL3
 have zc3:=rC3.lt
 have zl3:=rL3.lt
 clear b3 rC2 rL2 lX bWX
 go_wp2_with fail
 refine (rcheck_any c s w3 (hW.below bW3 (Nat.le_refl _))).mono ?_
 rintro x w4 ⟨rfl,b4⟩
 rw [HZ.out]
 have HM4:Hid _:=HM3.out.below b4 (Nat.le_refl _)
 have rC4:=rC3.below b4 rC3.lt
 have rL4:=rL3.below b4 rL3.lt
 have bW4:=below_step bW3 b4 rfl
 have BX4:Hid _:=below_step BX3.out b4 rfl
 clear q1 q2 zc3 zl3
 have q1:=row_q rC4
 have q2:=row_q rL4
 have zc4:=rC4.lt
 have zl4:=rL4.lt
 clear b4 rC3 rL3 bW3
 go_wp2_with fail
 refine (whole_anyT wc w1 w4 c s s1 la ll lc hW hc B1.out L1.out BX4.out).mono ?_
 rintro x w5 ⟨rfl,b5,k5⟩
 have hb5:Below w.heap.size w w5:=bW.trans ((bW4.trans b5).mono bW.size)
 have HM5:Hid (MachM w5 (cnOf c) X' (mkM (fun _ _=>[]) (fun _ _=>0) (fun _=>0))):=HM4.out.same b5.size (fun g hg=>k5 g (by have:=HX3.out g hg;have:=S23.out;omega) (HM4.out.labs.lt g hg))
 have rC5:Row w5 w.heap.size (cfgL c s) 43:=rC4.same (b5.block _ (by have:=SW.out;omega))
 have HB5:Hid _:=hb5
 have hRn:=rNew_any c s w5 HZ.out
 clear q1 q2
 have q5:=row_q rC5
 have zc5:=rC5.lt
 clear rC4 rL4 bW4 b5 hb5 k5 zc4 zl4
 go_wp2_with fail
 try go_quiet (fail)
 try go_wp2_with fail
 refine hRn.mono ?_;rintro x w6 ⟨L',rfl,hR6,hL6,b6⟩
 have I6:=(HH.out.below HB5.out).below b6
 have row6:=I6.ws.row
 have hown6:=I6.own
 have c3:w6.cell? ⟨W.heap.size,3,none⟩=some (.slice ma n mc):=by rw [row6.cell];rfl
 have f3:w6.frozen? ⟨W.heap.size,3,none⟩=false:=row6.frozen 3
 have l6:=row6.lt
 have ag:=own_ne hown6 row6 (by decide)
 have hbase:W.heap.size≤w6.heap.size:=by omega
 have HM6:Hid _:=HM5.out.below b6 (Nat.le_refl _)
 have HB6:Hid (Below w.heap.size w w6):=below_step HB5.out b6 rfl
 have HR6:Hid _:=hR6
 have HL6:Hid _:=hL6
 have S5:Hid (w.heap.size≤w5.heap.size):=HB5.out.size
 have D6:Hid (∀ g,X'.mine g→¬L'.own g):=fun g hx hl=>by
  have:=HM5.out.labs.lt g hx
  have:=(HL6.out g hl).1
  omega
 have X6:Hid (∀ g,X'.mine g→w.heap.size≤g):=fun g hx=>by
  have:=HX3.out g hx
  have:=S23.out
  omega
 clear hRn q5 zc5 rC5 hR6 hL6 b6 I6
 have HOW6:Hid _:=hown6
 have HR6':Hid (Row w6 W.heap.size (ownL o (.slice ma n mc) e p b) 34):=row6
 clear hown6 row6
 go_wp2_with (at_builtin;refine wpList_append_lies _ rfl _ _ 29 rfl W.heap.size 50 i0 _ 2 16 Tryz.underlying29 hi0 hz0 hz1 hz2 rfl (by decide) (.slice ma n mc) n (pairsL X L n) rfl ?p1 ⟨w6.heap.size,0,none⟩ 1 1 [.pointer (some ⟨X'.g,0,none⟩),.pointer (some ⟨L'.gr,0,none⟩)] ?p9 rfl ?p3 ?p4 (by omega) ?p5 ?p6 ?p7 _ rfl ?p8)
 case p1=>exact World.ownsRow.alloc HOW6.out _
 try case p3=>exact World.news_of_block (cs:=#[.pointer (some ⟨X'.g,0,none⟩),.pointer (some ⟨L'.gr,0,none⟩)]) (t:=50) (fr:=(0,0)) (heap_alloc_new w6 _)
 case p4=>simp [Value.oneCell']
 case p5=>have:=L8.out;unfold maxLen;omega
 case p6=>exact L8.out
 case p7=>simp;omega
 try case p9=>rfl
 case p8=>
  intro gg cap w8 hown8 hgrow hat hlt
  have f2:w8.frozen? ⟨W.heap.size,3,none⟩=false:=(hgrow.frozen_far ⟨W.heap.size,3,none⟩ (by simp;omega) (Ne.symm ag)).trans ((Row.alloc HR6'.out _).frozen 3)
  have c4:w8.cell? ⟨W.heap.size,3,none⟩=some (.slice ma n mc):=(hgrow.cell_far ⟨W.heap.size,3,none⟩ (by simp;omega) (Ne.symm ag)).trans ((Row.alloc HR6'.out _).cell 3)
  have HA:Hid _:=HH.out.made (M':=⟨c,s,fun _=>[],fun _=>List.replicate c.priv.toNat 0,List.replicate c.shared.toNat 0,0⟩) HB6.out HM6.out HR6.out X6.out (fun g hg=>⟨by have:=(HL6.out g hg).1;have:=S5.out;omega,(HL6.out g hg).2⟩) D6.out HCW.out (PairD.fresh c s) ((Below.refl _ _).alloc (Nat.le_refl _) _) hgrow hown8 (hat.imp id (fun q=>by first | omega | (rw [q];simp) | (simp at q;omega)))
  clear hown8 hgrow hat
  go_wp2
  go_ret
  obtain ⟨zone',X2,m2,L2,M2,g1,g2,g3⟩:=HA.out
  exact ⟨rfl,n+1,_,_,zone',X2,m2,L2,M2,Nat.le_refl _,g1,g2,g3⟩
end Go.Proofs.YtehheaedbnfidaaGreat
