import Derived.Test.YtehheaedbnfidaaGreatClMade
import Derived.Test.YtehheaedbnfidaaGreatClWGiven
import Derived.Test.YtehheaedbnfidaaGreatClOwnU
set_option maxRecDepth 100000
namespace Go.Proofs.YtehheaedbnfidaaGreat
open Go.RowKit
set_option maxHeartbeats 3200000 in
theorem playsZ_any (w:World)(ca:Option Addr)(cl cc:Nat)(sa:Option Addr)(sl sc:Nat)(sts:Nat→St)(pa:Option Addr)(pl pc:Nat)(ps:List Int)(ha:Option Addr)(hl hc:Nat)(hs:List Int)
  (h1:ScAt w sa sl sc sts) (h2:Ints w pa pl pc ps) (h3:Ints w ha hl hc hs) (I:(Nat→Prop)→Nat→World→Prop)
  (i0:∃ Z,I Z 0 (w.alloc (.cells #[.slice ca cl cc,.slice none 0 0,.slice none 0 0,.slice none 0 0,.slice none 0 0,.slice none 0 0,.slice none 0 0] 34)))
  (ib:∀ Z i wr,I Z i wr→Below w.heap.size w wr) (iz:∀ Z i wr,I Z i wr→∀ b,Z b→b<wr.heap.size) (ik:∀ Z i wr w',I Z i wr→Below wr.heap.size wr w'→I Z i w') (is:∀ Z i wr,I Z i wr→I Z (i+1) wr)
  (hstep:∀ Z i wr,i<sl→((sts i).k<5∨ps.contains (sts i).k=true)→I Z i wr→Calls Tryz.prog 9 #[.pointer (some ⟨w.heap.size,0,none⟩),opV (sts i)] wr fun x w'=>x = .returned (.bool true)∧∃ Z',I Z' (i+1) w'∧Touch Z wr w'∧∀ b,b<wr.heap.size→Z' b→Z b)
  (hlooks:∀ Z i wr,i≤sl→I Z i wr→Calls Tryz.prog 10 #[.pointer (some ⟨w.heap.size,0,none⟩)] wr fun x w'=>x = .returned (.bool true)∧I Z i w'∧Below wr.heap.size wr w') :
  Calls Tryz.prog 7 #[.slice ca cl cc,.slice sa sl sc,.slice pa pl pc,.slice ha hl hc] w fun x w'=>x = .returned (.bool true)∧Below w.heap.size w w':=by
 have hsl:=h1.hle
 have hsm:=h1.hmax
 have IB:Hid _:=ib
 have IK:Hid _:=ik
 have IS:Hid _:=is
 have IZ:Hid _:=iz
 have HS:Hid _:=hstep
 have HL:Hid _:=hlooks
 have I0:Hid _:=i0
 clear ib iz ik is hstep hlooks i0
 go_enter Tryz.func7,Tryz.ntmps7
 go_wp2
 go_loopw [10] (fun i wr=>∃ (k:Nat) (Z:Nat→Prop),k≤sl∧i = .int .i64 k∧I Z k wr) (fun i _=>sl-(intOf i).toNat)
 case atStart=>
  obtain ⟨Z,hZ⟩:=I0.out
  exact ⟨0,Z,by omega,rfl,hZ⟩
 case round=>
  obtain ⟨k,Z,hk,rfl,hI⟩:=hrel
  have HI:Hid _:=hI
  clear hI
  have bw:=IB.out Z k wr HI.out
  by_cases hlt:k<sl
  ·
   obtain ⟨sb,soff,rfl,hcells,hstr⟩:=h1.hat k hlt
   have e0:=(h1.below bw (Nat.le_refl _)).hat k hlt
   obtain ⟨b',off',hb',hcells',_⟩:=e0
   simp only [Option.some.injEq,Addr.mk.injEq,and_true] at hb'
   obtain ⟨rfl,rfl⟩:=hb'
   have e0:=hcells' 0 (by omega)
   have e1:=hcells' 1 (by omega)
   have e2:=hcells' 2 (by omega)
   have e3:=hcells' 3 (by omega)
   have e4:=hcells' 4 (by omega)
   simp only [opA,Nat.add_zero] at e0 e1 e2 e3 e4
   clear hcells hcells'
   have HSk:=HS.out Z k
   have HSK:Hid _:=HSk
   clear HSk
   have hk60:(k:Int)<1152921504606846976:=by omega
   generalize sts k=st at *
   go_wp2_with fail
   have bX:Below wr.heap.size wr (wr.alloc (.cells (opA st) 36)):=(Below.refl _ _).alloc (Nat.le_refl _) _
   have rO:Row (wr.alloc (.cells (opA st) 36)) wr.heap.size [.int .i64 st.k,.int .i64 st.a,.int .i64 st.b,.int .i64 st.c,.int .i64 st.d] 36:=heap_alloc_new wr _
   have IX:=IK.out Z k wr _ HI.out bX
   have ZB:Hid (¬Z wr.heap.size):=fun q=>by have:=IZ.out Z k wr HI.out _ q;omega
   have bW:=below_step bw bX rfl
   clear e0 e1 e2 e3 e4 HI bX bw
   generalize wr.alloc (.cells (opA st) 36)=W at *
   have HX:Hid _:=IX
   clear IX
   have q1:=row_q rO
   refine (among_any _ _ _ ps _ _ (h2.below bW (Nat.le_refl _))).mono ?_
   rintro x w' ⟨rfl,rfl⟩
   by_cases hk5:5≤st.k
   ·
    rcases Bool.eq_false_or_eq_true (ps.contains st.k) with hp | hp
    ·
     rw [hp]
     have HP:Hid _:=hp
     clear hp
     go_wp2_with fail
     refine (HSK.out _ hlt (Or.inr HP.out) HX.out).mono ?_
     rintro x w2 ⟨rfl,Z2,i2,k2,_⟩
     have I2:Hid _:=i2
     have q2:=row_q (rO.same (k2.block _ rO.lt ZB.out))
     have b2:=IB.out _ _ _ i2
     clear i2 k2 q1
     go_wp2_with fail
     refine (among_any _ _ _ hs _ _ (h3.below b2 (Nat.le_refl _))).mono ?_
     rintro x w' ⟨rfl,rfl⟩
     generalize hs.contains st.k=held
     go_wp2_with fail
     refine (HL.out _ _ _ (by omega) I2.out).mono ?_
     rintro x w3 ⟨rfl,i3,k3⟩
     have I3:Hid _:=i3
     clear i3 k3 q2
     go_wp2
     go_roundw
     case rel=>exact ⟨k+1,Z2,by omega,by go_num,I3.out⟩
     case measure=>simp [intOf];omega
    ·
     rw [hp]
     have HP:Hid _:=hp
     clear hp
     go_wp2
     go_roundw
     case rel=>exact ⟨k+1,Z,by omega,by go_num,IS.out _ _ _ HX.out⟩
     case measure=>simp [intOf];omega
   ·
    generalize ps.contains st.k=hp at *
    have hk5':st.k<5:=by omega
    have hd:decide (5≤st.k)=false:=by simp;omega
    clear hk5
    go_wp2_with fail
    refine (HSK.out _ hlt (Or.inl (by omega)) HX.out).mono ?_
    rintro x w2 ⟨rfl,Z2,i2,k2,_⟩
    have I2:Hid _:=i2
    have q2:=row_q (rO.same (k2.block _ rO.lt ZB.out))
    have b2:=IB.out _ _ _ i2
    clear i2 k2 q1
    go_wp2_with fail
    refine (among_any _ _ _ hs _ _ (h3.below b2 (Nat.le_refl _))).mono ?_
    rintro x w' ⟨rfl,rfl⟩
    generalize hs.contains st.k=held
    go_wp2_with fail
    refine (HL.out _ _ _ (by omega) I2.out).mono ?_
    rintro x w3 ⟨rfl,i3,k3⟩
    have I3:Hid _:=i3
    clear i3 k3 q2
    go_wp2
    go_roundw
    case rel=>exact ⟨k+1,Z2,by omega,by go_num,I3.out⟩
    case measure=>simp [intOf];omega
  ·
   go_wp2
   go_ret
   exact ⟨rfl,bw⟩
set_option maxHeartbeats 6400000 in
theorem traced_bad (W w:World)(o:Own)(ea:Option Addr)(en ec:Nat)(p b:Value)(ts:List Int)(os:List (Int × Int × Int))(zone:Nat→Option Nat)(n:Nat)(X:Nat→XLoc)(m:Nat→Mh)(L:Nat→RLoc)(M:Nat→RDat)(ma:Option Addr)(mc:Nat)(h:MI W w o (.slice ea en ec) p b ts os zone n X m L M ma mc)
  (aE:Nat→Option Addr) (lE:Nat→Nat) (hE:Outs w W.heap.size 56 58 markE (.slice ea en ec) en aE lE) (hEz:∀ g,OB (.slice ea en ec) en aE lE g→¬MZ W.heap.size o zone (.slice ma n mc) g) (j:Nat) (hj:j<n) (d:Int) (hd:d<0∨(M j).c.domains≤d) (hbig:(en+1)*24≤140737488355328) :
  Calls Tryz.prog 16 #[.pointer (some ⟨W.heap.size,0,none⟩),.agg (prA (X j).g (L j).gr),.int .i64 d] w fun x w'=>x = .returned (.bool true)∧∃ ea' ec' aE' lE',MI W w' o (.slice ea' (en+1) ec') p b ts os zone n X m L M ma mc∧Outs w' W.heap.size 56 58 markE (.slice ea' (en+1) ec') (en+1) aE' lE'∧
   Touch (fun g=>g=W.heap.size∨(Value.slice ea en ec).ownBlock=some g) w w'∧∀ g,g<w.heap.size→OB (.slice ea' (en+1) ec') (en+1) aE' lE' g→OB (.slice ea en ec) en aE lE g:=by
 have hb0:Below w.heap.size w (w.alloc (.cells (prA (X j).g (L j).gr) 50)):=(Below.refl _ _).alloc (Nat.le_refl _) _
 have rP:Row (w.alloc (.cells (prA (X j).g (L j).gr) 50)) w.heap.size [.pointer (some ⟨(X j).g,0,none⟩),.pointer (some ⟨(L j).gr,0,none⟩)] 50:=heap_alloc_new w _
 obtain ⟨wb,hwb⟩:∃ wb,w.alloc (.cells (prA (X j).g (L j).gr) 50)=wb:=⟨_,rfl⟩
 rw [hwb] at hb0 rP
 have H0:=h.below hb0
 have hz:=(h.ms.ref j hj).right
 have hT0:=(h.ms.ref j hj).T0
 have hpd:=h.ms.pair j hj
 have hok:=(hpd.ok hz hT0).1
 have hF:=wTrace_any (cnOf (M j).c) (X j) (m j) d wb (H0.ms.mach j hj) hok
 have hV:traceV (cnOf (M j).c) (m j) d wb.heap.size = .slice none 0 0:=by
  unfold traceV
  exact if_pos (show d<0∨(cnOf (M j).c).c.domains≤d from hd)
 have hW:traceW (cnOf (M j).c) (m j) d wb=wb:=by
  unfold traceW
  exact if_pos (show d<0∨(cnOf (M j).c).c.domains≤d from hd)
 have hme:traceME (cnOf (M j).c) d=6:=by
  unfold traceME
  exact if_pos (show d<0∨(cnOf (M j).c).c.domains≤d from hd)
 rw [hV,hW,hme] at hF
 have hR:=rTrace_bad (L j) (M j) d wb (H0.ms.ref j hj) hd
 have p0:wb.cell? ⟨w.heap.size,0,none⟩=some (.pointer (some ⟨(X j).g,0,none⟩)):=rP.cell 0
 have p1:wb.cell? ⟨w.heap.size,1,none⟩=some (.pointer (some ⟨(L j).gr,0,none⟩)):=rP.cell 1
 have l0:=rP.lt
 have rW:Row wb W.heap.size (ownL o (.slice ma n mc) (.slice ea en ec) p b) 34:=H0.ws.row
 have g4:wb.cell? ⟨W.heap.size,4,none⟩=some (.slice ea en ec):=rW.cell 4
 have lW:=rW.lt
 have hnl:∀ v:World,(binOp .eql 56 (.slice none 0 0) (.slice none 0 0)).run Tryz.prog v = .ok (.bool true) v:=fun v=>eql_nil v _ _ _ _ _ Tryz.underlying56
 have HO:Hid (wb.ownsRow W.heap.size 56 1 (.slice ea en ec) en ((List.range en).map fun i=>.slice (aE i) (lE i) (lE i))):=owns_same hE.row (fun g hg=>hb0.block g (owns_lt hE.row g hg).1)
 have HRW:Hid (Row wb W.heap.size (ownL o (.slice ma n mc) (.slice ea en ec) p b) 34):=rW
 have ag:(Value.slice ea en ec).ownBlock≠some W.heap.size:=own_ne HO.out rW (by decide)
 obtain ⟨i0,hi0,hz0,hz1,hz2⟩:=info_parts Tryz.infoEvs
 have HBIG:Hid _:=hbig
 have HSZ:Hid (W.heap.size≤w.heap.size):=h.bel.size
 have HWB:Hid _:=hwb
 have HH:Hid _:=h
 have HE:Hid _:=hE
 have HEZ:Hid _:=hEz
 have HBV:Hid _:=hb0
 clear h hE hEz hb0 rP rW hz hT0 hpd hok hV hW hme hwb H0 hbig hd
 go_enter Tryz.func16,Tryz.ntmps16
 go_wp2_with fail
 rw [HWB.out]
 refine hF.mono ?_;rintro x v1 ⟨rfl,rfl⟩
 go_wp2_with fail
 refine hR.mono ?_;rintro x v2 ⟨rfl,rfl⟩
 go_wp2_with fail
 refine wp_loop_rounds 1 ?_
 rw [rounds_succ]
 go_wp2_with fail
 refine wp_loop_rounds 1 ?_
 rw [rounds_succ]
 clear p0 p1 hnl
 go_wp2_with (at_builtin;refine wpList_append_lies _ rfl _ _ 30 rfl W.heap.size 56 i0 _ 1 24 Tryz.underlying30 hi0 hz0 hz1 hz2 rfl (by decide) (.slice ea en ec) en ((List.range en).map fun i=>.slice (aE i) (lE i) (lE i)) rfl ?p1 ⟨v2.heap.size,0,none⟩ 1 1 [.slice none 0 0] ?p9 rfl ?p3 ?p4 (by omega) ?p5 ?p6 ?p7 _ rfl ?p8)
 case p1=>exact World.ownsRow.alloc HO.out _
 try case p3=>exact World.news_of_block (cs:=#[.slice none 0 0]) (t:=56) (fr:=(0,0)) (heap_alloc_new v2 _)
 case p4=>simp [Value.oneCell']
 case p5=>have:=HBIG.out;unfold maxLen;omega
 case p6=>exact HBIG.out
 case p7=>have:=HBV.out.size;have:=HSZ.out;simp;omega
 try case p9=>rfl
 case p8=>
  intro gg cap w8 hown8 hgrow hat hlt8
  have f2:w8.frozen? ⟨W.heap.size,4,none⟩=false:=(hgrow.frozen_far ⟨W.heap.size,4,none⟩ (by simp;omega) (Ne.symm ag)).trans ((Row.alloc HRW.out _).frozen 4)
  have c4:w8.cell? ⟨W.heap.size,4,none⟩=some (.slice ea en ec):=(hgrow.cell_far ⟨W.heap.size,4,none⟩ (by simp;omega) (Ne.symm ag)).trans ((Row.alloc HRW.out _).cell 4)
  have HA:Hid _:=Outs.done (f:=4) (a':=none) (l':=0) HH.out HE.out (by decide) (by decide) (by decide) HBV.out (show 0≤9223372036854775807 by omega) (fun q=>absurd rfl q) ((Below.refl _ _).alloc (Nat.le_refl _) _) hgrow hown8 (hat.imp id (fun q=>by have:=HBV.out.size;first | omega | (simp at q;omega) | (rw [q];simp;omega)))
  clear hown8 hgrow hat
  go_wp2
  go_ret
  obtain ⟨g1,g2,g3,g5⟩:=HA.out
  exact ⟨rfl,some ⟨gg,0,none⟩,cap,_,_,HH.out.out (K:=fun g=>(Value.slice ea en ec).ownBlock=some g) g1 g3 (fun g hg=>⟨(HE.out.lt (Or.inl hg)).1,HEZ.out g (Or.inl hg)⟩),g2,g3,g5⟩
structure OD where
 ea:Option Addr
 en:Nat
 ec:Nat
 pa:Option Addr
 pn:Nat
 pc:Nat
 ba:Option Addr
 bn:Nat
 bc:Nat
 aE:Nat→Option Addr
 lE:Nat→Nat
 aP:Nat→Option Addr
 lP:Nat→Nat
 aB:Nat→Option Addr
 lB:Nat→Nat
abbrev OD.e (D:OD):Value:=.slice D.ea D.en D.ec
abbrev OD.p (D:OD):Value:=.slice D.pa D.pn D.pc
abbrev OD.b (D:OD):Value:=.slice D.ba D.bn D.bc
def OD.nil:OD:=⟨none,0,0,none,0,0,none,0,0,fun _=>none,fun _=>0,fun _=>none,fun _=>0,fun _=>none,fun _=>0⟩
def OD.OA (D:OD)(g:Nat):Prop:=OB D.e D.en D.aE D.lE g∨OB D.p D.pn D.aP D.lP g∨OB D.b D.bn D.aB D.lB g
def OD.bnd (D:OD)(k:Nat):Prop:=D.en≤k∧D.pn≤k∧D.bn≤k
structure OutsAll (W wr:World)(D:OD)(Zm:Nat→Prop):Prop where
 oe:Outs wr W.heap.size 56 58 markE D.e D.en D.aE D.lE
 op:Outs wr W.heap.size 60 62 markP D.p D.pn D.aP D.lP
 ob:Outs wr W.heap.size 64 66 markB D.b D.bn D.aB D.lB
 apart:∀ g,D.OA g→¬Zm g
theorem OutsAll.lt {W wr:World}{D:OD}{Zm:Nat→Prop}(h:OutsAll W wr D Zm){g:Nat}(hg:D.OA g):g<wr.heap.size:=by
 rcases hg with q|q|q
 · exact (h.oe.lt q).2
 · exact (h.op.lt q).2
 · exact (h.ob.lt q).2
theorem OutsAll.keep {W wr w':World}{D:OD}{Zm Zm':Nat→Prop}(h:OutsAll W wr D Zm)(hT:Touch Zm wr w')(hz:∀ b,b<wr.heap.size→Zm' b→Zm b):OutsAll W w' D Zm':=by
 have k:∀ g,D.OA g→w'.heap[g]? = wr.heap[g]? := fun g hg=>hT.block g (h.lt hg) (h.apart g hg)
 exact ⟨h.oe.same (fun g hg=>k g (Or.inl hg)),h.op.same (fun g hg=>k g (Or.inr (Or.inl hg))),h.ob.same (fun g hg=>k g (Or.inr (Or.inr hg))),fun g hg hq=>h.apart g hg (hz g (h.lt hg) hq)⟩
theorem OutsAll.below {W wr w':World}{D:OD}{Zm:Nat→Prop}(h:OutsAll W wr D Zm)(hb:Below wr.heap.size wr w'):OutsAll W w' D Zm:=
 h.keep (Touch.of_below hb (Nat.le_refl _)) (fun _ _ q=>q)
def IY (W:World)(ca:Option Addr)(cl cc:Nat)(Z:Nat→Prop)(k:Nat)(wr:World):Prop:=
 ∃ o ts os zone n X m L M ma mc D,(o.ca=ca∧o.cl=cl∧o.cc=cc)∧MI W wr o (OD.e D) D.p D.b ts os zone n X m L M ma mc∧OutsAll W wr D (MZ W.heap.size o zone (.slice ma n mc))∧(ts.length≤k∧os.length≤k∧n≤k)∧D.bnd k∧Z=fun g=>MZ W.heap.size o zone (.slice ma n mc) g∨D.OA g
theorem OD.nil_oa {g:Nat}:¬OD.nil.OA g:=by
 rintro (q|q|q) <;> exact OB.nil q
theorem IY.start (W:World)(ca:Option Addr)(cl cc:Nat)(X:Nat→XLoc)(m:Nat→Mh)(L:Nat→RLoc)(M:Nat→RDat):∃ Z,IY W ca cl cc Z 0 (W.alloc (.cells #[.slice ca cl cc,.slice none 0 0,.slice none 0 0,.slice none 0 0,.slice none 0 0,.slice none 0 0,.slice none 0 0] 34)):=
 ⟨_,⟨ca,cl,cc,none,0,0,none,0,0⟩,[],[],fun _=>none,0,X,m,L,M,none,0,OD.nil,⟨rfl,rfl,rfl⟩,⟨⟨heap_alloc_new W _,Nat.le_refl _,World.ownsRow_nil _ _ _ _,World.ownsRow_nil _ _ _ _⟩,MS.start _ _ _ _ _ _,World.ownsRow_nil _ _ _ _,fun _ _=>rfl,fun _ _=>rfl,(Below.refl _ _).alloc (Nat.le_refl _) _⟩,⟨Outs.nil _ _ _ _ _ _ _,Outs.nil _ _ _ _ _ _ _,Outs.nil _ _ _ _ _ _ _,fun _ hg=>absurd hg OD.nil_oa⟩,⟨Nat.le_refl _,Nat.le_refl _,Nat.le_refl _⟩,⟨Nat.le_refl _,Nat.le_refl _,Nat.le_refl _⟩,rfl⟩
theorem IY.bel {W:World}{ca:Option Addr}{cl cc:Nat}{Z:Nat→Prop}{k:Nat}{wr:World}(h:IY W ca cl cc Z k wr):Below W.heap.size W wr:=by
 obtain ⟨o,ts,os,zone,n,X,m,L,M,ma,mc,D,_,h4,_⟩:=h
 exact h4.bel
theorem IY.lt {W:World}{ca:Option Addr}{cl cc:Nat}{Z:Nat→Prop}{k:Nat}{wr:World}(h:IY W ca cl cc Z k wr):∀ b,Z b→b<wr.heap.size:=by
 obtain ⟨o,ts,os,zone,n,X,m,L,M,ma,mc,D,_,h4,hO,_,_,rfl⟩:=h
 rintro b (hb|hb)
 · exact h4.lt hb
 · exact hO.lt hb
theorem IY.below {W:World}{ca:Option Addr}{cl cc:Nat}{Z:Nat→Prop}{k:Nat}{wr w':World}(h:IY W ca cl cc Z k wr)(hb:Below wr.heap.size wr w'):IY W ca cl cc Z k w':=by
 obtain ⟨o,ts,os,zone,n,X,m,L,M,ma,mc,D,h1,h4,hO,h5,h6,h8⟩:=h
 exact ⟨o,ts,os,zone,n,X,m,L,M,ma,mc,D,h1,h4.below hb,hO.below hb,h5,h6,h8⟩
theorem IY.succ {W:World}{ca:Option Addr}{cl cc:Nat}{Z:Nat→Prop}{k:Nat}{wr:World}(h:IY W ca cl cc Z k wr):IY W ca cl cc Z (k+1) wr:=by
 obtain ⟨o,ts,os,zone,n,X,m,L,M,ma,mc,D,h1,h4,hO,⟨a1,a2,a3⟩,⟨b1,b2,b3⟩,h8⟩:=h
 exact ⟨o,ts,os,zone,n,X,m,L,M,ma,mc,D,h1,h4,hO,⟨by omega,by omega,by omega⟩,⟨by omega,by omega,by omega⟩,h8⟩
def StepY (W:World)(ca:Option Addr)(cl cc:Nat)(Z:Nat→Prop)(k:Nat)(wr w':World):Prop:=∃ Z',IY W ca cl cc Z' (k+1) w'∧Touch Z wr w'∧∀ b,b<wr.heap.size→Z' b→Z b
theorem IY.same {W:World}{ca:Option Addr}{cl cc:Nat}{Z:Nat→Prop}{k:Nat}{wr w':World}(h:IY W ca cl cc Z k wr)(hb:Below wr.heap.size wr w'):StepY W ca cl cc Z k wr w':=⟨Z,(h.below hb).succ,Touch.of_below hb (Nat.le_refl _),fun _ _ q=>q⟩
theorem StepY.low {W:World}{ca:Option Addr}{cl cc:Nat}{Z:Nat→Prop}{k:Nat}{wr w2 w':World}(h:StepY W ca cl cc Z k w2 w')(hb:Below wr.heap.size wr w2):StepY W ca cl cc Z k wr w':=by
 obtain ⟨Z',h1,h2,h3⟩:=h
 have:=hb.size
 exact ⟨Z',h1,⟨h2.os.trans hb.os,h2.tape.trans hb.tape,h2.output.trans hb.output,Nat.le_trans hb.size h2.size,fun g hg hf=>(h2.block g (by omega) hf).trans (hb.block g hg)⟩,fun b hb' hz=>h3 b (by omega) hz⟩
theorem OutsAll.up {W w w':World}{ca:Option Addr}{cl cc k:Nat}{D:OD}{o o':Own}{ts':List Int}{os':List (Int × Int × Int)}{zone zone':Nat→Option Nat}{n n':Nat}{ma ma':Option Addr}{mc mc':Nat}{X':Nat→XLoc}{m':Nat→Mh}{L':Nat→RLoc}{M':Nat→RDat}(hO:OutsAll W w D (MZ W.heap.size o zone (.slice ma n mc)))(hk:D.bnd k)
  (h1:o'.ca=ca∧o'.cl=cl∧o'.cc=cc) (g1:MI W w' o' D.e D.p D.b ts' os' zone' n' X' m' L' M' ma' mc') (g2:Touch (MZ W.heap.size o zone (.slice ma n mc)) w w') (g3:∀ b,b<w.heap.size→MZ W.heap.size o' zone' (.slice ma' n' mc') b→MZ W.heap.size o zone (.slice ma n mc) b) (hb:ts'.length≤k+1∧os'.length≤k+1∧n'≤k+1) :
  StepY W ca cl cc (fun g=>MZ W.heap.size o zone (.slice ma n mc) g∨D.OA g) k w w':=by
 obtain ⟨b1,b2,b3⟩:=hk
 exact ⟨_,⟨o',ts',os',zone',n',X',m',L',M',ma',mc',D,h1,g1,hO.keep g2 g3,hb,⟨by omega,by omega,by omega⟩,rfl⟩,g2.mono (fun b q=>Or.inl q),fun b hb' q=>q.imp (g3 b hb') id⟩
theorem IY.own {W:World}{ca:Option Addr}{cl cc:Nat}{Z:Nat→Prop}{k:Nat}{wr:World}(h:IY W ca cl cc Z k wr)(st:St)(hk:st.k<5)(hz:k*40≤140737488351232) :
  Calls Tryz.prog 9 #[.pointer (some ⟨W.heap.size,0,none⟩),opV st] wr fun x w'=>x = .returned (.bool true)∧StepY W ca cl cc Z k wr w':=by
 have hI:=h
 obtain ⟨o,ts,os,zone,n,X,m,L,M,ma,mc,D,⟨h1,h2,h3⟩,h4,hO,⟨h5,h6,h7⟩,hD,rfl⟩:=h
 have bW:Below wr.heap.size wr (wr.alloc (.cells (opA st) 36)):=(Below.refl _ _).alloc (Nat.le_refl _) _
 have h4':=h4.below bW
 have hO':=hO.below bW
 by_cases k1:st.k<1
 ·
  refine (step_out W.heap.size st wr (Or.inl k1)).mono ?_
  rintro x w' ⟨rfl,b⟩
  exact ⟨rfl,hI.same b⟩
 ·
  have cases:st.k=1∨st.k=2∨st.k=3∨st.k=4:=by omega
  rcases cases with e|e|e|e
  ·
   refine step_own W.heap.size st wr (fun w'=>StepY W ca cl cc _ k wr w') ?_
   refine (owner_touchT W.heap.size W.heap.size o _ _ _ _ ts os st _ h4'.ws e (by omega)).mono ?_
   rintro x w' ⟨rfl,o',a1,a2,a3,a4,a5,_,a7⟩
   obtain ⟨g1,g2,g3⟩:=h4'.owner a4 a5 a7
   exact ⟨rfl,StepY.low (hO'.up hD ⟨a1.trans h1,a2.trans h2,a3.trans h3⟩ g1 g2 g3 ⟨by simp;omega,by omega,by omega⟩) bW⟩
  ·
   refine step_own W.heap.size st wr (fun w'=>StepY W ca cl cc _ k wr w') ?_
   refine (owner_freshT W.heap.size W.heap.size o _ _ _ _ ts os st _ h4'.ws e).mono ?_
   rintro x w' ⟨rfl,o',a1,a2,a3,a4,a5,_,a7⟩
   obtain ⟨g1,g2,g3⟩:=h4'.owner a4 a5 a7
   exact ⟨rfl,StepY.low (hO'.up hD ⟨a1.trans h1,a2.trans h2,a3.trans h3⟩ g1 g2 g3 ⟨by simp,by omega,by omega⟩) bW⟩
  ·
   refine step_own W.heap.size st wr (fun w'=>StepY W ca cl cc _ k wr w') ?_
   refine (owner_opT W.heap.size W.heap.size o _ _ _ _ ts os st _ h4'.ws e (by omega)).mono ?_
   rintro x w' ⟨rfl,o',a1,a2,a3,a4,a5,_,a7⟩
   obtain ⟨g1,g2,g3⟩:=h4'.owner a4 a5 a7
   exact ⟨rfl,StepY.low (hO'.up hD ⟨a1.trans h1,a2.trans h2,a3.trans h3⟩ g1 g2 g3 ⟨by omega,by simp;omega,by omega⟩) bW⟩
  ·
   refine step_own W.heap.size st wr (fun w'=>StepY W ca cl cc _ k wr w') ?_
   refine (owner_noneT W.heap.size W.heap.size o _ _ _ _ ts os st _ h4'.ws e).mono ?_
   rintro x w' ⟨rfl,o',a1,a2,a3,a4,a5,_,a7⟩
   obtain ⟨g1,g2,g3⟩:=h4'.owner a4 a5 a7
   exact ⟨rfl,StepY.low (hO'.up hD ⟨a1.trans h1,a2.trans h2,a3.trans h3⟩ g1 g2 g3 ⟨by omega,by simp,by omega⟩) bW⟩
theorem IY.made {W:World}{ca:Option Addr}{cl cc:Nat}{Z:Nat→Prop}{k:Nat}{wr:World}{cfs:Nat→Cf}(h:IY W ca cl cc Z k wr)(hcs:CsAt W ca cl cc cfs)(st:St)(hr:StR st)(hk:st.k=11)(hz:k*40≤140737488351232) :
  Calls Tryz.prog 9 #[.pointer (some ⟨W.heap.size,0,none⟩),opV st] wr fun x w'=>x = .returned (.bool true)∧StepY W ca cl cc Z k wr w':=by
 have hI:=h
 obtain ⟨o,ts,os,zone,n,X,m,L,M,ma,mc,D,⟨h1,h2,h3⟩,h4,hO,⟨h5,h6,h7⟩,hD,rfl⟩:=h
 subst h1 h2 h3
 by_cases hp:o.cl=0
 ·
  refine (step_nocs W.heap.size W.heap.size o _ _ _ _ ts os st wr h4.ws (by omega) (by omega) (by omega) hp).mono ?_
  rintro x w' ⟨rfl,b⟩
  exact ⟨rfl,hI.same b⟩
 ·
  refine step_made W W.heap.size W.heap.size o _ _ _ _ ts os st wr h4.ws hr cfs hcs h4.bel hk (by omega) (fun w'=>StepY W o.ca o.cl o.cc _ k wr w') (fun c s w2 hC hc hb=>?_)
  have up:∀ w',AfterN W w2 w' o D.e D.p D.b ts os zone n ma mc→StepY W o.ca o.cl o.cc (fun g=>MZ W.heap.size o zone (.slice ma n mc) g∨D.OA g) k wr w':=fun w' hA=>by
   obtain ⟨n',ma',mc',zone',X',m',L',M',hn,g1,g2,g3⟩:=hA
   exact StepY.low ((hO.below hb).up hD ⟨rfl,rfl,rfl⟩ g1 g2 g3 ⟨by omega,by omega,by omega⟩) hb
  by_cases hz0:chk c=0
  ·
   refine (made_good W w2 o _ _ _ ts os zone n X m L M ma mc (h4.below hb) c s hC hc hz0 (by omega)).mono ?_
   rintro x w' ⟨rfl,hA⟩
   exact ⟨rfl,up w' hA⟩
  ·
   refine (made_bad W w2 o _ _ _ ts os zone n X m L M ma mc (h4.below hb) c s hC hc hz0).mono ?_
   rintro x w' ⟨rfl,hA⟩
   exact ⟨rfl,up w' hA⟩
theorem IY.given {W:World}{ca:Option Addr}{cl cc:Nat}{Z:Nat→Prop}{k:Nat}{wr:World}(h:IY W ca cl cc Z k wr)(st:St)(hr:StR st)(hk1:12≤st.k)(hk2:st.k≤16)(hz:k*40≤140737488351232) :
  Calls Tryz.prog 9 #[.pointer (some ⟨W.heap.size,0,none⟩),opV st] wr fun x w'=>x = .returned (.bool true)∧StepY W ca cl cc Z k wr w':=by
 have hI:=h
 obtain ⟨o,ts,os,zone,n,X,m,L,M,ma,mc,D,h1,h4,hO,⟨h5,h6,h7⟩,hD,rfl⟩:=h
 by_cases hp:n=0
 ·
  subst hp
  refine (step_noms W.heap.size W.heap.size o mc ma _ _ _ ts os st wr h4.ws hk1 (by omega)).mono ?_
  rintro x w' ⟨rfl,b⟩
  exact ⟨rfl,hI.same b⟩
 ·
  obtain ⟨g,e1,e2,e3,e4,_⟩:=h4.pair (j:=0) (by omega)
  subst e1
  refine step_given W.heap.size W.heap.size o n mc g _ _ _ ts os st wr h4.ws hr hk1 hk2 (by omega) e2 e3 e4 (fun j=>(X j).g) (fun j=>(L j).gr) (fun j hj=>?_) (fun w'=>StepY W ca cl cc _ k wr w') (fun j w2 hj hb=>?_)
  ·
   obtain ⟨g',q1,_,_,_,q5,q6⟩:=h4.pair hj
   simp only [Option.some.injEq,Addr.mk.injEq,and_true] at q1
   subst q1
   exact ⟨q5,q6⟩
  ·
   have up:∀ w',After W w2 w' o D.e D.p D.b ts os zone n (some ⟨g,0,none⟩) mc→StepY W ca cl cc (fun g'=>MZ W.heap.size o zone (.slice (some ⟨g,0,none⟩) n mc) g'∨D.OA g') k wr w':=fun w' hA=>by
    obtain ⟨zone',X',m',L',M',g1,g2,g3⟩:=hA
    exact StepY.low ((hO.below hb).up hD h1 g1 g2 g3 ⟨by omega,by omega,by omega⟩) hb
   have I2:=h4.below hb
   have cases:st.k=12∨st.k=13∨st.k=14∨st.k=15∨st.k=16:=by omega
   rcases cases with e|e|e|e|e
   ·
    refine (given_give W w2 o _ _ _ ts os zone n X m L M _ mc I2 j hj st e (by omega)).mono ?_
    rintro x w' ⟨rfl,hA⟩
    exact ⟨rfl,up w' hA⟩
   ·
    refine (given_fill W w2 o _ _ _ ts os zone n X m L M _ mc I2 j hj st e).mono ?_
    rintro x w' ⟨rfl,hA⟩
    exact ⟨rfl,up w' hA⟩
   ·
    refine (given_share W w2 o _ _ _ ts os zone n X m L M _ mc I2 j hj st e).mono ?_
    rintro x w' ⟨rfl,hA⟩
    exact ⟨rfl,up w' hA⟩
   ·
    refine (given_run W w2 o _ _ _ ts os zone n X m L M _ mc I2 j hj st e).mono ?_
    rintro x w' ⟨rfl,hA⟩
    exact ⟨rfl,up w' hA⟩
   ·
    refine (given_now W w2 o _ _ _ ts os zone n X m L M _ mc I2 j hj st e).mono ?_
    rintro x w' ⟨rfl,hA⟩
    exact ⟨rfl,up w' hA⟩
theorem owns_row {w:World}{base:Nat}{e:TypeId}{size n:Nat}{v:Value}{xs:List Value}(h:w.ownsRow base e size v n xs){g:Nat}(hg:v.ownBlock=some g):∃ A,Row w g A e:=by
 obtain ⟨h1,h2⟩:=h
 rcases h2 with ⟨h3,_⟩|⟨g',cap',cur,hv,_,hh,_⟩
 · rw [h3] at hg;simp [Value.ownBlock] at hg
 ·
  rw [hv] at hg
  have:g'=g:=by simpa [Value.ownBlock] using hg
  subst this
  exact ⟨cur.toList,by unfold Row;simpa using hh⟩
theorem IY.gives {W w w':World}{ca:Option Addr}{cl cc k:Nat}{o:Own}{ts:List Int}{os:List (Int × Int × Int)}{zone:Nat→Option Nat}{n:Nat}{X:Nat→XLoc}{m:Nat→Mh}{L:Nat→RLoc}{M:Nat→RDat}{ma:Option Addr}{mc:Nat}{D D':OD}(v:Value)(h1:o.ca=ca∧o.cl=cl∧o.cc=cc)(h4:MI W w o D.e D.p D.b ts os zone n X m L M ma mc)(hO:OutsAll W w D (MZ W.heap.size o zone (.slice ma n mc)))(hb:ts.length≤k∧os.length≤k∧n≤k)(hD:D'.bnd (k+1))
  (g1:MI W w' o D'.e D'.p D'.b ts os zone n X m L M ma mc) (g2:Touch (fun g=>g=W.heap.size∨v.ownBlock=some g) w w') (hv:∀ g,v.ownBlock=some g→D.OA g)
  (o1:Outs w' W.heap.size 56 58 markE D'.e D'.en D'.aE D'.lE) (o2:Outs w' W.heap.size 60 62 markP D'.p D'.pn D'.aP D'.lP) (o3:Outs w' W.heap.size 64 66 markB D'.b D'.bn D'.aB D'.lB) (hm:∀ g,g<w.heap.size→D'.OA g→D.OA g) :
  StepY W ca cl cc (fun g=>MZ W.heap.size o zone (.slice ma n mc) g∨D.OA g) k w w':=by
 refine ⟨_,⟨o,ts,os,zone,n,X,m,L,M,ma,mc,D',h1,g1,⟨o1,o2,o3,fun g hg hz=>?_⟩,⟨by omega,by omega,by omega⟩,hD,rfl⟩,g2.mono (fun g q=>?_),fun g hg q=>q.imp id (hm g hg)⟩
 · exact hO.apart g (hm g (h4.lt hz) hg) hz
 ·
  rcases q with q | q
  · exact Or.inl (Or.inr (Or.inl (Or.inl q)))
  · exact Or.inr (hv g q)
theorem IY.trace {W:World}{ca:Option Addr}{cl cc:Nat}{Z:Nat→Prop}{k:Nat}{wr:World}(h:IY W ca cl cc Z k wr)(st:St)(hr:StR st)(hk:st.k=17)(hz:k*40≤140737488351232) :
  Calls Tryz.prog 9 #[.pointer (some ⟨W.heap.size,0,none⟩),opV st] wr fun x w'=>x = .returned (.bool true)∧StepY W ca cl cc Z k wr w':=by
 have hI:=h
 obtain ⟨o,ts,os,zone,n,X,m,L,M,ma,mc,D,h1,h4,hO,hb,hD,rfl⟩:=h
 by_cases hp:n=0
 ·
  subst hp
  refine (step_noms W.heap.size W.heap.size o mc ma _ _ _ ts os st wr h4.ws (by omega) (by omega)).mono ?_
  rintro x w' ⟨rfl,b⟩
  exact ⟨rfl,hI.same b⟩
 ·
  obtain ⟨g,e1,e2,e3,e4,_⟩:=h4.pair (j:=0) (by omega)
  subst e1
  refine step_traced W.heap.size W.heap.size o n mc g _ _ _ ts os st wr h4.ws hr hk (by omega) e2 e3 e4 (fun j=>(X j).g) (fun j=>(L j).gr) (fun j hj=>?_) (fun w'=>StepY W ca cl cc _ k wr w') (fun j w2 hj hbw=>?_)
  ·
   obtain ⟨g',q1,_,_,_,q5,q6⟩:=h4.pair hj
   simp only [Option.some.injEq,Addr.mk.injEq,and_true] at q1
   subst q1
   exact ⟨q5,q6⟩
  ·
   have I2:=h4.below hbw
   have O2:=hO.below hbw
   have up:∀ w',(∃ ea' ec' aE' lE',MI W w' o (.slice ea' (D.en+1) ec') D.p D.b ts os zone n X m L M (some ⟨g,0,none⟩) mc∧Outs w' W.heap.size 56 58 markE (.slice ea' (D.en+1) ec') (D.en+1) aE' lE'∧Touch (fun g=>g=W.heap.size∨D.e.ownBlock=some g) w2 w'∧∀ g,g<w2.heap.size→OB (.slice ea' (D.en+1) ec') (D.en+1) aE' lE' g→OB D.e D.en D.aE D.lE g)→StepY W ca cl cc (fun g'=>MZ W.heap.size o zone (.slice (some ⟨g,0,none⟩) n mc) g'∨D.OA g') k wr w':=fun w' hA=>by
    obtain ⟨ea',ec',aE',lE',g1,g2,g3,g5⟩:=hA
    obtain ⟨b1,b2,b3⟩:=hD
    have kp:∀ {rt et:TypeId} {mark:Nat→List Value} {v:Value} {c:Nat} {a:Nat→Option Addr} {l:Nat→Nat},Outs w2 W.heap.size rt et mark v c a l→34≠rt→34≠et→56≠rt→56≠et→Outs w' W.heap.size rt et mark v c a l:=fun ho n1 n2 n3 n4=>ho.same (fun g' hg'=>g3.block g' (ho.lt hg').2 (fun q=>by
     rcases q with q|q
     · subst q;exact ho.not I2.ws.row n1 n2 hg'
     ·
      obtain ⟨A,hA⟩:=owns_row O2.oe.row q
      exact ho.not hA n3 n4 hg'))
    exact StepY.low (IY.gives (D':={ D with ea:=ea',en:=D.en+1,ec:=ec',aE:=aE',lE:=lE' }) D.e h1 I2 O2 hb ⟨by show D.en+1≤k+1;omega,by show D.pn≤k+1;omega,by show D.bn≤k+1;omega⟩ g1 g3 (fun g' q=>Or.inl (Or.inl q)) g2 (kp O2.op (by decide) (by decide) (by decide) (by decide)) (kp O2.ob (by decide) (by decide) (by decide) (by decide)) (fun g' hg' q=>q.imp (g5 g' hg') id)) hbw
   have hEz:∀ g',OB D.e D.en D.aE D.lE g'→¬MZ W.heap.size o zone (.slice (some ⟨g,0,none⟩) n mc) g':=fun g' q=>O2.apart g' (Or.inl q)
   by_cases hd:st.b<0∨(M j).c.domains≤st.b
   ·
    refine (traced_bad W w2 o D.ea D.en D.ec D.p D.b ts os zone n X m L M _ mc I2 D.aE D.lE O2.oe hEz j hj st.b hd (by have:=hD.1;omega)).mono ?_
    rintro x w' ⟨rfl,hA⟩
    exact ⟨rfl,up w' hA⟩
   ·
    obtain ⟨d,hdd⟩:=Int.eq_ofNat_of_zero_le (show 0≤st.b by omega)
    rw [hdd]
    refine (traced_good W w2 o D.ea D.en D.ec D.p D.b ts os zone n X m L M _ mc I2 D.aE D.lE O2.oe hEz j hj d (by omega) (by have:=hD.1;omega)).mono ?_
    rintro x w' ⟨rfl,hA⟩
    exact ⟨rfl,up w' hA⟩
theorem IY.looks {W:World}{ca:Option Addr}{cl cc:Nat}{Z:Nat→Prop}{k:Nat}{wr:World}(h:IY W ca cl cc Z k wr)(hz:k*40≤140737488355328) :
  Calls Tryz.prog 10 #[.pointer (some ⟨W.heap.size,0,none⟩)] wr fun x w'=>x = .returned (.bool true)∧IY W ca cl cc Z k w'∧Below wr.heap.size wr w':=by
 have hI:=h
 obtain ⟨o,ts,os,zone,n,X,m,L,M,ma,mc,D,h1,h4,hO,hb,⟨b1,b2,b3⟩,rfl⟩:=h
 refine (looks_any W.heap.size W.heap.size o _ D.ea D.pa D.ba D.en D.ec D.pn D.pc D.bn D.bc ts os D.aE D.aP D.aB D.lE D.lP D.lB wr h4.ws hO.oe hO.op hO.ob (by omega) (by omega) (by omega)).mono ?_
 rintro x w' ⟨rfl,b⟩
 exact ⟨rfl,hI.below b,b⟩
def locXY:XLoc:=⟨0,sl0,⟨0,0,fun _=>0,fun _=>0,none,0,0⟩,⟨0,0,fun _=>0,fun _=>0⟩,0,0,0,fun _=>0,fun _ _=>none,fun _=>⟨0,0,fun _=>0,fun _=>0,fun _=>none,fun _=>0,fun _=>0⟩,fun _=>none,fun _=>0,fun _=>0,fun _=>none,fun _=>0,fun _=>0,fun _=>none⟩
def locLY:RLoc:=⟨0,0,0,0,0,0,0,fun _=>0,fun _=>0,[]⟩
def datLY:RDat:=⟨cf0,sl0,fun _=>[],fun _=>[],[],0⟩
theorem ints_litY {w:World}{g:Nat}{A:List Int}{t:TypeId}(h:Row w g (A.map (Value.int .i64)) t)(hA:A.length≤100):Ints w (some ⟨g,0,none⟩) A.length A.length A:=by
 refine ⟨rfl,Nat.le_refl _,by unfold maxLen;omega,(fun h=>by cases h),fun i hi=>⟨g,0,rfl,?_⟩⟩
 rw [Nat.zero_add,h.cell,List.getElem?_map]
 simp [List.getD,hi]
end Go.Proofs.YtehheaedbnfidaaGreat
