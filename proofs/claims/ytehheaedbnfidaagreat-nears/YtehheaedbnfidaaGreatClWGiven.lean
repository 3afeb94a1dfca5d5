import Derived.Laws.Cover3
import Derived.Test.YtehheaedbnfidaaGreatClWLentT
import Derived.Test.YtehheaedbnfidaaGreatClWNewI
set_option maxRecDepth 100000
namespace Go.Proofs.YtehheaedbnfidaaGreat
open Go.RowKit
abbrev prA (x l:Nat):Array Value:=#[.pointer (some ⟨x,0,none⟩),.pointer (some ⟨l,0,none⟩)]
structure GB (w wx:World)(x l:Nat)(st:St):Prop where
 pr:Row wx w.heap.size [.pointer (some ⟨x,0,none⟩),.pointer (some ⟨l,0,none⟩)] 50
 op:Row wx (w.heap.size+1) [.int .i64 st.k,.int .i64 st.a,.int .i64 st.b,.int .i64 st.c,.int .i64 st.d] 36
theorem GB.start (w:World)(x l:Nat)(st:St):GB w ((w.alloc (.cells (prA x l) 50)).alloc (.cells (opA st) 36)) x l st:=by
 have r1:Row (w.alloc (.cells (prA x l) 50)) w.heap.size [.pointer (some ⟨x,0,none⟩),.pointer (some ⟨l,0,none⟩)] 50:=heap_alloc_new w _
 have r2:Row ((w.alloc (.cells (prA x l) 50)).alloc (.cells (opA st) 36)) (w.alloc (.cells (prA x l) 50)).heap.size [.int .i64 st.k,.int .i64 st.a,.int .i64 st.b,.int .i64 st.c,.int .i64 st.d] 36:=heap_alloc_new _ _
 rw [World.size_alloc] at r2
 exact ⟨Row.alloc r1 _,r2⟩
theorem GB.touch {w wx wy:World}{x l:Nat}{st:St}{F:Nat→Prop}(h:GB w wx x l st)(hT:Touch F wx wy)(h0:¬F w.heap.size)(h1:¬F (w.heap.size+1)):GB w wy x l st:=
 ⟨h.pr.same (hT.block _ h.pr.lt h0),h.op.same (hT.block _ h.op.lt h1)⟩
def After (W w w':World)(o:Own)(e p b:Value)(ts:List Int)(os:List (Int × Int × Int))(zone:Nat→Option Nat)(n:Nat)(ma:Option Addr)(mc:Nat):Prop:=
 ∃ zone' X' m' L' M',MI W w' o e p b ts os zone' n X' m' L' M' ma mc∧Touch (MZ W.heap.size o zone (.slice ma n mc)) w w'∧∀ b,b<w.heap.size→MZ W.heap.size o zone' (.slice ma n mc) b→MZ W.heap.size o zone (.slice ma n mc) b
theorem MI.after {W w wb w2:World}{o:Own}{e p b:Value}{ts:List Int}{os:List (Int × Int × Int)}{zone zone':Nat→Option Nat}{n:Nat}{X X':Nat→XLoc}{m m':Nat→Mh}{L L':Nat→RLoc}{M M':Nat→RDat}{ma:Option Addr}{mc:Nat}(h:MI W w o e p b ts os zone n X m L M ma mc)(hb:Below w.heap.size w wb)
  (hms:MS W w2 zone' n X' m' L' M') (hz:∀ b,b<wb.heap.size→zone' b=zone b) (hT:Touch (fun b=>zone b≠none) wb w2) (hp:pairsL X' L' n=pairsL X L n):After W w w2 o e p b ts os zone n ma mc:=by
 obtain ⟨h1,h2,h3⟩:=(h.below hb).call hms hz hT hp
 refine ⟨zone',X',m',L',M',h1,?_,fun g hg hq=>h3 g (by have:=hb.size;omega) hq⟩
 refine ⟨h2.os.trans hb.os,h2.tape.trans hb.tape,h2.output.trans hb.output,Nat.le_trans hb.size h2.size,fun g hg hf=>(h2.block g (by have:=hb.size;omega) hf).trans (hb.block g hg)⟩
set_option maxHeartbeats 3200000 in
theorem given_fill (W w:World)(o:Own)(e p b:Value)(ts:List Int)(os:List (Int × Int × Int))(zone:Nat→Option Nat)(n:Nat)(X:Nat→XLoc)(m:Nat→Mh)(L:Nat→RLoc)(M:Nat→RDat)(ma:Option Addr)(mc:Nat)(h:MI W w o e p b ts os zone n X m L M ma mc)(j:Nat)(hj:j<n)(st:St)(hk:st.k=13) :
  Calls Tryz.prog 21 #[.pointer (some ⟨W.heap.size,0,none⟩),.agg (prA (X j).g (L j).gr),opV st] w fun x w'=>x = .returned (.bool true)∧After W w w' o e p b ts os zone n ma mc:=by
 obtain ⟨k,a,bb,cc,dd⟩:=st
 simp only at hk
 subst hk
 have hb0:Below w.heap.size w ((w.alloc (.cells (prA (X j).g (L j).gr) 50)).alloc (.cells (opA ⟨13,a,bb,cc,dd⟩) 36)):=((Below.refl _ _).alloc (Nat.le_refl _) _).alloc (by simp) _
 have G0:=GB.start w (X j).g (L j).gr ⟨13,a,bb,cc,dd⟩
 obtain ⟨wb,hwb⟩:∃ wb,(w.alloc (.cells (prA (X j).g (L j).gr) 50)).alloc (.cells (opA ⟨13,a,bb,cc,dd⟩) 36)=wb:=⟨_,rfl⟩
 rw [hwb] at hb0 G0
 have HWB:Hid _:=hwb
 have H1:=(h.below hb0).ms
 have hF:=wFill_any (cnOf (M j).c) (X j) (m j) bb cc dd wb (H1.mach j hj)
 have hz:=(h.ms.ref j hj).right
 have hT0:=(h.ms.ref j hj).T0
 have hl:∀ d,d<(M j).c.domains.toNat→((M j).ow d).length=(M j).c.priv.toNat:=fun d hd=>((h.ms.ref j hj).oat d (by have:=(h.ms.ref j hj).nd;omega)).1
 obtain ⟨pe,pp⟩:=(h.ms.pair j hj).fill hz hT0 hl bb cc dd
 rw [pe] at hF
 have p0:wb.cell? ⟨w.heap.size,0,none⟩=some (.pointer (some ⟨(X j).g,0,none⟩)):=G0.pr.cell 0
 have k0:wb.cell? ⟨w.heap.size+1,0,none⟩=some (.int .i64 13):=G0.op.cell 0
 have k2:wb.cell? ⟨w.heap.size+1,2,none⟩=some (.int .i64 bb):=G0.op.cell 2
 have k3:wb.cell? ⟨w.heap.size+1,3,none⟩=some (.int .i64 cc):=G0.op.cell 3
 have k4:wb.cell? ⟨w.heap.size+1,4,none⟩=some (.int .i64 dd):=G0.op.cell 4
 have l0:=G0.pr.lt
 have l1:=G0.op.lt
 have nx:∀ g,w.heap.size≤g→¬(X j).mine g∧¬(L j).own g:=fun g hg=>⟨fun q=>by have:=(h.ms.zlt g (by rw [h.ms.zx j g hj q];simp)).2;omega,fun q=>by have:=(h.ms.zlt g (by rw [h.ms.zl j g hj q];simp)).2;omega⟩
 have HH:Hid _:=h
 have HG0:Hid _:=G0
 have HB0:Hid _:=hb0
 have HPP:Hid _:=pp
 have HNX:Hid _:=nx
 have H1':Hid _:=H1
 clear h hb0 G0 H1 hz hT0 hl pe pp nx hwb
 go_enter Tryz.func21,Tryz.ntmps21
 go_wp2_with fail
 rw [HWB.out]
 refine hF.mono ?_;rintro x w1 ⟨rfl,hM1,hG1⟩
 have G1:=HG0.out.touch hG1.tch (HNX.out _ (Nat.le_refl _)).1 (HNX.out _ (by omega)).1
 obtain ⟨hR1,hlt1⟩:=H1'.out.aside hj hG1
 have hR:=rFill_any (L j) (M j) bb cc dd w1 hR1
 have p1:w1.cell? ⟨w.heap.size,1,none⟩=some (.pointer (some ⟨(L j).gr,0,none⟩)):=G1.pr.cell 1
 have q2:w1.cell? ⟨w.heap.size+1,2,none⟩=some (.int .i64 bb):=G1.op.cell 2
 have q3:w1.cell? ⟨w.heap.size+1,3,none⟩=some (.int .i64 cc):=G1.op.cell 3
 have q4:w1.cell? ⟨w.heap.size+1,4,none⟩=some (.int .i64 dd):=G1.op.cell 4
 have l0:=G1.pr.lt
 have l1:=G1.op.lt
 have HM1:Hid _:=hM1
 have HG1:Hid _:=hG1
 have HLT:Hid _:=hlt1
 clear hF p0 k0 k2 k3 k4 hM1 hG1 hR1 hlt1 G1
 go_wp2_with fail
 refine hR.mono ?_;rintro x w2 ⟨rfl,hR2,hT2⟩
 obtain ⟨zone',hms,hz',hT'⟩:=H1'.out.both hj HM1.out HG1.out hR2 hT2 (fun _ _ q=>q) (fun b hb=>Nat.lt_of_lt_of_le (HLT.out b hb) hT2.size) (by unfold fillM;split <;> rfl) (by unfold fillM;split <;> rfl) HPP.out
 have HA:Hid _:=HH.out.after HB0.out hms hz' hT' (pairs_same X L n j _ _ rfl rfl)
 clear hR hR2 hT2 hms hz' hT' p1 q2 q3 q4
 generalize fillE (M j) bb cc=ev
 go_wp2_with fail
 try go_quiet (fail)
 try go_wp2
 go_ret
 exact ⟨ret_bool (by simp),HA.out⟩
set_option maxHeartbeats 3200000 in
theorem given_share (W w:World)(o:Own)(e p b:Value)(ts:List Int)(os:List (Int × Int × Int))(zone:Nat→Option Nat)(n:Nat)(X:Nat→XLoc)(m:Nat→Mh)(L:Nat→RLoc)(M:Nat→RDat)(ma:Option Addr)(mc:Nat)(h:MI W w o e p b ts os zone n X m L M ma mc)(j:Nat)(hj:j<n)(st:St)(hk:st.k=14) :
  Calls Tryz.prog 21 #[.pointer (some ⟨W.heap.size,0,none⟩),.agg (prA (X j).g (L j).gr),opV st] w fun x w'=>x = .returned (.bool true)∧After W w w' o e p b ts os zone n ma mc:=by
 obtain ⟨k,a,bb,cc,dd⟩:=st
 simp only at hk
 subst hk
 have hb0:Below w.heap.size w ((w.alloc (.cells (prA (X j).g (L j).gr) 50)).alloc (.cells (opA ⟨14,a,bb,cc,dd⟩) 36)):=((Below.refl _ _).alloc (Nat.le_refl _) _).alloc (by simp) _
 have G0:=GB.start w (X j).g (L j).gr ⟨14,a,bb,cc,dd⟩
 obtain ⟨wb,hwb⟩:∃ wb,(w.alloc (.cells (prA (X j).g (L j).gr) 50)).alloc (.cells (opA ⟨14,a,bb,cc,dd⟩) 36)=wb:=⟨_,rfl⟩
 rw [hwb] at hb0 G0
 have HWB:Hid _:=hwb
 have H1:=(h.below hb0).ms
 have hF:=wShare_any (cnOf (M j).c) (X j) (m j) bb cc wb (H1.mach j hj)
 have hz:=(h.ms.ref j hj).right
 have hT0:=(h.ms.ref j hj).T0
 have hl:(M j).cm.length=(M j).c.shared.toNat:=by have:=(h.ms.ref j hj).clen;have:=(h.ms.ref j hj).ns;omega
 obtain ⟨pe,pp⟩:=(h.ms.pair j hj).share hz hT0 hl bb cc
 rw [pe] at hF
 have p0:wb.cell? ⟨w.heap.size,0,none⟩=some (.pointer (some ⟨(X j).g,0,none⟩)):=G0.pr.cell 0
 have k0:wb.cell? ⟨w.heap.size+1,0,none⟩=some (.int .i64 14):=G0.op.cell 0
 have k2:wb.cell? ⟨w.heap.size+1,2,none⟩=some (.int .i64 bb):=G0.op.cell 2
 have k3:wb.cell? ⟨w.heap.size+1,3,none⟩=some (.int .i64 cc):=G0.op.cell 3
 have l0:=G0.pr.lt
 have l1:=G0.op.lt
 have nx:∀ g,w.heap.size≤g→¬(X j).mine g∧¬(L j).own g:=fun g hg=>⟨fun q=>by have:=(h.ms.zlt g (by rw [h.ms.zx j g hj q];simp)).2;omega,fun q=>by have:=(h.ms.zlt g (by rw [h.ms.zl j g hj q];simp)).2;omega⟩
 have HH:Hid _:=h
 have HG0:Hid _:=G0
 have HB0:Hid _:=hb0
 have HPP:Hid _:=pp
 have HNX:Hid _:=nx
 have H1':Hid _:=H1
 clear h hb0 G0 H1 hz hT0 hl pe pp nx hwb
 go_enter Tryz.func21,Tryz.ntmps21
 go_wp2_with fail
 rw [HWB.out]
 refine hF.mono ?_;rintro x w1 ⟨rfl,hM1,hG1⟩
 have G1:=HG0.out.touch hG1.tch (HNX.out _ (Nat.le_refl _)).1 (HNX.out _ (by omega)).1
 obtain ⟨hR1,hlt1⟩:=H1'.out.aside hj hG1
 have hR:=rShare_any (L j) (M j) bb cc w1 hR1
 have p1:w1.cell? ⟨w.heap.size,1,none⟩=some (.pointer (some ⟨(L j).gr,0,none⟩)):=G1.pr.cell 1
 have q2:w1.cell? ⟨w.heap.size+1,2,none⟩=some (.int .i64 bb):=G1.op.cell 2
 have q3:w1.cell? ⟨w.heap.size+1,3,none⟩=some (.int .i64 cc):=G1.op.cell 3
 have l0:=G1.pr.lt
 have l1:=G1.op.lt
 have HM1:Hid _:=hM1
 have HG1:Hid _:=hG1
 have HLT:Hid _:=hlt1
 clear hF p0 k0 k2 k3 hM1 hG1 hR1 hlt1 G1
 go_wp2_with fail
 refine hR.mono ?_;rintro x w2 ⟨rfl,hR2,hT2⟩
 obtain ⟨zone',hms,hz',hT'⟩:=H1'.out.both hj HM1.out HG1.out hR2 hT2 (fun _ _ q=>q) (fun b hb=>Nat.lt_of_lt_of_le (HLT.out b hb) hT2.size) (by unfold shareM;split <;> rfl) (by unfold shareM;split <;> rfl) HPP.out
 have HA:Hid _:=HH.out.after HB0.out hms hz' hT' (pairs_same X L n j _ _ rfl rfl)
 clear hR hR2 hT2 hms hz' hT' p1 q2 q3
 generalize shareE (M j) bb=ev
 go_wp2_with fail
 try go_quiet (fail)
 try go_wp2
 go_ret
 exact ⟨ret_bool (by simp),HA.out⟩
set_option maxHeartbeats 3200000 in
theorem given_run (W w:World)(o:Own)(e p b:Value)(ts:List Int)(os:List (Int × Int × Int))(zone:Nat→Option Nat)(n:Nat)(X:Nat→XLoc)(m:Nat→Mh)(L:Nat→RLoc)(M:Nat→RDat)(ma:Option Addr)(mc:Nat)(h:MI W w o e p b ts os zone n X m L M ma mc)(j:Nat)(hj:j<n)(st:St)(hk:st.k=15) :
  Calls Tryz.prog 21 #[.pointer (some ⟨W.heap.size,0,none⟩),.agg (prA (X j).g (L j).gr),opV st] w fun x w'=>x = .returned (.bool true)∧After W w w' o e p b ts os zone n ma mc:=by
 obtain ⟨k,a,bb,cc,dd⟩:=st
 simp only at hk
 subst hk
 have hb0:Below w.heap.size w ((w.alloc (.cells (prA (X j).g (L j).gr) 50)).alloc (.cells (opA ⟨15,a,bb,cc,dd⟩) 36)):=((Below.refl _ _).alloc (Nat.le_refl _) _).alloc (by simp) _
 have G0:=GB.start w (X j).g (L j).gr ⟨15,a,bb,cc,dd⟩
 obtain ⟨wb,hwb⟩:∃ wb,(w.alloc (.cells (prA (X j).g (L j).gr) 50)).alloc (.cells (opA ⟨15,a,bb,cc,dd⟩) 36)=wb:=⟨_,rfl⟩
 rw [hwb] at hb0 G0
 have HWB:Hid _:=hwb
 have H1:=(h.below hb0).ms
 have hF:=wRun_any (cnOf (M j).c) (X j) (m j) bb wb (H1.mach j hj) ((h.ms.pair j hj).ok (h.ms.ref j hj).right (h.ms.ref j hj).T0).1
 have hz:=(h.ms.ref j hj).right
 have hT0:=(h.ms.ref j hj).T0
 obtain ⟨pe,pp⟩:=(h.ms.pair j hj).runs hz hT0 bb
 rw [pe] at hF
 have p0:wb.cell? ⟨w.heap.size,0,none⟩=some (.pointer (some ⟨(X j).g,0,none⟩)):=G0.pr.cell 0
 have k0:wb.cell? ⟨w.heap.size+1,0,none⟩=some (.int .i64 15):=G0.op.cell 0
 have k2:wb.cell? ⟨w.heap.size+1,2,none⟩=some (.int .i64 bb):=G0.op.cell 2
 have l0:=G0.pr.lt
 have l1:=G0.op.lt
 have nx:∀ g,w.heap.size≤g→¬(X j).mine g∧¬(L j).own g:=fun g hg=>⟨fun q=>by have:=(h.ms.zlt g (by rw [h.ms.zx j g hj q];simp)).2;omega,fun q=>by have:=(h.ms.zlt g (by rw [h.ms.zl j g hj q];simp)).2;omega⟩
 have HH:Hid _:=h
 have HG0:Hid _:=G0
 have HB0:Hid _:=hb0
 have HPP:Hid _:=pp
 have HNX:Hid _:=nx
 have H1':Hid _:=H1
 clear h hb0 G0 H1 hz hT0 pe pp nx hwb
 go_enter Tryz.func21,Tryz.ntmps21
 go_wp2_with fail
 rw [HWB.out]
 refine hF.mono ?_;rintro x w1 ⟨rfl,X',hM1,hG1⟩
 have G1:=HG0.out.touch hG1.tch (HNX.out _ (Nat.le_refl _)).1 (HNX.out _ (by omega)).1
 obtain ⟨hR1,hlt1⟩:=H1'.out.aside hj hG1
 have hR:=rRun_any (L j) (M j) bb w1 hR1
 have p1:w1.cell? ⟨w.heap.size,1,none⟩=some (.pointer (some ⟨(L j).gr,0,none⟩)):=G1.pr.cell 1
 have q2:w1.cell? ⟨w.heap.size+1,2,none⟩=some (.int .i64 bb):=G1.op.cell 2
 have l0:=G1.pr.lt
 have l1:=G1.op.lt
 have HM1:Hid _:=hM1
 have HG1:Hid _:=hG1
 have HLT:Hid _:=hlt1
 clear hF p0 k0 k2 hM1 hG1 hR1 hlt1 G1
 go_wp2_with fail
 refine hR.mono ?_;rintro x w2 ⟨rfl,hR2,hT2⟩
 obtain ⟨zone',hms,hz',hT'⟩:=H1'.out.both hj HM1.out HG1.out hR2 hT2 (fun _ _ q=>q) (fun b hb=>Nat.lt_of_lt_of_le (HLT.out b hb) hT2.size) rfl rfl HPP.out
 have HA:Hid _:=HH.out.after HB0.out hms hz' hT' (pairs_same X L n j _ _ HG1.out.g rfl)
 clear hR hR2 hT2 hms hz' hT' p1 q2
 generalize runE (M j) bb=ev
 go_wp2_with fail
 try go_quiet (fail)
 try go_wp2
 go_ret
 exact ⟨ret_bool (by simp),HA.out⟩
set_option maxHeartbeats 3200000 in
theorem given_now (W w:World)(o:Own)(e p b:Value)(ts:List Int)(os:List (Int × Int × Int))(zone:Nat→Option Nat)(n:Nat)(X:Nat→XLoc)(m:Nat→Mh)(L:Nat→RLoc)(M:Nat→RDat)(ma:Option Addr)(mc:Nat)(h:MI W w o e p b ts os zone n X m L M ma mc)(j:Nat)(hj:j<n)(st:St)(hk:st.k=16) :
  Calls Tryz.prog 21 #[.pointer (some ⟨W.heap.size,0,none⟩),.agg (prA (X j).g (L j).gr),opV st] w fun x w'=>x = .returned (.bool true)∧After W w w' o e p b ts os zone n ma mc:=by
 obtain ⟨k,a,bb,cc,dd⟩:=st
 simp only at hk
 subst hk
 have hb0:Below w.heap.size w ((w.alloc (.cells (prA (X j).g (L j).gr) 50)).alloc (.cells (opA ⟨16,a,bb,cc,dd⟩) 36)):=((Below.refl _ _).alloc (Nat.le_refl _) _).alloc (by simp) _
 have G0:=GB.start w (X j).g (L j).gr ⟨16,a,bb,cc,dd⟩
 obtain ⟨wb,hwb⟩:∃ wb,(w.alloc (.cells (prA (X j).g (L j).gr) 50)).alloc (.cells (opA ⟨16,a,bb,cc,dd⟩) 36)=wb:=⟨_,rfl⟩
 rw [hwb] at hb0 G0
 have HWB:Hid _:=hwb
 have H1:=(h.below hb0).ms
 have hF:=wNow_any (cnOf (M j).c) (X j) (m j) wb (H1.mach j hj)
 have hn:=((h.ms.pair j hj).ok (h.ms.ref j hj).right (h.ms.ref j hj).T0).2
 rw [hn] at hF
 have p0:wb.cell? ⟨w.heap.size,0,none⟩=some (.pointer (some ⟨(X j).g,0,none⟩)):=G0.pr.cell 0
 have p1:wb.cell? ⟨w.heap.size,1,none⟩=some (.pointer (some ⟨(L j).gr,0,none⟩)):=G0.pr.cell 1
 have k0:wb.cell? ⟨w.heap.size+1,0,none⟩=some (.int .i64 16):=G0.op.cell 0
 have c16:wb.cell? ⟨(L j).gr,16,none⟩=some (.int .i64 (M j).T):=by rw [(H1.ref j hj).row.cell];rfl
 have l0:=G0.pr.lt
 have l1:=G0.op.lt
 have l2:=(H1.ref j hj).row.lt
 have HA:Hid (∀ w2,Below wb.heap.size wb w2→After W w w2 o e p b ts os zone n ma mc):=fun w2 hb2=>⟨zone,X,m,L,M,(h.below hb0).below hb2,Touch.of_below (below_step hb0 hb2 rfl) (Nat.le_refl _),fun _ _ q=>q⟩
 clear h hb0 G0 H1 hn hwb
 generalize (M j).T=tv at *
 go_enter Tryz.func21,Tryz.ntmps21
 go_wp2_with fail
 rw [HWB.out]
 refine hF.mono ?_;rintro x w1 ⟨rfl,rfl⟩
 clear hF
 go_wp2_with fail
 try go_quiet (fail)
 try go_wp2
 go_ret
 exact ⟨ret_bool (by simp),HA.out _ (by first | exact Below.refl _ _ | exact ⟨rfl,rfl,rfl,Nat.le_refl _,fun _ _=>rfl⟩)⟩
end Go.Proofs.YtehheaedbnfidaaGreat
namespace Go.Proofs.YtehheaedbnfidaaGreat
open Go.RowKit
attribute [local go_sem] Tryz.nilOps
set_option maxHeartbeats 1600000 in
theorem wholeOps_some (g:Nat)(sa:Addr)(len cap:Nat)(os:List OpT)(w:World)(h:OpsAt w (some sa) len cap os)(hr:len*24≤140737488351232)(hg:Row w g (opsL (lentO os 8)) 69) :
  Calls Tryz.prog 55 #[.slice (some ⟨g,0,none⟩) len (len+8),.slice (some sa) len cap] w fun e w'=>e = .returned (.bool true)∧Below w.heap.size w w':=by
 have HL:Hid (os.length=len):=h.hlen
 have hle:=h.hle
 have HH:Hid _:=h
 have HG:Hid (Row w g (opsL (lentO os 8)) 69):=hg
 clear h hg
 go_enter Tryz.func55,Tryz.ntmps55
 go_wp2
 go_loopw [7] (fun u wr=>∃ k:Nat,k≤len+8∧u = .int .i64 k∧Below w.heap.size w wr) (fun u _=>len+8-(intOf u).toNat)
 case atStart=>exact ⟨0,by omega,rfl,Below.refl _ _⟩
 case round=>
  obtain ⟨k,hk,rfl,hb⟩:=hrel
  have HB:Hid _:=hb
  have r:Row wr g (opsL (lentO os 8)) 69:=Row.below HG.out hb HG.out.lt
  by_cases hk8:k<len+8
  ·
   obtain ⟨g1,g2,g3⟩:=opsL_at (os:=lentO os 8) (i:=k) (by rw [lentO_len os 8 (Nat.le_refl _),HL.out];exact hk8)
   have lg:=r.lt
   by_cases hlt:k<len
   ·
    obtain ⟨b,off,hsa,a1,a2,a3⟩:=(HH.out.below hb (Nat.le_refl _)).hat k hlt
    simp only [Option.some.injEq] at hsa
    subst hsa
    rw [lentO_at (by rw [HL.out];exact hlt)] at g1 g2 g3
    have c1:wr.cell? ⟨g,k*3,none⟩=some (.int .i64 (os.getD k opZ).1):=(r.cell _).trans g1
    have c2:wr.cell? ⟨g,k*3+1,none⟩=some (.int .i64 (os.getD k opZ).2.1):=(r.cell _).trans g2
    have c3:wr.cell? ⟨g,k*3+2,none⟩=some (.int .i64 (os.getD k opZ).2.2):=(r.cell _).trans g3
    have lb:=cell_lt a1
    generalize os.getD k opZ=oz at *
    obtain ⟨z1,z2,z3⟩:=oz
    simp only at a1 a2 a3 c1 c2 c3
    clear hb r g1 g2 g3
    go_wp2_with fail
    try go_quiet (fail)
    try go_wp2_with fail
    go_roundw
    case rel=>
     exact ⟨k+1,by omega,by go_num,(HB.out.alloc HB.out.size _).trans ⟨rfl,rfl,rfl,Nat.le_refl _,fun _ _=>rfl⟩⟩
    case measure=>simp [intOf];omega
   ·
    rw [lentO_past (by rw [HL.out];omega) (by rw [HL.out];exact hk8)] at g1 g2 g3
    have c1:wr.cell? ⟨g,k*3,none⟩=some (.int .i64 77):=(r.cell _).trans g1
    have c2:wr.cell? ⟨g,k*3+1,none⟩=some (.int .i64 77):=(r.cell _).trans g2
    have c3:wr.cell? ⟨g,k*3+2,none⟩=some (.int .i64 77):=(r.cell _).trans g3
    clear hb r g1 g2 g3
    go_wp2_with fail
    try go_quiet (fail)
    try go_wp2_with fail
    go_roundw
    case rel=>
     exact ⟨k+1,by omega,by go_num,(HB.out.alloc HB.out.size _).trans ⟨rfl,rfl,rfl,Nat.le_refl _,fun _ _=>rfl⟩⟩
    case measure=>simp [intOf];omega
  ·
   clear r hb
   go_wp2
   go_ret
   exact ⟨rfl,HB.out⟩
set_option maxHeartbeats 1600000 in
theorem spoilOps_some (g len cap:Nat)(os:List OpT)(w:World)(hl:os.length=len+8)(hr:len*24≤140737488351232)(hc:len≤cap)(hcm:cap≤140737488355328)(hg:Row w g (opsL os) 69) :
  Calls Tryz.prog 56 #[.slice (some ⟨g,0,none⟩) len cap] w fun e w'=>e = .returned (.tuple #[])∧Touch (fun b=>b=g) w w':=by
 have HL:Hid _:=hl
 have HG:Hid (Row w g (opsL os) 69):=hg
 clear hg hl
 go_enter Tryz.func56,Tryz.ntmps56
 go_wp2_with fail
 go_loopw [2] (fun u wr=>∃ (k:Nat) (ps:List OpT),k≤len∧u = .int .i64 k∧ps.length=len+8∧Row wr g (opsL ps) 69∧Touch (fun b=>b=g) w wr) (fun u _=>len-(intOf u).toNat)
 case atStart=>exact ⟨0,os,by omega,rfl,HL.out,HG.out,Touch.refl _ _⟩
 case round=>
  obtain ⟨k,ps,hk,rfl,hpl,r,ht⟩:=hrel
  have HT:Hid _:=ht
  have HR:Hid (Row wr g (opsL ps) 69):=r
  have HPL:Hid _:=hpl
  by_cases hlt:k<len
  ·
   obtain ⟨g1,g2,g3⟩:=opsL_at (os:=ps) (i:=k) (by omega)
   have c1:wr.cell? ⟨g,k*3,none⟩=some (.int .i64 (ps.getD k opZ).1):=(r.cell _).trans g1
   have c2:wr.cell? ⟨g,k*3+1,none⟩=some (.int .i64 (ps.getD k opZ).2.1):=(r.cell _).trans g2
   have c3:wr.cell? ⟨g,k*3+2,none⟩=some (.int .i64 (ps.getD k opZ).2.2):=(r.cell _).trans g3
   have f1:=r.frozen (k*3)
   have f2:=r.frozen (k*3+1)
   have f3:=r.frozen (k*3+2)
   have lr:=r.lt
   generalize ps.getD k opZ=oz at *
   clear r ht g1 g2 g3 hpl
   go_wp2_with fail
   go_roundw
   case rel=>
    refine ⟨k+1,ps.set k (1,0,77),by omega,by go_num,by rw [List.length_set];exact HPL.out,?_,?_⟩
    ·
     have:=((HR.out.setCell (k*3) (.int .i64 1)).setCell (k*3+1) (.int .i64 0)).setCell (k*3+2) (.int .i64 77)
     rw [opsL_set ps k 1 0 77 (by have:=HPL.out;omega)] at this
     exact this
    · exact ((HT.out.trans (Touch.setCell _ _ _ _ rfl)).trans (Touch.setCell _ _ _ _ rfl)).trans (Touch.setCell _ _ _ _ rfl)
   case measure=>simp [intOf];omega
  ·
   clear r ht hpl
   go_wp2
   go_end0
   exact ⟨rfl,HT.out⟩
theorem spoilOps_none (w:World) :
  Calls Tryz.prog 56 #[.slice none 0 0] w fun e w'=>e = .returned (.tuple #[])∧w'=w:=by
 go_enter Tryz.func56,Tryz.ntmps56
 go_wp2_with fail
 go_loopw [2] (fun u wr=>u = .int .i64 0∧wr=w) (fun _ _=>0)
 case atStart=>exact ⟨rfl,rfl⟩
 case round=>
  obtain ⟨rfl,rfl⟩:=hrel
  go_wp2
  go_end0
  exact ⟨rfl,rfl⟩
end Go.Proofs.YtehheaedbnfidaaGreat
namespace Go.Proofs.YtehheaedbnfidaaGreat
open Go.RowKit
def LentPr (w:World)(sa:Option Addr)(os:List OpT)(va:Option Addr)(vl vc g:Nat):Prop:=
 (sa=none∧os=[]∧va=none∧vl=0∧vc=0)∨(sa≠none∧va=some ⟨g,0,none⟩∧vl=os.length∧vc=os.length+8∧Row w g (opsL (lentO os 8)) 69)
theorem LentPr.same {w w':World}{sa:Option Addr}{os:List OpT}{va:Option Addr}{vl vc g:Nat}(h:LentPr w sa os va vl vc g)(hg:g<w.heap.size→w'.heap[g]? = w.heap[g]?):LentPr w' sa os va vl vc g:=by
 rcases h with h|⟨h1,h2,h3,h4,h5⟩
 · exact Or.inl h
 · exact Or.inr ⟨h1,h2,h3,h4,h5.same (hg h5.lt)⟩
theorem LentPr.ops {w:World}{sa:Option Addr}{os:List OpT}{va:Option Addr}{vl vc g:Nat}(h:LentPr w sa os va vl vc g)(hr:os.length*24≤140737488351232):OpsAt w va vl vc os:=by
 rcases h with ⟨_,rfl,rfl,rfl,rfl⟩|⟨_,rfl,rfl,rfl,h5⟩
 · exact ⟨rfl,Nat.le_refl _,by unfold maxLen;omega,fun i hi=>by omega⟩
 ·
  refine ⟨rfl,by omega,by unfold maxLen;omega,fun i hi=>⟨g,0,rfl,?_⟩⟩
  obtain ⟨g1,g2,g3⟩:=opsL_at (os:=lentO os 8) (i:=i) (by rw [lentO_len os 8 (Nat.le_refl _)];omega)
  rw [lentO_at hi] at g1 g2 g3
  rw [Nat.zero_add]
  exact ⟨(h5.cell _).trans g1,(h5.cell _).trans g2,(h5.cell _).trans g3⟩
theorem lentOps_any (sa:Option Addr)(len cap:Nat)(os:List OpT)(w:World)(h:OpsAt w sa len cap os)(hn:sa=none→len=0∧cap=0)(hr:os.length*24≤140737488351232) :
  Calls Tryz.prog 52 #[.slice sa len cap] w fun e w'=>∃ va vl vc,e = .returned (.slice va vl vc)∧LentPr w' sa os va vl vc w.heap.size∧Below w.heap.size w w':=by
 have hl:=h.hlen
 cases sa with
 | none=>
  obtain ⟨rfl,rfl⟩:=hn rfl
  refine (lentOps_none w).mono ?_
  rintro e w' ⟨rfl,rfl⟩
  exact ⟨none,0,0,rfl,Or.inl ⟨rfl,List.eq_nil_of_length_eq_zero hl,rfl,rfl,rfl⟩,Below.refl _ _⟩
 | some a=>
  refine (lentOps_some a len cap os w h (by rw [← hl];exact hr)).mono ?_
  rintro e w' ⟨rfl,rfl⟩
  exact ⟨_,_,_,rfl,Or.inr ⟨by simp,rfl,hl.symm,by rw [hl],heap_alloc_new w _⟩,(Below.refl _ _).alloc (Nat.le_refl _) _⟩
theorem wholeOps_any (sa:Option Addr)(len cap:Nat)(os:List OpT)(va:Option Addr)(vl vc g:Nat)(w:World)(h:OpsAt w sa len cap os)(hn:sa=none→len=0∧cap=0)(hr:os.length*24≤140737488351232)(hl:LentPr w sa os va vl vc g) :
  Calls Tryz.prog 55 #[.slice va vl vc,.slice sa len cap] w fun e w'=>e = .returned (.bool true)∧Below w.heap.size w w':=by
 have hol:=h.hlen
 rcases hl with ⟨rfl,rfl,rfl,rfl,rfl⟩|⟨h1,rfl,rfl,rfl,h5⟩
 ·
  obtain ⟨rfl,rfl⟩:=hn rfl
  refine (wholeOps_none none 0 0 w).mono ?_
  rintro e w' ⟨rfl,rfl⟩
  exact ⟨rfl,Below.refl _ _⟩
 ·
  cases sa with
  | none=>exact absurd rfl h1
  | some a=>
   rw [hol]
   exact wholeOps_some g a len cap os w h (by rw [← hol];exact hr) h5
theorem spoilOps_any (sa:Option Addr)(os:List OpT)(va:Option Addr)(vl vc g:Nat)(w:World)(hr:os.length*24≤140737488351232)(hl:LentPr w sa os va vl vc g) :
  Calls Tryz.prog 56 #[.slice va vl vc] w fun e w'=>e = .returned (.tuple #[])∧Touch (fun b=>b=g∧va≠none) w w':=by
 rcases hl with ⟨_,rfl,rfl,rfl,rfl⟩|⟨_,rfl,rfl,rfl,h5⟩
 ·
  refine (spoilOps_none w).mono ?_
  rintro e w' ⟨rfl,rfl⟩
  exact ⟨rfl,Touch.refl _ _⟩
 ·
  refine (spoilOps_some g os.length (os.length+8) (lentO os 8) w (lentO_len os 8 (Nat.le_refl _)) hr (by omega) (by omega) h5).mono ?_
  rintro e w' ⟨rfl,hT⟩
  exact ⟨rfl,hT.mono (fun b hb=>⟨hb,by simp⟩)⟩
theorem ops_of {w:World}{base ol oc:Nat}{oa:Option Addr}{os:List OpT}(h:w.ownsRow base 69 3 (.slice oa ol oc) os.length (opsL os)):OpsAt w oa ol oc os∧(oa=none→ol=0∧oc=0):=by
 rcases h.2 with ⟨hv,hx⟩|⟨g,cap,cur,hv,hg,hh,h1,h2,h3⟩
 ·
  simp only [Value.slice.injEq] at hv
  obtain ⟨rfl,rfl,rfl⟩:=hv
  have e:os=[]:=by
   by_cases q:os=[]
   · exact q
   ·
    have:0<os.length:=by cases os with
     | nil=>exact absurd rfl q
     | cons _ _=>simp
    obtain ⟨g,cap,hv,_,_⟩:=World.ownsRow.form h this
    simp at hv
  subst e
  exact ⟨⟨rfl,Nat.le_refl _,by unfold maxLen;omega,fun i hi=>by omega⟩,fun _=>⟨rfl,rfl⟩⟩
 ·
  simp only [Value.slice.injEq] at hv
  obtain ⟨rfl,rfl,rfl⟩:=hv
  refine ⟨⟨rfl,h1,h2,fun i hi=>⟨g,0,rfl,?_⟩⟩,fun q=>by cases q⟩
  have hc:=owns_cells h (fun i=>((opsL os)[i]?).getD undef) (fun i hi=>by
   have:i<(opsL os).length:=by rw [opsL_len];exact hi
   rw [List.getElem?_eq_getElem this];rfl)
  obtain ⟨g1,g2,g3⟩:=opsL_at (os:=os) (i:=i) hi
  rw [Nat.zero_add]
  refine ⟨?_,?_,?_⟩
  · rw [hc.1.cell (by omega),g1];rfl
  · rw [hc.1.cell (by omega),g2];rfl
  · rw [hc.1.cell (by omega),g3];rfl
theorem MI.tch {W w w':World}{o:Own}{e p b:Value}{ts:List Int}{os:List (Int × Int × Int)}{zone:Nat→Option Nat}{n:Nat}{X:Nat→XLoc}{m:Nat→Mh}{L:Nat→RLoc}{M:Nat→RDat}{ma:Option Addr}{mc:Nat}{F:Nat→Prop}(h:MI W w o e p b ts os zone n X m L M ma mc)
  (hT:Touch F w w') (hF:∀ b,F b→¬MZ W.heap.size o zone (.slice ma n mc) b) (hB:∀ b,F b→W.heap.size≤b):MI W w' o e p b ts os zone n X m L M ma mc:=
 ⟨h.ws.keepU (fun b hu=>hT.block b (h.ub_lt hu) (fun q=>hF b q (Or.inr (Or.inl hu)))),h.ms.keep hT.size (fun b hz=>hT.block b (h.ms.zlt b hz).2 (fun q=>hF b q (Or.inl hz))),owns_same h.own (fun g hg=>hT.block g (owns_lt h.own g hg).1 (fun q=>hF g q (Or.inr (Or.inr hg)))),h.zu,h.zm,h.bel.trans (hT.below _ h.bel.size hB)⟩
set_option maxHeartbeats 3200000 in
theorem given_give (W w:World)(o:Own)(e p b:Value)(ts:List Int)(os:List (Int × Int × Int))(zone:Nat→Option Nat)(n:Nat)(X:Nat→XLoc)(m:Nat→Mh)(L:Nat→RLoc)(M:Nat→RDat)(ma:Option Addr)(mc:Nat)(h:MI W w o e p b ts os zone n X m L M ma mc)(j:Nat)(hj:j<n)(st:St)(hk:st.k=12)(hr:os.length*24≤140737488351232) :
  Calls Tryz.prog 21 #[.pointer (some ⟨W.heap.size,0,none⟩),.agg (prA (X j).g (L j).gr),opV st] w fun x w'=>x = .returned (.bool true)∧After W w w' o e p b ts os zone n ma mc:=by
 obtain ⟨k,a,bb,cc,dd⟩:=st
 simp only at hk
 subst hk
 have hb0:Below w.heap.size w ((w.alloc (.cells (prA (X j).g (L j).gr) 50)).alloc (.cells (opA ⟨12,a,bb,cc,dd⟩) 36)):=((Below.refl _ _).alloc (Nat.le_refl _) _).alloc (by simp) _
 have G0:=GB.start w (X j).g (L j).gr ⟨12,a,bb,cc,dd⟩
 have hszb:((w.alloc (.cells (prA (X j).g (L j).gr) 50)).alloc (.cells (opA ⟨12,a,bb,cc,dd⟩) 36)).heap.size=w.heap.size+2:=by simp
 obtain ⟨wb,hwb⟩:∃ wb,(w.alloc (.cells (prA (X j).g (L j).gr) 50)).alloc (.cells (opA ⟨12,a,bb,cc,dd⟩) 36)=wb:=⟨_,rfl⟩
 rw [hwb] at hb0 G0 hszb
 have HWB:Hid _:=hwb
 have HSZ:Hid _:=hszb
 have Hb:=h.below hb0
 obtain ⟨hO,hOn⟩:=ops_of Hb.ws.ops
 have hLe:=lentOps_any o.oa o.ol o.oc os wb hO hOn hr
 have c2:wb.cell? ⟨W.heap.size,2,none⟩=some (.slice o.oa o.ol o.oc):=by rw [Hb.ws.row.cell];rfl
 have k0:wb.cell? ⟨w.heap.size+1,0,none⟩=some (.int .i64 12):=G0.op.cell 0
 have l0:=G0.pr.lt
 have l1:=G0.op.lt
 have lW:=Hb.ws.row.lt
 have c2w:w.cell? ⟨W.heap.size,2,none⟩=some (.slice o.oa o.ol o.oc):=by rw [h.ws.row.cell];rfl
 have lWw:=h.ws.row.lt
 have nx:∀ g,w.heap.size≤g→¬(X j).mine g∧¬(L j).own g:=fun g hg=>⟨fun q=>by have:=(h.ms.zlt g (by rw [h.ms.zx j g hj q];simp)).2;omega,fun q=>by have:=(h.ms.zlt g (by rw [h.ms.zl j g hj q];simp)).2;omega⟩
 have hz:=(h.ms.ref j hj).right
 have hT0:=(h.ms.ref j hj).T0
 obtain ⟨pe,pp⟩:=(h.ms.pair j hj).give hz hT0 bb cc os
 have HPE:Hid _:=pe
 have HPP:Hid _:=pp
 have HH:Hid _:=h
 have HG0:Hid _:=G0
 have HB0:Hid _:=hb0
 have HNX:Hid _:=nx
 have HHb:Hid _:=Hb
 have HON:Hid _:=hOn
 have hoc:=hO.hmax
 have hol:=hO.hle
 unfold maxLen at hoc
 clear h hb0 G0 Hb hz hT0 pe pp nx hwb hO hOn hszb
 go_enter Tryz.func21,Tryz.ntmps21
 go_wp2_with fail
 rw [HWB.out]
 refine hLe.mono ?_;rintro x w1 ⟨va,vl,vc,rfl,hl1,hb1⟩
 have I1:=HHb.out.below hb1
 have G1:GB w w1 (X j).g (L j).gr ⟨12,a,bb,cc,dd⟩:=⟨HG0.out.pr.below hb1 HG0.out.pr.lt,HG0.out.op.below hb1 HG0.out.op.lt⟩
 have hG:=wGive_any (cnOf (M j).c) (X j) (m j) bb cc va vl vc os w1 (I1.ms.mach j hj) (hl1.ops hr)
 rw [HPE.out] at hG
 have p0:w1.cell? ⟨w.heap.size,0,none⟩=some (.pointer (some ⟨(X j).g,0,none⟩)):=G1.pr.cell 0
 have q2:w1.cell? ⟨w.heap.size+1,2,none⟩=some (.int .i64 bb):=G1.op.cell 2
 have q3:w1.cell? ⟨w.heap.size+1,3,none⟩=some (.int .i64 cc):=G1.op.cell 3
 have l0':=G1.pr.lt
 have l1':=G1.op.lt
 have hlo:=hl1.ops hr
 have hvc:=hlo.hmax
 have hvl:=hlo.hle
 unfold maxLen at hvc
 have HI1:Hid _:=I1
 have HG1:Hid _:=G1
 have HL1:Hid _:=hl1
 have hs1:wb.heap.size≤w1.heap.size:=hb1.size
 have HBW1:Hid (Below w.heap.size w w1):=below_step HB0.out hb1 rfl
 clear hLe c2 c2w k0 I1 G1 hl1 hb1 hlo
 go_wp2_with fail
 refine hG.mono ?_;rintro x w2 ⟨rfl,X',hM2,hG2⟩
 have G2:=HG1.out.touch hG2.tch (HNX.out _ (Nat.le_refl _)).1 (HNX.out _ (by omega)).1
 obtain ⟨hR2,hlt2⟩:=HI1.out.ms.aside hj hG2
 have hul:∀ g,UB W.heap.size o g→w2.heap[g]? = w1.heap[g]? := fun g hu=>hG2.tch.block g (HI1.out.ub_lt hu) (fun q=>by
  have e1:=HI1.out.ms.zx j g hj q
  rw [HI1.out.zu g hu] at e1
  cases e1)
 have ws2:=HI1.out.ws.keepU hul
 obtain ⟨hO2,_⟩:=ops_of ws2.ops
 have hR:=rGive_any (L j) (M j) bb cc o.oa o.ol o.oc os w2.drew (hR2.same (fun _ _=>rfl)) hlt2 (hO2.below ((Below.refl _ _).drew) (Nat.le_refl _))
 have p1:w2.cell? ⟨w.heap.size,1,none⟩=some (.pointer (some ⟨(L j).gr,0,none⟩)):=G2.pr.cell 1
 have q2:w2.cell? ⟨w.heap.size+1,2,none⟩=some (.int .i64 bb):=G2.op.cell 2
 have q3:w2.cell? ⟨w.heap.size+1,3,none⟩=some (.int .i64 cc):=G2.op.cell 3
 have c2:w2.cell? ⟨W.heap.size,2,none⟩=some (.slice o.oa o.ol o.oc):=by rw [ws2.row.cell];rfl
 have l0:=G2.pr.lt
 have l1:=G2.op.lt
 have lW2:=ws2.row.lt
 have HL2:Hid (LentPr w2 o.oa os va vl vc wb.heap.size):=LentPr.same HL1.out (fun hlt=>hG2.tch.block _ hlt (HNX.out _ (by have:=HSZ.out;omega)).1)
 have HM2:Hid _:=hM2
 have HG2:Hid _:=hG2
 have HGB2:Hid _:=G2
 have HWS2:Hid _:=ws2
 clear hG p0 hM2 hG2 G2 hR2 hlt2 hul ws2 hO2
 go_wp2_with fail
 have HRR:Hid _:=hR
 clear hR
 have HNU:Hid (∀ g,UB W.heap.size o g→g<w2.heap.size∧¬(L j).own g):=fun g hu=>⟨Nat.lt_of_lt_of_le (HI1.out.ub_lt hu) HG2.out.tch.size,fun q=>by
  have e1:=HI1.out.ms.zl j g hj q
  rw [HI1.out.zu g hu] at e1
  cases e1⟩
 go_region_held3 (fun w'=>w'.cell? ⟨w.heap.size,1,none⟩=some (.pointer (some ⟨(L j).gr,0,none⟩))∧w'.cell? ⟨w.heap.size+1,2,none⟩=some (.int .i64 bb)∧w'.cell? ⟨w.heap.size+1,3,none⟩=some (.int .i64 cc)∧w'.cell? ⟨W.heap.size,2,none⟩=some (.slice o.oa o.ol o.oc)) (first | exact ⟨G3.pr.cell 1,G3.op.cell 2,G3.op.cell 3,ws3.row.cell 2⟩ | go_keep) (first
  | (go_at_call 54;refine Calls.mono HRR.out ?_;rintro x w3 ⟨rfl,L',hgr,hR3,hT3d,hL3,hlt3⟩;have hT3:Touch (L j).own w2 w3:=Touch.trans (b:=w2.drew) ⟨rfl,rfl,rfl,Nat.le_refl _,fun _ _ _=>rfl⟩ hT3d;have G3:=HGB2.out.touch hT3 (HNX.out _ (Nat.le_refl _)).2 (HNX.out _ (by omega)).2;have ws3:=HWS2.out.keepU (fun g hu=>hT3.block g (HNU.out g hu).1 (HNU.out g hu).2)))
 obtain ⟨zone',hms,hz',hT'⟩:=HI1.out.ms.both hj HM2.out HG2.out hR3 hT3 hL3 hlt3 (by unfold giveM;split <;> rfl) (by unfold giveM;split <;> rfl) HPP.out
 obtain ⟨I3,T3,Z3⟩:=HI1.out.call hms hz' hT' (pairs_same X L n j _ _ HG2.out.g hgr)
 obtain ⟨hO3,hOn3⟩:=ops_of I3.ws.ops
 have hl3:=LentPr.same (w':=w3) HL2.out (fun hlt=>hT3.block _ hlt (HNX.out _ (by have:=HSZ.out;omega)).2)
 have hWh:=wholeOps_any o.oa o.ol o.oc os va vl vc wb.heap.size w3 hO3 hOn3 hr hl3
 have c2:w3.cell? ⟨W.heap.size,2,none⟩=some (.slice o.oa o.ol o.oc):=by rw [I3.ws.row.cell];rfl
 have lW3:=I3.ws.row.lt
 have HI3:Hid _:=I3
 have HT3:Hid _:=T3
 have HZ3:Hid _:=Z3
 have HL3:Hid _:=hl3
 clear p1 q2 q3 G3 ws3 hR3 hT3 hT3d hL3 hlt3 hms hz' hT' I3 T3 Z3 hO3 hOn3 hl3
 go_wp2_with fail
 refine hWh.mono ?_;rintro x w4 ⟨rfl,hb4⟩
 have I4:=HI3.out.below hb4
 have hSp:=spoilOps_any o.oa os va vl vc wb.heap.size w4 hr (LentPr.same HL3.out (fun hlt=>hb4.block _ hlt))
 have T4:Touch (MZ W.heap.size o zone (.slice ma n mc)) w1 w4:=HT3.out.trans (Touch.of_below hb4 (Nat.le_refl _))
 have HI4:Hid _:=I4
 have HT4:Hid _:=T4
 have HS4:Hid (va≠none→wb.heap.size<w1.heap.size):=fun hv=>by
  rcases HL1.out with ⟨_,_,q,_,_⟩|⟨_,_,_,_,h5⟩
  · exact absurd q hv
  · exact h5.lt
 clear hWh hb4 c2 I4 T4
 go_wp2_with fail
 refine hSp.mono ?_;rintro x w5 ⟨rfl,hT5⟩
 have hbs:=HB0.out.size
 have hws:=HHb.out.bel.size
 have I5:=HI4.out.tch hT5 (fun g hg hq=>by
  obtain ⟨rfl,hv⟩:=hg
  have:=HHb.out.lt (HZ3.out _ (HS4.out hv) hq)
  omega) (fun g hg=>by have:=hg.1;omega)
 have HA:Hid (After W w w5 o e p b ts os zone n ma mc):=by
  refine ⟨zone',_,_,_,_,I5,?_,fun g hg hq=>HZ3.out g (by omega) hq⟩
  have t4:=HT4.out
  have b1:=HBW1.out
  refine ⟨hT5.os.trans (t4.os.trans b1.os),hT5.tape.trans (t4.tape.trans b1.tape),hT5.output.trans (t4.output.trans b1.output),Nat.le_trans b1.size (Nat.le_trans t4.size hT5.size),fun g hg hf=>?_⟩
  have s4:=t4.size
  have sb:=b1.size
  exact (hT5.block g (by omega) (fun q=>by have:=q.1;have:=HSZ.out;omega)).trans ((t4.block g (by omega) hf).trans (b1.block g hg))
 clear hSp hT5 I5
 generalize giveE (M j) bb cc os=ev
 go_wp2_with fail
 try go_quiet (fail)
 try go_wp2
 go_ret
 exact ⟨ret_bool (by simp),HA.out⟩
theorem Tryz.infoEvs:(Tryz.prog.info? 56).map (fun i=>(i.zero,i.size,i.bytes))=some (some (.slice none 0 0),1,24):=by kernel_rfl
def evN:Ev:=⟨0,0,0,0,0,0⟩
def mkE (i:Nat):Ev:=⟨-1000-i,-1000-i,-1000-i,-1000-i,-1000-i,-1000-i⟩
theorem ev_cells (es:List Ev){q:Nat}(hq:q<es.length):(es.flatMap eventL)[q*6]? = some (.int .i64 (es.getD q evN).core)∧(es.flatMap eventL)[q*6+1]? = some (.int .i64 (es.getD q evN).index)∧(es.flatMap eventL)[q*6+2]? = some (.int .i64 (es.getD q evN).value)∧(es.flatMap eventL)[q*6+3]? = some (.int .i64 (es.getD q evN).fault)∧(es.flatMap eventL)[q*6+4]? = some (.int .i64 (es.getD q evN).issue)∧(es.flatMap eventL)[q*6+5]? = some (.int .i64 (es.getD q evN).done):=by
 have h:∀ r,r<6→(es.flatMap eventL)[q*6+r]? = (eventL (es.getD q evN))[r]? := fun r hr=>by
  rw [flat_at eventL 6 (fun _=>rfl) es q r hr,List.getD_eq_getElem?_getD,List.getElem?_eq_getElem hq]
  rfl
 exact ⟨h 0 (by omega),h 1 (by omega),h 2 (by omega),h 3 (by omega),h 4 (by omega),h 5 (by omega)⟩
theorem ev_set:∀ (es:List Ev)(q:Nat)(v:Ev),q<es.length→((((((es.flatMap eventL).set (q*6) (.int .i64 v.core)).set (q*6+1) (.int .i64 v.index)).set (q*6+2) (.int .i64 v.value)).set (q*6+3) (.int .i64 v.fault)).set (q*6+4) (.int .i64 v.issue)).set (q*6+5) (.int .i64 v.done)=(es.set q v).flatMap eventL
 | [],q,v,h=>by simp at h
 | x::xs,0,v,_=>by simp [eventL]
 | x::xs,q+1,v,h=>by
  have ih:=ev_set xs q v (by simpa using h)
  rw [List.set_cons_succ,List.flatMap_cons,List.flatMap_cons,← ih]
  rw [show (q+1)*6=(eventL x).length+q*6 by show _=6+q*6;omega]
  simp only [Nat.add_assoc,List.set_append_right _ _ (Nat.le_add_right _ _),Nat.add_sub_cancel_left]
theorem evs_all {A:List Ev}{len:Nat}{v:Ev}(hl:A.length=len)(h:∀ x,x<len→A.getD x evN=v):A=List.replicate len v:=by
 apply List.ext_getElem
 · simp [hl]
 ·
  intro i h1 h2
  have:=h i (by omega)
  rw [List.getD_eq_getElem?_getD,List.getElem?_eq_getElem h1] at this
  simpa using this
theorem eql_nil (w:World)(t e:TypeId)(a:Option Addr)(l c:Nat)(h:Tryz.prog.underlying t=some (.slice e)):(binOp .eql t (.slice a l c) (.slice none 0 0)).run Tryz.prog w = .ok (.bool a.isNone) w:=by
 unfold binOp
 simp [run_equal_slice_nil w t e a l c h]
set_option maxHeartbeats 6400000 in
theorem traced_good (W w:World)(o:Own)(ea:Option Addr)(en ec:Nat)(p b:Value)(ts:List Int)(os:List (Int × Int × Int))(zone:Nat→Option Nat)(n:Nat)(X:Nat→XLoc)(m:Nat→Mh)(L:Nat→RLoc)(M:Nat→RDat)(ma:Option Addr)(mc:Nat)(h:MI W w o (.slice ea en ec) p b ts os zone n X m L M ma mc)
  (aE:Nat→Option Addr) (lE:Nat→Nat) (hE:Outs w W.heap.size 56 58 markE (.slice ea en ec) en aE lE) (hEz:∀ g,OB (.slice ea en ec) en aE lE g→¬MZ W.heap.size o zone (.slice ma n mc) g) (j:Nat) (hj:j<n) (d:Nat) (hd:(d:Int)<(M j).c.domains) (hbig:(en+1)*24≤140737488355328) :
  Calls Tryz.prog 16 #[.pointer (some ⟨W.heap.size,0,none⟩),.agg (prA (X j).g (L j).gr),.int .i64 d] w fun x w'=>x = .returned (.bool true)∧∃ ea' ec' aE' lE',MI W w' o (.slice ea' (en+1) ec') p b ts os zone n X m L M ma mc∧Outs w' W.heap.size 56 58 markE (.slice ea' (en+1) ec') (en+1) aE' lE'∧
   Touch (fun g=>g=W.heap.size∨(Value.slice ea en ec).ownBlock=some g) w w'∧∀ g,g<w.heap.size→OB (.slice ea' (en+1) ec') (en+1) aE' lE' g→OB (.slice ea en ec) en aE lE g:=by
 have hb0:Below w.heap.size w (w.alloc (.cells (prA (X j).g (L j).gr) 50)):=(Below.refl _ _).alloc (Nat.le_refl _) _
 have rP:Row (w.alloc (.cells (prA (X j).g (L j).gr) 50)) w.heap.size [.pointer (some ⟨(X j).g,0,none⟩),.pointer (some ⟨(L j).gr,0,none⟩)] 50:=heap_alloc_new w _
 obtain ⟨wb,hwb⟩:∃ wb,w.alloc (.cells (prA (X j).g (L j).gr) 50)=wb:=⟨_,rfl⟩
 rw [hwb] at hb0 rP
 have H0:=h.below hb0
 have hz:=(h.ms.ref j hj).right
 have hT0:=(h.ms.ref j hj).T0
 have hT1:=(h.ms.ref j hj).T1
 have hpd:=h.ms.pair j hj
 have hok:=(hpd.ok hz hT0).1
 have hF:=wTrace_any (cnOf (M j).c) (X j) (m j) d wb (H0.ms.mach j hj) hok
 have hlen:=hok.trl (by show (M j).c.cores.toNat≤3;have:=(right_of hz).c2;omega) d
 have hV:traceV (cnOf (M j).c) (m j) d wb.heap.size = .slice (some ⟨wb.heap.size,0,none⟩) ((m j).tr d).length ((m j).tr d).length:=by
  unfold traceV
  rw [if_neg (by show ¬((d:Int)<0∨(M j).c.domains≤(d:Int));omega),Int.toNat_natCast]
 have hW:traceW (cnOf (M j).c) (m j) d wb=wb.alloc (.cells (((m j).tr d).flatMap eventL).toArray 58):=by
  unfold traceW
  rw [if_neg (by show ¬((d:Int)<0∨(M j).c.domains≤(d:Int));omega),Int.toNat_natCast]
 have hme:traceME (cnOf (M j).c) d=0:=by
  unfold traceME
  rw [if_neg (by show ¬((d:Int)<0∨(M j).c.domains≤(d:Int));omega)]
 rw [hV,hW,hme] at hF
 have htr:=traceR hpd hz hT1 d hd
 have b1:Below wb.heap.size wb (wb.alloc (.cells (((m j).tr d).flatMap eventL).toArray 58)):=(Below.refl _ _).alloc (Nat.le_refl _) _
 have rT:Row (wb.alloc (.cells (((m j).tr d).flatMap eventL).toArray 58)) wb.heap.size (((m j).tr d).flatMap eventL) 58:=heap_alloc_new wb _
 obtain ⟨w1,hw1⟩:∃ w1,wb.alloc (.cells (((m j).tr d).flatMap eventL).toArray 58)=w1:=⟨_,rfl⟩
 rw [hw1] at hF b1 rT
 have H1:=H0.below b1
 have hR:=rTrace_good (L j) (M j) d w1 (H1.ms.ref j hj) ((h.ms.cfg j hj).below H1.bel (Nat.le_refl _)) (by have:=(h.ms.ref j hj).nd;omega)
 obtain ⟨es,hes⟩:∃ es,(m j).tr d=es:=⟨_,rfl⟩
 rw [hes] at hF hlen rT htr
 obtain ⟨len,hll⟩:∃ len,es.length=len:=⟨_,rfl⟩
 rw [hll] at hF hlen
 have p0:wb.cell? ⟨w.heap.size,0,none⟩=some (.pointer (some ⟨(X j).g,0,none⟩)):=rP.cell 0
 have l0:=rP.lt
 have HWB:Hid _:=hwb
 have HH:Hid _:=h
 have HE:Hid _:=hE
 have HEZ:Hid _:=hEz
 have HP:Hid (Row wb w.heap.size [.pointer (some ⟨(X j).g,0,none⟩),.pointer (some ⟨(L j).gr,0,none⟩)] 50):=rP
 have HRT:Hid (Row w1 wb.heap.size (es.flatMap eventL) 58):=rT
 have HTR:Hid _:=htr
 have HB0:Hid _:=hb0
 have HB1:Hid _:=b1
 have HLL:Hid _:=hll
 clear h hE hEz hb0 rP hz hT0 hT1 hpd hok hV hW hme b1 rT hw1 htr hwb hes hll H0 H1
 go_enter Tryz.func16,Tryz.ntmps16
 go_wp2_with fail
 rw [HWB.out]
 refine hF.mono ?_;rintro x v1 ⟨rfl,rfl⟩
 have rP1:Row v1 w.heap.size [.pointer (some ⟨(X j).g,0,none⟩),.pointer (some ⟨(L j).gr,0,none⟩)] 50:=Row.below HP.out HB1.out (Row.lt HP.out)
 have p1:v1.cell? ⟨w.heap.size,1,none⟩=some (.pointer (some ⟨(L j).gr,0,none⟩)):=rP1.cell 1
 have l1:=rP1.lt
 clear p0 hF rP1
 go_wp2_with fail
 refine hR.mono ?_;rintro x w2 ⟨Y,rfl,hYd,hY⟩
 have hb2:=hY.below
 have hev:=hY.solo.evs
 have hel:=hY.solo.el
 rw [← HTR.out] at hev hel
 rw [HLL.out] at hev hel
 obtain ⟨ya,yl,yc,hy⟩:∃ ya yl yc,ya=Y.ea∧yl=Y.el∧yc=Y.ec:=⟨_,_,_,rfl,rfl,rfl⟩
 rw [← hy.1,← hy.2.1,← hy.2.2] at hev
 rw [← hy.1,← hy.2.1,← hy.2.2]
 rw [← hy.2.1] at hel
 subst hel
 have HB2:Hid _:=hb2
 have HEV:Hid _:=hev
 clear hR hY hYd hy hb2 hev p1
 have hnl:∀ v:World,(binOp .eql 56 (.slice (some ⟨wb.heap.size,0,none⟩) yl yl) (.slice none 0 0)).run Tryz.prog v = .ok (.bool false) v:=fun v=>eql_nil v _ _ _ _ _ Tryz.underlying56
 go_wp2_with fail
 clear hnl
 have HR2:Hid (Row w2 wb.heap.size (es.flatMap eventL) 58):=Row.below HRT.out HB2.out (Row.lt HRT.out)
 have HS0:Hid (w.heap.size<wb.heap.size):=l0
 have S1:=HB1.out.size
 have S2:=HB2.out.size
 go_loopw [11,12] (fun okv u wr=>okv = .bool true∧∃ (q:Nat),q≤yl∧u = .int .i64 q∧Below w2.heap.size w2 wr) (fun _ u _=>yl-(intOf u).toNat)
 case atStart=>exact ⟨rfl,0,by omega,rfl,Below.refl _ _⟩
 case round=>
  obtain ⟨rfl,q,hq,rfl,hbr⟩:=hrel
  have HBR:Hid _:=hbr
  have rL:Row wr wb.heap.size (es.flatMap eventL) 58:=Row.below HR2.out hbr (Row.lt HR2.out)
  by_cases hlt:q<yl
  ·
   have hql:q<es.length:=by rw [HLL.out];exact hlt
   obtain ⟨z0,z1,z2,z3,z4,z5⟩:=ev_cells es hql
   have c0:=(rL.cell _).trans z0
   have c1:=(rL.cell _).trans z1
   have c2:=(rL.cell _).trans z2
   have c3:=(rL.cell _).trans z3
   have c4:=(rL.cell _).trans z4
   have c5:=(rL.cell _).trans z5
   obtain ⟨gk,e1,_,_,e2,e3⟩:=owns_cell HEV.out (by omega)
   subst e1
   have k0:wr.cell? ⟨gk,q*6,none⟩=_:=(hbr.cell (p:=⟨gk,q*6,none⟩) e2).trans ((e3 _ (by omega)).trans z0)
   have k1:wr.cell? ⟨gk,q*6+1,none⟩=_:=(hbr.cell (p:=⟨gk,q*6+1,none⟩) e2).trans ((e3 _ (by omega)).trans z1)
   have k2:wr.cell? ⟨gk,q*6+2,none⟩=_:=(hbr.cell (p:=⟨gk,q*6+2,none⟩) e2).trans ((e3 _ (by omega)).trans z2)
   have k3:wr.cell? ⟨gk,q*6+3,none⟩=_:=(hbr.cell (p:=⟨gk,q*6+3,none⟩) e2).trans ((e3 _ (by omega)).trans z3)
   have k4:wr.cell? ⟨gk,q*6+4,none⟩=_:=(hbr.cell (p:=⟨gk,q*6+4,none⟩) e2).trans ((e3 _ (by omega)).trans z4)
   have k5:wr.cell? ⟨gk,q*6+5,none⟩=_:=(hbr.cell (p:=⟨gk,q*6+5,none⟩) e2).trans ((e3 _ (by omega)).trans z5)
   have lL:=rL.lt
   clear z0 z1 z2 z3 z4 z5 rL e3 hbr hql
   generalize es.getD q evN=ev at *
   obtain ⟨e0,e1,e2,e3,e4,e5⟩:=ev
   simp only at c0 c1 c2 c3 c4 c5 k0 k1 k2 k3 k4 k5
   go_wp2_with fail
   go_quiet (fail)
   go_wp2_with fail
   go_roundw
   case rel=>exact ⟨by simp,q+1,by omega,by go_num,HBR.out.trans ⟨rfl,rfl,rfl,Nat.le_refl _,fun _ _=>rfl⟩⟩
   case measure=>simp [intOf];omega
  ·
   have HRL:Hid (Row wr wb.heap.size (es.flatMap eventL) 58):=rL
   have HWR:Hid (Below w.heap.size w wr):=((HB0.out.trans (HB1.out.mono (by omega))).trans (HB2.out.mono (by omega))).trans (hbr.mono (by omega))
   have S3:=hbr.size
   clear rL hbr HBR
   go_wp2_with fail
   go_loopw [14] (fun u wv=>∃ (q:Nat) (A:List Ev),q≤yl∧u = .int .i64 q∧A.length=yl∧(∀ x,x<q→A.getD x evN=mkE en)∧Row wv wb.heap.size (A.flatMap eventL) 58∧Below w.heap.size w wv∧w2.heap.size≤wv.heap.size) (fun u _=>yl-(intOf u).toNat)
   case atStart=>exact ⟨0,es,by omega,rfl,HLL.out,fun x hx=>by omega,HRL.out,HWR.out,S3⟩
   case round=>
    obtain ⟨q2,A,hq2,rfl,hA,hm,rA,hbv,sv⟩:=hrel
    have rW:Row wr W.heap.size (ownL o (.slice ma n mc) (.slice ea en ec) p b) 34:=Row.below HH.out.ws.row hbv HH.out.ws.row.lt
    have g4:wr.cell? ⟨W.heap.size,4,none⟩=some (.slice ea en ec):=rW.cell 4
    have lW:=rW.lt
    have lA:=rA.lt
    have HRA:Hid (Row wr wb.heap.size (A.flatMap eventL) 58):=rA
    have HBV:Hid _:=hbv
    have HM:Hid _:=hm
    have HA:Hid _:=hA
    by_cases hlt2:q2<yl
    ·
     obtain ⟨z0,z1,z2,z3,z4,z5⟩:=ev_cells A (q:=q2) (by omega)
     have b1:Below wr.heap.size wr (wr.alloc (.cells #[.int .i64 (-1000-(en:Int)),.int .i64 (-1000-(en:Int)),.int .i64 (-1000-(en:Int)),.int .i64 (-1000-(en:Int)),.int .i64 (-1000-(en:Int)),.int .i64 (-1000-(en:Int))] 58)):=(Below.refl _ _).alloc (Nat.le_refl _) _
     have rB:Row (wr.alloc (.cells #[.int .i64 (-1000-(en:Int)),.int .i64 (-1000-(en:Int)),.int .i64 (-1000-(en:Int)),.int .i64 (-1000-(en:Int)),.int .i64 (-1000-(en:Int)),.int .i64 (-1000-(en:Int))] 58)) wb.heap.size (A.flatMap eventL) 58:=Row.below rA b1 rA.lt
     have hK:=kmarkEvent_any en (by omega) wr
     obtain ⟨wn,hwn⟩:∃ wn,wr.alloc (.cells #[.int .i64 (-1000-(en:Int)),.int .i64 (-1000-(en:Int)),.int .i64 (-1000-(en:Int)),.int .i64 (-1000-(en:Int)),.int .i64 (-1000-(en:Int)),.int .i64 (-1000-(en:Int))] 58)=wn:=⟨_,rfl⟩
     rw [hwn] at b1 rB hK
     have c0:=(rB.cell _).trans z0
     have c1:=(rB.cell _).trans z1
     have c2:=(rB.cell _).trans z2
     have c3:=(rB.cell _).trans z3
     have c4:=(rB.cell _).trans z4
     have c5:=(rB.cell _).trans z5
     have f0:=rB.frozen (q2*6)
     have f1:=rB.frozen (q2*6+1)
     have f2:=rB.frozen (q2*6+2)
     have f3:=rB.frozen (q2*6+3)
     have f4:=rB.frozen (q2*6+4)
     have f5:=rB.frozen (q2*6+5)
     have lB:=rB.lt
     have HRB:Hid (Row wn wb.heap.size (A.flatMap eventL) 58):=rB
     have HB1':Hid _:=b1
     clear z0 z1 z2 z3 z4 z5 rA rW rB b1 hbv hm hA hwn
     go_wp2_with fail
     refine hK.mono ?_;rintro x wk ⟨rfl,rfl⟩
     clear g4
     go_wp2_with fail
     go_roundw
     case rel=>
      have sB:=HB1'.out.size
      refine ⟨q2+1,A.set q2 (mkE en),by omega,by go_num,by rw [List.length_set];exact HA.out,fun x hx=>?_,?_,?_,?_⟩
      ·
       by_cases e:x=q2
       ·
        subst e
        rw [List.getD_eq_getElem?_getD,List.getElem?_set_self (by rw [HA.out];omega)]
        rfl
       ·
        rw [List.getD_eq_getElem?_getD,List.getElem?_set_ne (fun e'=>e e'.symm),← List.getD_eq_getElem?_getD]
        exact HM.out x (by omega)
      ·
       have:=((((((Row.setCell HRB.out (q2*6) (.int .i64 (-1000-(en:Int)))).setCell (q2*6+1) (.int .i64 (-1000-(en:Int)))).setCell (q2*6+2) (.int .i64 (-1000-(en:Int)))).setCell (q2*6+3) (.int .i64 (-1000-(en:Int)))).setCell (q2*6+4) (.int .i64 (-1000-(en:Int)))).setCell (q2*6+5) (.int .i64 (-1000-(en:Int))))
       rw [← ev_set A q2 (mkE en) (by rw [HA.out];exact hlt2)]
       exact this
      ·
       have b2:=below_step HBV.out HB1'.out rfl
       exact ((((((b2.setCell (p:=⟨wb.heap.size,q2*6,none⟩) (by show w.heap.size≤wb.heap.size;omega) _).setCell (p:=⟨wb.heap.size,q2*6+1,none⟩) (by show w.heap.size≤wb.heap.size;omega) _).setCell (p:=⟨wb.heap.size,q2*6+2,none⟩) (by show w.heap.size≤wb.heap.size;omega) _).setCell (p:=⟨wb.heap.size,q2*6+3,none⟩) (by show w.heap.size≤wb.heap.size;omega) _).setCell (p:=⟨wb.heap.size,q2*6+4,none⟩) (by show w.heap.size≤wb.heap.size;omega) _).setCell (p:=⟨wb.heap.size,q2*6+5,none⟩) (by show w.heap.size≤wb.heap.size;omega) _)
      ·
       simp only [World.size_setCell]
       omega
     case measure=>simp [intOf];omega
    ·
     have eq2:q2=yl:=by omega
     have rM:Row wr wb.heap.size (markL (markE en) yl) 58:=by
      rw [evs_all (v:=mkE en) hA (fun x hx=>hm x (by omega)),markL_flat eventL (mkE en)] at rA
      exact rA
     have HRM:Hid (Row wr wb.heap.size (markL (markE en) yl) 58):=rM
     have HO:Hid (wr.ownsRow W.heap.size 56 1 (.slice ea en ec) en ((List.range en).map fun i=>.slice (aE i) (lE i) (lE i))):=owns_same HE.out.row (fun g hg=>hbv.block g (owns_lt HE.out.row g hg).1)
     have HRW:Hid (Row wr W.heap.size (ownL o (.slice ma n mc) (.slice ea en ec) p b) 34):=rW
     have ag:(Value.slice ea en ec).ownBlock≠some W.heap.size:=own_ne HO.out rW (by decide)
     obtain ⟨i0,hi0,hz0,hz1,hz2⟩:=info_parts Tryz.infoEvs
     have HBIG:Hid _:=hbig
     have HSZ:Hid (W.heap.size≤w.heap.size):=HH.out.bel.size
     clear rA rM rW hbv hm hA hbig
     go_wp2_with (at_builtin;refine wpList_append_lies _ rfl _ _ 30 rfl W.heap.size 56 i0 _ 1 24 Tryz.underlying30 hi0 hz0 hz1 hz2 rfl (by decide) (.slice ea en ec) en ((List.range en).map fun i=>.slice (aE i) (lE i) (lE i)) rfl ?p1 ⟨wr.heap.size,0,none⟩ 1 1 [.slice (some ⟨wb.heap.size,0,none⟩) yl yl] ?p9 rfl ?p3 ?p4 (by omega) ?p5 ?p6 ?p7 _ rfl ?p8)
     case p1=>exact World.ownsRow.alloc HO.out _
     try case p3=>exact World.news_of_block (cs:=#[.slice (some ⟨wb.heap.size,0,none⟩) yl yl]) (t:=56) (fr:=(0,0)) (heap_alloc_new wr _)
     case p4=>simp [Value.oneCell']
     case p5=>have:=HBIG.out;unfold maxLen;omega
     case p6=>exact HBIG.out
     case p7=>simp;omega
     try case p9=>rfl
     case p8=>
      intro gg cap w8 hown8 hgrow hat hlt8
      have f2:w8.frozen? ⟨W.heap.size,4,none⟩=false:=(hgrow.frozen_far ⟨W.heap.size,4,none⟩ (by simp;omega) (Ne.symm ag)).trans ((Row.alloc HRW.out _).frozen 4)
      have c4:w8.cell? ⟨W.heap.size,4,none⟩=some (.slice ea en ec):=(hgrow.cell_far ⟨W.heap.size,4,none⟩ (by simp;omega) (Ne.symm ag)).trans ((Row.alloc HRW.out _).cell 4)
      have HA:Hid _:=Outs.done (f:=4) HH.out HE.out (by decide) (by decide) (by decide) HBV.out (show yl≤9223372036854775807 by omega) (fun _=>⟨wb.heap.size,rfl,by omega,HRM.out⟩) ((Below.refl _ _).alloc (Nat.le_refl _) _) hgrow hown8 (hat.imp id (fun q=>by have:=HBV.out.size;first | omega | (simp at q;omega) | (rw [q];simp;omega)))
      clear hown8 hgrow hat
      go_wp2
      go_ret
      obtain ⟨g1,g2,g3,g5⟩:=HA.out
      exact ⟨rfl,some ⟨gg,0,none⟩,cap,_,_,HH.out.out (K:=fun g=>(Value.slice ea en ec).ownBlock=some g) g1 g3 (fun g hg=>⟨(HE.out.lt (Or.inl hg)).1,HEZ.out g (Or.inl hg)⟩),g2,g3,g5⟩
end Go.Proofs.YtehheaedbnfidaaGreat
