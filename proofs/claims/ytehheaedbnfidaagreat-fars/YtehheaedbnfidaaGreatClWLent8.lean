import Derived.Test.YtehheaedbnfidaaGreatClWLent7
import Derived.Test.YtehheaedbnfidaaGreatClBound
import Derived.Test.YtehheaedbnfidaaGreatClWVictim
import Derived.Test.YtehheaedbnfidaaGreatClEnough
set_option maxRecDepth 100000
namespace Go.Proofs.YtehheaedbnfidaaGreat
open Go.RowKit
attribute [local go_sem] Tryz.nilInts Tryz.nilGrid
theorem LentI.len {w w0:World}{sa:Option Addr}{len cap:Nat}{xs:List Int}{va:Option Addr}{vl vc g:Nat}(h:LentI w sa xs va vl vc g)(h0:Ints w0 sa len cap xs):vl=len:=by
 rcases h with ⟨rfl,rfl,rfl,rfl⟩|⟨_,_,h3,_,_⟩
 · exact h0.nil.1.symm
 · rw [h3,h0.hlen]
set_option maxHeartbeats 400000 in
theorem wholeTurns_none (oa:Option Addr)(ol oc:Nat)(ma:Option Addr)(ml mc:Nat)(w:World) :
  Calls Tryz.prog 73 #[.slice oa ol oc,.slice ma ml mc,.slice none 0 0] w fun e w'=>e = .returned (.bool true)∧w'=w:=by
 go_enter Tryz.func73,Tryz.ntmps73
 go_wp2
 go_ret
 exact ⟨rfl,rfl⟩
set_option maxHeartbeats 2000000 in
theorem wholeTurns_some (w0 w:World)(lo:Nat)(c:Cf)(at0:Addr)(n tc gt gm:Nat)(T M:List Value)(G:Nat→Nat)(hr:n*24≤140737488351232)(hc:CfR c)
  (h0:Grid w0 (some at0) n tc c.turns) (hlo:w0.heap.size≤lo) (hb:Below lo w0 w) (l1:lo≤gt) (l2:gt<gm) (hg:GSt w0 w (gm+1) (some at0) c.turns n (n+8) gt gm T M G) (top:Nat) (htop:∀ i,i<n+8→G i<top) :
  Calls Tryz.prog 73 #[.slice (some ⟨gt,0,none⟩) n (n+8),.slice (some ⟨gm,0,none⟩) n n,.slice (some at0) n tc] w fun e w'=>e = .returned (.bool true)∧Below lo w w'∧Shaped w w'∧(∀ j,top≤j→w'.heap[j]? = w.heap[j]?):=by
 have HG:Hid _:=hg
 have HT:Hid (c.turns.length=n):=h0.hlen
 have hle:=h0.hle
 clear hg
 go_enter Tryz.func73,Tryz.ntmps73
 go_wp2
 go_loopw [9,10] (fun ok i wr=>∃ k:Nat,k≤n+8∧ok = .bool true∧i = .int .i64 k∧(∀ j,k≤j→j<n+8→wr.heap[G j]? = w.heap[G j]?)∧wr.heap[gt]? = w.heap[gt]?∧wr.heap[gm]? = w.heap[gm]?∧Below lo w wr∧Shaped w wr∧(∀ j,top≤j→wr.heap[j]? = w.heap[j]?)) (fun _ i _=>n+8-(intOf i).toNat)
 case atStart=>exact ⟨0,by omega,rfl,rfl,fun _ _ _=>rfl,rfl,rfl,Below.refl _ _,Shaped.refl _,fun _ _=>rfl⟩
 case round=>
  obtain ⟨k,hk,rfl,rfl,a1,a2,a3,a4,a5,a6⟩:=hrel
  have A1:Hid _:=a1
  have A2:Hid _:=a2
  have A3:Hid _:=a3
  have A4:Hid _:=a4
  have A5:Hid _:=a5
  have A6:Hid _:=a6
  have rT:Row wr gt T 25:=by unfold Row;rw [a2];exact HG.out.rowT
  have rM:Row wr gm M 25:=by unfold Row;rw [a3];exact HG.out.rowM
  by_cases hkn:k<n
  ·
   obtain ⟨b,off,ia,il,ic,va,vl,vc,e1,e2,e3,e4⟩:=HG.out.src k (by omega) hkn
   simp only [Option.some.injEq] at e1
   subst e1
   obtain ⟨b',off',ia',il',ic',e5,e6,hiS⟩:=h0.hat k hkn
   simp only [Option.some.injEq,Addr.mk.injEq,and_true] at e5
   obtain ⟨rfl,rfl⟩:=e5
   rw [e2] at e6
   simp only [Option.some.injEq,Value.slice.injEq] at e6
   obtain ⟨rfl,rfl,rfl⟩:=e6
   have z2:b<w0.heap.size:=cell_lt e2
   have bw:Below lo w0 wr:=hb.trans a4
   have cS:wr.cell? ⟨b,off+k,none⟩=some (.slice ia il ic):=by rw [bw.cell (p:=⟨b,off+k,none⟩) (by simp only [];omega)];exact e2
   have cT:wr.cell? ⟨gt,k,none⟩=some (.slice va vl vc):=by rw [rT.cell,e3]
   have cM:wr.cell? ⟨gm,k,none⟩=some (.slice va vl vc):=by rw [rM.cell,HG.out.mt k (by omega) hkn,e3]
   have hiR:=hiS.below bw hlo
   have hlR:=e4.same (a1 k (Nat.le_refl _) (by omega))
   have rk:il*8≤140737488351232:=by
    have:=hc.each k (by rw [HT.out];exact hkn)
    rwa [hiS.hlen] at this
   have hvl:=e4.len hiS
   subst hvl
   clear a1 a2 a3 a4 a5 a6
   go_wp2
   go_quiet ((go_at_call 28;exact Calls.quiet_of_same (wholeInts_any _ _ _ (c.turns.getD k []) _ _ _ (G k) _ (hiR.drewN _) rk (by exact hlR))))
   have gk:=HG.out.glo k (by omega)
   have hroom:Room (wr.drewN nq) va vl vc (G k):=by exact hlR.room
   have n1:gt≠G k:=by omega
   have n2:gm≠G k:=by omega
   have n3:b≠G k:=by omega
   go_wp2_with fail
   refine (spoilInts_any va vl vc (G k) lo 0 _ rk hroom (by omega)).mono ?_
   rintro e w2 ⟨rfl,p1,p2,p3,p4⟩
   have P1:Hid _:=p1
   have P2:Hid _:=p2
   have P3:Hid _:=p3
   have cS2:w2.cell? ⟨b,off+k,none⟩=some (.slice ia vl ic):=by rw [World.cell?_of_block (w:=wr.drewN nq) (p3 b (fun _=>n3))];exact cS
   have cT2:w2.cell? ⟨gt,k,none⟩=some (.slice va vl vc):=by rw [World.cell?_of_block (w:=wr.drewN nq) (p3 gt (fun _=>n1))];exact cT
   have cM2:w2.cell? ⟨gm,k,none⟩=some (.slice va vl vc):=by rw [World.cell?_of_block (w:=wr.drewN nq) (p3 gm (fun _=>n2))];exact cM
   have hroom2:Hid (Room w2 va vl vc (G k)):=hroom.shaped p2
   clear p1 p2 p3 hroom
   go_wp2
   go_quiet ((go_at_call 111;exact Calls.quiet_of_same (shows_any _ _ _ _ _ (p4.drewN _))))
   go_wp2_with fail
   refine (spoilInts_any va vl vc (G k) lo (-1) _ rk (by exact hroom2.out) (by omega)).mono ?_
   rintro e w3 ⟨rfl,q1,q2,q3,q4⟩
   have Q1:Hid _:=q1
   have Q2:Hid _:=q2
   have Q3:Hid _:=q3
   have cS3:w3.cell? ⟨b,off+k,none⟩=some (.slice ia vl ic):=by rw [World.cell?_of_block (w:=w2.drewN _) (q3 b (fun _=>n3))];exact cS2
   have cT3:w3.cell? ⟨gt,k,none⟩=some (.slice va vl vc):=by rw [World.cell?_of_block (w:=w2.drewN _) (q3 gt (fun _=>n1))];exact cT2
   have cM3:w3.cell? ⟨gm,k,none⟩=some (.slice va vl vc):=by rw [World.cell?_of_block (w:=w2.drewN _) (q3 gm (fun _=>n2))];exact cM2
   clear q1 q2 q3
   go_wp2
   go_quiet ((go_at_call 111;exact Calls.quiet_of_same (shows_any _ _ _ _ _ (q4.drewN _))))
   go_wp2
   go_roundw
   case rel=>
    refine ⟨k+1,by omega,rfl,by go_num,?_,?_,?_,?_,?_,?_⟩
    ·
     intro j j1 j2
     have:=HG.out.ginc k j (by omega) j2
     exact ((Q3.out _ (fun _=>by omega)).trans (P3.out _ (fun _=>by omega))).trans (A1.out j (by omega) j2)
    · exact ((Q3.out _ (fun _=>n1)).trans (P3.out _ (fun _=>n1))).trans A2.out
    · exact ((Q3.out _ (fun _=>n2)).trans (P3.out _ (fun _=>n2))).trans A3.out
    · exact below_drewN (((below_drewN ((below_drewN A4.out _).trans P1.out) _)).trans Q1.out) _
    · exact Shaped.trans (b:=wr) A5.out (Shaped.trans (b:=w2) P2.out Q2.out)
    ·
     intro j hj
     have:=htop k (by omega)
     exact ((Q3.out _ (fun _=>by omega)).trans (P3.out _ (fun _=>by omega))).trans (A6.out j hj)
   case measure=>simp [intOf];omega
  ·
   by_cases hk8:k<n+8
   ·
    obtain ⟨e1,e2⟩:=HG.out.tail k hk8 (by omega)
    have cT:wr.cell? ⟨gt,k,none⟩=some (.slice (some ⟨G k,0,none⟩) 1 1):=by rw [rT.cell,e1]
    have r7:Row wr (G k) [.int .i64 77] 3:=by unfold Row;rw [a1 k (Nat.le_refl _) hk8];exact e2
    have hi7:Ints wr (some ⟨G k,0,none⟩) 1 1 (List.replicate 1 77):=by
     refine ⟨rfl,by omega,by unfold maxLen;omega,(fun h=>by cases h),fun i hi=>⟨G k,0,rfl,?_⟩⟩
     obtain rfl:i=0:=by omega
     rw [r7.cell];rfl
    clear a1 a2 a3 a4 a5 a6 e1 e2
    go_wp2_with fail
    refine (shows_any (some ⟨G k,0,none⟩) 1 1 77 _ hi7).mono ?_
    rintro e w' ⟨rfl,rfl⟩
    go_wp2
    go_roundw
    case rel=>exact ⟨k+1,by omega,rfl,by go_num,fun j j1 j2=>A1.out j (by omega) j2,A2.out,A3.out,A4.out,A5.out,A6.out⟩
    case measure=>simp [intOf];omega
   ·
    clear a1 a2 a3 a4 a5 a6
    go_wp2
    go_ret
    exact ⟨rfl,A4.out,A5.out,A6.out⟩
end Go.Proofs.YtehheaedbnfidaaGreat
namespace Go.Proofs.YtehheaedbnfidaaGreat
open Go.RowKit
def atB (b:Nat→Bk)(way:Int):Bk:=if way<0 then bkE else b way.toNat
set_option maxHeartbeats 1600000 in
theorem fAt_any (ns wn:Nat)(X:FLoc)(blk:Nat→Nat→Bk)(tch:Nat→List Int)(g o x q:Nat)(way:Int)(w:World)(h:FarM w ns wn X blk tch)(hp:w.cell? ⟨g,o,none⟩=some (.slice (some ⟨X.r,0,none⟩) ns X.rc))(hx:x≤1000000)(hq:Hid (q=x%ns))(hw:way<wn) :
  Calls Tryz.prog 161 #[.pointer (some ⟨g,o,none⟩),.int .i64 x,.int .i64 way] w fun e w'=>e = .returned (.agg (bkA (atB (blk q) way)))∧Below w.heap.size w w':=by
 have hqs:q<ns:=by rw [hq.out];exact Nat.mod_lt _ h.n0
 obtain ⟨e1,e2⟩:=h.setAt hqs
 have n1:=h.n1
 have w1:=h.w1
 have lg:g<w.heap.size:=cell_lt hp
 have l1:=h.row.lt
 have l2:=(h.cel q hqs).lt
 have bs:=fun o2=>fsetOf_any ns X g o x q (w.alloc o2) ((Below.cell ((Below.refl w.heap.size w).alloc (Nat.le_refl _) o2) (p:=⟨g,o,none⟩) lg).trans hp) h.n0 h.n1 hx hq
 by_cases a1:way<0
 ·
  have HR:Hid _:=show atB (blk q) way=bkE by unfold atB;rw [if_pos a1]
  go_enter Tryz.func161,Tryz.ntmps161
  go_wp2_with (first
   | (go_at_call 158;refine (bs _).mono ?_;rintro e w' ⟨rfl,rfl⟩)
   | (go_at_call 139;refine (fEmpty_any _).mono ?_;rintro e w' ⟨rfl,rfl⟩))
  refine bodyPost_ret (v:=.agg (bkA bkE)) (by simp [results,Tryz.results161,go_sem,bkE]) rfl ⟨by rw [HR.out],((Below.refl _ _).alloc (Nat.le_refl _) _).alloc (by simp) _⟩
 ·
  obtain ⟨j,rfl⟩:=Int.eq_ofNat_of_zero_le (show 0≤way by omega)
  have hj:j<wn:=by omega
  have HR:Hid _:=show atB (blk q) j=blk q j by unfold atB;rw [if_neg a1,Int.toNat_natCast]
  obtain ⟨d0,d1,d2,d3,d4,d5⟩:=blk_at (h.cel q hqs) hj
  go_enter Tryz.func161,Tryz.ntmps161
  go_wp2_with (first
   | (go_at_call 158;refine (bs _).mono ?_;rintro e w' ⟨rfl,rfl⟩)
   | (go_at_call 139;refine (fEmpty_any _).mono ?_;rintro e w' ⟨rfl,rfl⟩))
  refine bodyPost_ret (v:=.agg (bkA (blk q j))) (by simp [results,Tryz.results161,go_sem,alloc_cell]) rfl ⟨by rw [HR.out],(Below.refl _ _).alloc (Nat.le_refl _) _⟩
def layW (w:World)(g j:Nat)(b:Bk):World:=
 (((((w.setCell ⟨g,j*6,none⟩ (.int .i64 b.line)).setCell ⟨g,j*6+1,none⟩ (.bool b.mkd)).setCell ⟨g,j*6+2,none⟩ (.int .i64 (b.wd 0))).setCell ⟨g,j*6+3,none⟩ (.int .i64 (b.wd 1))).setCell ⟨g,j*6+4,none⟩ (.int .i64 (b.wd 2))).setCell ⟨g,j*6+5,none⟩ (.int .i64 (b.wd 3))
theorem layW_cells {w:World}{g n:Nat}{f:Nat→Bk}(h:Cells w g (n*6) 171 (fun i=>bkV (f (i / 6)) (i%6)))(j:Nat)(b:Bk):Cells (layW w g j b) g (n*6) 171 (fun i=>bkV (up1 f j b (i / 6)) (i%6)):=by
 refine (((((((h.set _ _).set _ _).set _ _).set _ _).set _ _).set _ _)).congr fun i hi=>?_
 unfold up1
 by_cases e1:i / 6=j
 ·
  have:i=j*6∨i=j*6+1∨i=j*6+2∨i=j*6+3∨i=j*6+4∨i=j*6+5:=by omega
  rcases this with e2|e2|e2|e2|e2|e2
  · subst e2;simp [bkV,show j*6 / 6=j by omega]
  · subst e2;simp [bkV,show (j*6+1) / 6=j by omega,show (j*6+1)%6=1 by omega]
  · subst e2;simp [bkV,show (j*6+2) / 6=j by omega,show (j*6+2)%6=2 by omega]
  · subst e2;simp [bkV,show (j*6+3) / 6=j by omega,show (j*6+3)%6=3 by omega]
  · subst e2;simp [bkV,show (j*6+4) / 6=j by omega,show (j*6+4)%6=4 by omega]
  · subst e2;simp [bkV,show (j*6+5) / 6=j by omega,show (j*6+5)%6=5 by omega]
 ·
  have f1:i≠j*6:=by omega
  have f2:i≠j*6+1:=by omega
  have f3:i≠j*6+2:=by omega
  have f4:i≠j*6+3:=by omega
  have f5:i≠j*6+4:=by omega
  have f6:i≠j*6+5:=by omega
  simp [e1,f1,f2,f3,f4,f5,f6]
theorem layW_heap (w:World)(g j:Nat)(b:Bk)(k:Nat)(hk:k≠g):(layW w g j b).heap[k]? = w.heap[k]? := by
 unfold layW
 rw [Below.heap_setCell _ _ _ _ hk,Below.heap_setCell _ _ _ _ hk,Below.heap_setCell _ _ _ _ hk,Below.heap_setCell _ _ _ _ hk,Below.heap_setCell _ _ _ _ hk,Below.heap_setCell _ _ _ _ hk]
theorem layW_touch {F:Nat→Prop}(w:World)(g j:Nat)(b:Bk)(hg:F g):Touch F w (layW w g j b):=
 (((((Touch.setCell _ _ _ _ hg).trans (Touch.setCell _ _ _ _ hg)).trans (Touch.setCell _ _ _ _ hg)).trans (Touch.setCell _ _ _ _ hg)).trans (Touch.setCell _ _ _ _ hg)).trans (Touch.setCell _ _ _ _ hg)
theorem FarM.lay {w:World}{ns wn:Nat}{X:FLoc}{blk:Nat→Nat→Bk}{tch:Nat→List Int}(h:FarM w ns wn X blk tch){q:Nat}(hq:q<ns)(j:Nat)(b:Bk)(hi:∀ k,X.ints ns k→k≠X.b q) :
  FarM (layW w (X.b q) j b) ns wn X (up2 blk q j b) tch∧Touch (X.own ns) w (layW w (X.b q) j b):=by
 have hr:X.r≠X.b q:=fun e=>absurd ((e ▸ h.row).type (h.cel q hq)) (by decide)
 refine ⟨⟨h.row.same (layW_heap _ _ _ _ _ hr),fun s hs=>?_,fun s hs=>(h.tcs s hs).same fun k off e=>layW_heap _ _ _ _ _ (hi k ⟨s,off,hs,e⟩),h.rcap,h.bcap,h.dis,h.n0,h.n1,h.w0,h.w1,h.sm,h.tin,h.tno⟩,layW_touch _ _ _ _ (Or.inr ⟨q,hq,rfl⟩)⟩
 by_cases e:s=q
 ·
  subst e
  refine (layW_cells (h.cel s hs) j b).congr fun i _=>?_
  simp [up1,up2]
 ·
  refine ((h.cel s hs).same (layW_heap _ _ _ _ _ (fun k=>e (h.dis s q hs hq k)))).congr fun i _=>?_
  simp [up2,e]
set_option maxHeartbeats 3200000 in
theorem fLay_any (ns wn:Nat)(X:FLoc)(blk:Nat→Nat→Bk)(tch:Nat→List Int)(g o x q j:Nat)(b:Bk)(w:World)(h:FarM w ns wn X blk tch)(hi:∀ k,X.ints ns k→k≠X.b q)(hp:w.cell? ⟨g,o,none⟩=some (.slice (some ⟨X.r,0,none⟩) ns X.rc))(hx:x≤1000000)(hq:Hid (q=x%ns))(hj:j<wn) :
  Calls Tryz.prog 164 #[.pointer (some ⟨g,o,none⟩),.int .i64 x,.int .i64 j,.agg (bkA b)] w fun e w'=>e = .returned (.tuple #[])∧FarM w' ns wn X (up2 blk q j b) tch∧Touch (X.own ns) w w':=by
 have hqs:q<ns:=by rw [hq.out];exact Nat.mod_lt _ h.n0
 obtain ⟨e1,e2⟩:=h.setAt hqs
 have n1:=h.n1
 have w1:=h.w1
 have lg:g<w.heap.size:=cell_lt hp
 have l1:=h.row.lt
 have l2:=(h.cel q hqs).lt
 have bs:=fun o2=>fsetOf_any ns X g o x q (w.alloc o2) ((Below.cell ((Below.refl w.heap.size w).alloc (Nat.le_refl _) o2) (p:=⟨g,o,none⟩) lg).trans hp) h.n0 h.n1 hx hq
 obtain ⟨d0,d1,d2,d3,d4,d5⟩:=blk_at (h.cel q hqs) hj
 have f0:=(h.cel q hqs).frozen (j*6)
 have f1:=(h.cel q hqs).frozen (j*6+1)
 have f2:=(h.cel q hqs).frozen (j*6+2)
 have f3:=(h.cel q hqs).frozen (j*6+3)
 have f4:=(h.cel q hqs).frozen (j*6+4)
 have f5:=(h.cel q hqs).frozen (j*6+5)
 have HL:Hid _:=h.lay hqs j b hi
 clear h hi
 go_enter Tryz.func164,Tryz.ntmps164
 go_wp2_with (go_at_call 158;refine (bs _).mono ?_;rintro e w' ⟨rfl,rfl⟩)
 go_region_with fail
 all_goals go_wp2
 all_goals refine bodyPost_end (results_none rfl _ _ _) rfl ?_
 all_goals exact ⟨rfl,HL.out.1.below (((Below.refl _ _).alloc (Nat.le_refl _) _).drew) (Nat.le_refl _),HL.out.2.trans (Touch.of_below (((Below.refl _ _).alloc (Nat.le_refl _) _).drew) (Nat.le_refl _))⟩
def FLoc.touched (X:FLoc)(q g len cap:Nat):FLoc:={ X with ta:=up1 X.ta q (some ⟨g,0,none⟩),tl:=up1 X.tl q len,tc:=up1 X.tc q cap }
theorem without_snoc {xs:List Int}{i:Nat}(hi:i<xs.length)(j:Int):without j (xs.take (i+1))=without j (xs.take i)++if xs.getD i 0=j then [] else [xs.getD i 0]:=by
 unfold without
 rw [List.take_add_one,List.filter_append,List.getElem?_eq_getElem hi]
 have:xs.getD i 0=xs[i]:=by simp [List.getD,hi]
 rw [this]
 by_cases h:xs[i]=j <;> simp [h]
theorem without_le (j:Int)(l:List Int):(without j l).length≤l.length:=List.length_filter_le _ _
theorem without_mem {j e:Int}{l:List Int}(h:e∈without j l):e∈l∧e≠j:=by
 unfold without at h
 rw [List.mem_filter] at h
 exact ⟨h.1,by simpa using h.2⟩
theorem FarM.touch {w w1:World}{ns wn:Nat}{X:FLoc}{blk:Nat→Nat→Bk}{tch:Nat→List Int}(h:FarM w ns wn X blk tch)(hb:Below w.heap.size w w1){q g cap:Nat}(hq:q<ns)(l:List Int)(hg:w.heap.size≤g)(hi:∀ k,X.ints ns k→k≠X.r)
  (hl:Ints w1 (some ⟨g,0,none⟩) l.length cap l) (hn:∀ e,e∈l→0≤e∧e<(wn:Int)) (hd:l.Nodup) :
  FarM (w1.setCell ⟨X.r,q*2+1,none⟩ (.slice (some ⟨g,0,none⟩) l.length cap)) ns wn (X.touched q g l.length cap) blk (up1 tch q l)∧Touch (X.own ns) w (w1.setCell ⟨X.r,q*2+1,none⟩ (.slice (some ⟨g,0,none⟩) l.length cap)):=by
 have h1:=h.below hb (Nat.le_refl _)
 have lr:=h.row.lt
 have hb':∀ s,s<ns→X.b s≠X.r:=fun s hs e=>absurd (h.row.type (e ▸ h.cel s hs)) (by decide)
 refine ⟨⟨?_,fun s hs=>(h1.cel s hs).setOther _ _ (hb' s hs),fun s hs=>?_,h.rcap,h.bcap,h.dis,h.n0,h.n1,h.w0,h.w1,h.sm,fun s hs e he=>?_,fun s hs=>?_⟩,(Touch.of_below hb (Nat.le_refl _)).trans (Touch.setCell _ _ _ _ (Or.inl rfl))⟩
 ·
  refine (h1.row.set _ _).congr fun i hi=>?_
  unfold setV FLoc.touched up1
  by_cases e:i=q*2+1
  ·
   subst e
   rw [if_pos rfl,if_neg (by omega)]
   simp [show (q*2+1) / 2=q by omega]
  ·
   rw [if_neg e]
   by_cases e2:i%2=0
   · simp [e2]
   ·
    have:i / 2≠q:=by omega
    simp [e2,this]
 ·
  unfold FLoc.touched up1
  by_cases e:s=q
  ·
   subst e
   simp only [if_true]
   refine hl.same fun b off eb=>Below.heap_setCell _ _ _ _ ?_
   simp only [Option.some.injEq,Addr.mk.injEq] at eb
   intro e2
   have:b=X.r:=e2
   omega
  ·
   simp only [e,if_false]
   exact (h1.tcs s hs).same fun b off eb=>Below.heap_setCell _ _ _ _ (hi b ⟨s,off,hs,eb⟩)
 ·
  unfold up1 at he
  by_cases e2:s=q
  · rw [if_pos e2] at he;exact hn e he
  · rw [if_neg e2] at he;exact h.tin s hs e he
 ·
  unfold up1
  by_cases e2:s=q
  · rw [if_pos e2];exact hd
  · rw [if_neg e2];exact h.tno s hs
theorem owns_list {w:World}{base g n cap:Nat}{xs:List Int}(h:w.ownsRow base 3 1 (.slice (some ⟨g,0,none⟩) n cap) n (xs.map (Value.int .i64))):Ints w (some ⟨g,0,none⟩) n cap xs:=by
 obtain ⟨h1,h2⟩:=h
 rw [List.length_map] at h1
 rcases h2 with ⟨h3,_⟩|⟨g',cap',cur,hv,hg,hh,hn',hm,hs,ht⟩
 · cases h3
 ·
  simp only [Value.slice.injEq,Option.some.injEq,Addr.mk.injEq] at hv
  obtain ⟨⟨rfl,_⟩,_,rfl⟩:=hv
  refine ⟨by omega,hn',hm,(fun e=>by cases e),fun i hi=>⟨g,0,rfl,?_⟩⟩
  have hr:Row w g cur.toList 3:=by unfold Row;simpa using hh
  rw [Nat.zero_add,hr.cell]
  have:(cur.toList.take (n*1))[i]? = some (.int .i64 (xs.getD i 0)):=by
   rw [ht,List.getElem?_map,List.getElem?_eq_getElem (by omega)]
   simp [List.getD,show i<xs.length by omega]
  rwa [List.getElem?_take,if_pos (by omega)] at this
set_option maxHeartbeats 3200000 in
theorem fTouch_any (ns wn:Nat)(X:FLoc)(blk:Nat→Nat→Bk)(tch:Nat→List Int)(g o x q j:Nat)(w:World)(h:FarM w ns wn X blk tch)(hi:∀ k,X.ints ns k→k≠X.r)(hp:w.cell? ⟨g,o,none⟩=some (.slice (some ⟨X.r,0,none⟩) ns X.rc))(hx:x≤1000000)(hq:Hid (q=x%ns))(hj:j<wn) :
  Calls Tryz.prog 152 #[.pointer (some ⟨g,o,none⟩),.int .i64 x,.int .i64 j] w fun e w'=>e = .returned (.tuple #[])∧∃ gg cap,w.heap.size≤gg∧gg<w'.heap.size∧FarM w' ns wn (X.touched q gg (touchF (tch q) j).length cap) blk (up1 tch q (touchF (tch q) j))∧Touch (X.own ns) w w':=by
 have hqs:q<ns:=by rw [hq.out];exact Nat.mod_lt _ h.n0
 obtain ⟨i0,hi0,hz0,hz1,hz2⟩:=info_parts Tryz.infoInt
 obtain ⟨e1,e2⟩:=h.setAt hqs
 have n1:=h.n1
 have w1:=h.w1
 have lg:g<w.heap.size:=cell_lt hp
 have l1:=h.row.lt
 have tq:=h.tcs q hqs
 have tl:=tq.hlen
 have tl4:X.tl q≤4:=by have:=nodup_le wn _ (h.tno q hqs) (h.tin q hqs);omega
 have HTI:=h.tin q hqs
 have HM:Hid _:=h
 have HI:Hid _:=hi
 have HTL:Hid _:=tl
 have hjw:¬wn≤j:=by omega
 clear h hi tl
 go_enter Tryz.func152,Tryz.ntmps152
 go_wp2_with (go_at_call 158;refine (fsetOf_any ns X g o x q _ hp HM.out.n0 HM.out.n1 hx hq).mono ?_;rintro e w' ⟨rfl,rfl⟩)
 rename World=>w
 go_loopw [7,8] (fun ov u wr=>∃ (i:Nat) (oa:Option Addr) (ol oc:Nat),i≤X.tl q∧u = .int .i64 i∧ov = .slice oa ol oc∧ol=(without j ((tch q).take i)).length∧wr.ownsRow w.heap.size 3 1 (.slice oa ol oc) ol ((without j ((tch q).take i)).map (Value.int .i64))∧Below w.heap.size w wr) (fun _ u _=>X.tl q-(intOf u).toNat)
 case atStart=>exact ⟨0,none,0,0,by omega,rfl,rfl,by simp [without],by simp [without,World.ownsRow],Below.refl _ _⟩
 case round=>
  obtain ⟨i,oa,ol,oc,hi,rfl,rfl,hol,hown,hb⟩:=hrel
  have HO:Hid _:=hown
  have HB:Hid _:=hb
  have HL:Hid _:=hol
  have r0:=(hb.cell (p:=⟨g,o,none⟩) lg).trans hp
  have r1:=(hb.cell (p:=⟨X.r,q*2,none⟩) l1).trans e1
  have r2:=(hb.cell (p:=⟨X.r,q*2+1,none⟩) l1).trans e2
  have tr:=tq.below hb (Nat.le_refl _)
  have ho4:ol≤4:=by
   have:=without_le j ((tch q).take i)
   have h2:=List.length_take_le i (tch q)
   omega
  have hbs:=hb.size
  have HRW:Hid (∀ k,(Value.slice oa ol oc).ownBlock=some k→w.heap.size≤k):=fun k hk=>(owns_lt hown k hk).2
  clear hown hb hol
  by_cases hlt:i<X.tl q
  ·
   obtain ⟨b,off,ha,hc⟩:=tr.hat i hlt
   have HF:Hid _:=without_snoc (xs:=tch q) (i:=i) (by rw [HTL.out];exact hlt) j
   rw [ha] at r2
   obtain ⟨y,hy⟩:∃ y,(tch q).getD i 0=y:=⟨_,rfl⟩
   rw [hy] at hc HF
   have lc:=cell_lt hc
   clear hy ha
   by_cases hyj:y=(j:Int)
   ·
    have HF2:Hid _:=HF.out
    rw [hyj] at hc
    clear HF
    go_wp2_with fail
    go_roundw
    case rel=>exact ⟨i+1,oa,ol,oc,by omega,by go_num,rfl,by rw [HF2.out,if_pos hyj,List.append_nil];exact HL.out,by rw [HF2.out,if_pos hyj,List.append_nil];exact HO.out,HB.out⟩
    case measure=>simp [intOf];omega
   ·
    have HF2:Hid _:=HF.out
    have hyb:(y==(j:Int))=false:=by simp [hyj]
    have HY:Hid _:=hyj
    clear HF hyj
    have LM:Hid (ol+1≤maxLen):=by unfold Hid maxLen;omega
    have L8:Hid ((ol+1)*8≤140737488355328):=by unfold Hid;omega
    have LB:Hid (w.heap.size≤(wr.alloc (.cells #[.int .i64 y] 3)).heap.size):=by unfold Hid;simp;omega
    go_wp2_with (at_builtin;refine wpList_append_lies _ rfl _ _ 25 rfl w.heap.size 3 i0 (.int .i64 0) 1 8 Tryz.underlying25 hi0 hz0 hz1 hz2 rfl (by decide) (.slice oa ol oc) ol ((without j ((tch q).take i)).map (Value.int .i64)) rfl ?o1 ⟨wr.heap.size,0,none⟩ 1 1 [.int .i64 y] ?o9 rfl ?o3 ?o4 (by omega) ?o5 ?o6 ?o7 _ rfl ?o8)
    case o1=>exact World.ownsRow.alloc HO.out _
    try case o3=>exact World.news_of_block (cs:=#[.int .i64 y]) (t:=3) (fr:=(0,0)) (heap_alloc_new wr _)
    case o4=>simp [Value.oneCell']
    case o5=>exact LM.out
    case o6=>exact L8.out
    case o7=>first | exact LB.out | omega
    try case o9=>rfl
    case o8=>
     intro gg cap2 w4 hown4 hgrow4 hat4 hlt4
     have hb4:Below w.heap.size w w4:=below_grown (HB.out.alloc hbs _) LB.out hgrow4 HRW.out
     have HB4:Hid _:=hb4
     have HO4:Hid _:=hown4
     clear hown4 hgrow4 hat4 hb4
     go_wp2_with fail
     go_roundw
     case rel=>first | exact ⟨i+1,some ⟨gg,0,none⟩,ol+1,cap2,by omega,by go_num,rfl,by rw [HF2.out,if_neg HY.out,List.length_append,← HL.out];rfl,by rw [HF2.out,if_neg HY.out,List.map_append];exact HO4.out,HB4.out⟩ | ((repeat apply Exists.intro);exact ⟨⟨i+1,some ⟨gg,0,none⟩,ol+1,cap2,by omega,by go_num,rfl,by rw [HF2.out,if_neg HY.out,List.length_append,← HL.out];rfl,by rw [HF2.out,if_neg HY.out,List.map_append];exact HO4.out,HB4.out⟩,rfl⟩)
     case measure=>simp [intOf];omega
  ·
   have ei:i=X.tl q:=by omega
   have HL2:Hid (without j ((tch q).take i)=without j (tch q)):=by unfold Hid;rw [List.take_of_length_le (by rw [HTL.out,ei];exact Nat.le_refl _)]
   have LM:Hid (ol+1≤maxLen):=by unfold Hid maxLen;omega
   have L8:Hid ((ol+1)*8≤140737488355328):=by unfold Hid;omega
   have LB:Hid (w.heap.size≤(wr.alloc (.cells #[.int .i64 (j:Int)] 3)).heap.size):=by unfold Hid;simp;omega
   clear ei
   go_wp2_with (at_builtin;refine wpList_append_lies _ rfl _ _ 25 rfl w.heap.size 3 i0 (.int .i64 0) 1 8 Tryz.underlying25 hi0 hz0 hz1 hz2 rfl (by decide) (.slice oa ol oc) ol ((without j ((tch q).take i)).map (Value.int .i64)) rfl ?p1 ⟨wr.heap.size,0,none⟩ 1 1 [.int .i64 (j:Int)] ?p9 rfl ?p3 ?p4 (by omega) ?p5 ?p6 ?p7 _ rfl ?p8)
   case p1=>exact World.ownsRow.alloc HO.out _
   try case p3=>exact World.news_of_block (cs:=#[.int .i64 (j:Int)]) (t:=3) (fr:=(0,0)) (heap_alloc_new wr _)
   case p4=>simp [Value.oneCell']
   case p5=>exact LM.out
   case p6=>exact L8.out
   case p7=>first | exact LB.out | omega
   try case p9=>rfl
   case p8=>
    intro gg cap2 w4 hown4 hgrow4 hat4 hlt4
    have hb4:Below w.heap.size w w4:=below_grown (HB.out.alloc hbs _) LB.out hgrow4 HRW.out
    have hgg:w.heap.size≤gg:=(owns_lt hown4 gg rfl).2
    have HE:Hid (touchF (tch q) j=without j ((tch q).take i)++[(j:Int)]):=by unfold Hid touchF;rw [HL2.out]
    have hE1:(touchF (tch q) j).length=ol+1:=by rw [HE.out,List.length_append,← HL.out];rfl
    have hin:Ints w4 (some ⟨gg,0,none⟩) (touchF (tch q) j).length cap2 (touchF (tch q) j):=by
     rw [hE1]
     refine owns_list (base:=w.heap.size) ?_
     rw [HE.out,List.map_append]
     exact hown4
    have HFT:Hid _:=HM.out.touch hb4 hqs (touchF (tch q) j) hgg HI.out hin (fun e he=>by
     unfold touchF at he
     rw [List.mem_append] at he
     rcases he with he|he
     · exact HTI e (without_mem he).1
     ·
      rw [List.mem_singleton] at he
      omega) (by
     unfold touchF
     rw [List.nodup_append]
     refine ⟨(HM.out.tno q hqs).filter _,by simp,?_⟩
     intro a ha b hb2
     rw [List.mem_singleton] at hb2
     subst hb2
     exact (without_mem ha).2)
    rw [hE1] at HFT
    have s0:=(hb4.cell (p:=⟨g,o,none⟩) lg).trans hp
    have s2:=(hb4.cell (p:=⟨X.r,q*2+1,none⟩) l1).trans e2
    have sf:=(hb4.frozen (p:=⟨X.r,q*2+1,none⟩) l1).trans (HM.out.row.frozen _)
    have HLT:Hid _:=hlt4
    have HE1:Hid _:=hE1
    clear hown4 hgrow4 hat4 hin hE1 r0 r1 r2
    go_wp2
    refine bodyPost_end (results_none rfl _ _ _) rfl ?_
    exact ⟨rfl,gg,cap2,hgg,by simpa [World.setCell] using HLT.out,by rw [HE1.out];exact HFT.out.1,HFT.out.2⟩
set_option maxHeartbeats 800000 in
theorem rturn_any (c:Cf)(s:Sl)(i:Nat)(t:Int)(w:World)(h:CfgAt w c s)(R:Right c)(hi:(i:Int)<c.cores)(t0:0≤t)(t1:t≤100000) :
  Calls Tryz.prog 80 #[cfgV c s,.int .i64 i,.int .i64 t] w fun e w'=>e = .returned (.int .i64 (turnZ c i t))∧Below w.heap.size w w':=by
 have k0:=Kept.start w (cfgA c s) 43
 obtain ⟨wa,wl,wc,sa,sl,sc,ta,tl,tc⟩:=s
 have htl:(tl:Int)=c.cores:=by
  have e1:=R.tl
  have e2:=h.turns.hlen
  simp only at e2
  omega
 have htle:=h.turns.hle
 have htm:=h.turns.hmax
 unfold maxLen at htm
 have hit:i<tl:=by omega
 obtain ⟨b,off,ia,il,ic,hta,hc,hints⟩:=h.turns.hat i hit
 simp only at hta
 subst hta
 have hrl:=grid_row R (show i<c.turns.length by have:=h.turns.hlen;simp only at this;omega)
 have hlen:=hints.hlen
 have ile:=hints.hle
 have hz:turnZ c i t=(c.turns.getD i []).getD (t / c.quantum%((c.turns.getD i []).length:Int)).toNat 0:=rfl
 rw [hlen] at hz
 obtain ⟨j,hj,hjl⟩:=mod_nat (a:=t / c.quantum) (n:=il) (by omega)
 rw [hj,Int.toNat_natCast] at hz
 obtain ⟨b2,off2,hia,hc2⟩:=hints.hat j hjl
 subst hia
 have HZ:Hid _:=hz
 generalize (c.turns.getD i []).getD j 0=v at *
 have HBD:b<w.heap.size:=cell_lt hc
 have HBD2:b2<w.heap.size:=cell_lt hc2
 have q1:=R.q1
 have q2:=R.q2
 have w0:=R.w0
 have f1:=R.f1
 have y1:0<c.quantum:=by omega
 have y2:0≤t / c.quantum:=Int.ediv_nonneg t0 (by omega)
 have y3:t / c.quantum≤t:=Int.ediv_le_self _ t0
 have i1:(0:Int)<(il:Int):=by omega
 clear hz hlen hrl htl
 go_enter Tryz.func80,Tryz.ntmps80
 go_wp2
 go_ret
 exact ⟨ret_int HZ.out.symm,k0.below⟩
set_option maxHeartbeats 800000 in
theorem ropen_any (c:Cf)(s:Sl)(i:Nat)(d t:Int)(w:World)(h:CfgAt w c s)(R:Right c)(hi:(i:Int)<c.cores)(t0:0≤t)(t1:t≤100000) :
  Calls Tryz.prog 81 #[cfgV c s,.int .i64 i,.int .i64 d,.int .i64 t] w fun e w'=>e = .returned (.bool (openB c i d t))∧Below w.heap.size w w':=by
 have k0:=Kept.start w (cfgA c s) 43
 have q1:=R.q1
 have q2:=R.q2
 have w0:=R.w0
 have w1:=R.w1
 have f1:=R.f1
 have f2:=R.f2
 have y1:0<c.quantum:=by omega
 have y0:¬c.quantum=0:=by omega
 rcases Bool.eq_false_or_eq_true (turnZ c i t==d) with a1|a1
 ·
  by_cases a2:0≤d
  ·
   have HB:Hid (openB c i d t=decide (t%c.quantum<c.quantum-c.flush-worstZ c)):=by
    unfold Hid openB;rw [a1,decide_eq_true a2];rfl
   have a2':decide (0≤d)=true:=by simpa using a2
   go_enter Tryz.func81,Tryz.ntmps81
   go_wp2_with fail
   refine (rworst_any c s _ (h.below k0.below (Nat.le_refl _)) R.c1 R.c2 R.s1 R.s2 R.t2).mono ?_;rintro e w1 ⟨rfl,hb1⟩;have k1:=k0.next hb1 rfl;have p1:=k1.box
   go_wp2_with fail
   refine (rturn_any c s i t _ (h.below k1.below (Nat.le_refl _)) R hi t0 t1).mono ?_;rintro e w2 ⟨rfl,hb2⟩;have k2:=k1.next hb2 rfl;have p2:=k2.box
   clear p1
   have c11:w2.cell? ⟨w.heap.size,11,none⟩=some (.int .i64 c.quantum):=p2 11
   have c12:w2.cell? ⟨w.heap.size,12,none⟩=some (.int .i64 c.flush):=p2 12
   go_wp2_with fail
   go_quiet (fail)
   go_wp2
   go_ret
   exact ⟨ret_bool HB.out.symm,below_drewN k2.below _⟩
  ·
   have HB:Hid (openB c i d t=false):=by
    unfold Hid openB;rw [decide_eq_false a2];simp
   have a2':decide (0≤d)=false:=by simpa using a2
   go_enter Tryz.func81,Tryz.ntmps81
   go_wp2_with fail
   refine (rworst_any c s _ (h.below k0.below (Nat.le_refl _)) R.c1 R.c2 R.s1 R.s2 R.t2).mono ?_;rintro e w1 ⟨rfl,hb1⟩;have k1:=k0.next hb1 rfl;have p1:=k1.box
   go_wp2_with fail
   refine (rturn_any c s i t _ (h.below k1.below (Nat.le_refl _)) R hi t0 t1).mono ?_;rintro e w2 ⟨rfl,hb2⟩;have k2:=k1.next hb2 rfl;have p2:=k2.box
   clear p1
   go_wp2_with fail
   go_quiet (fail)
   go_wp2
   go_ret
   exact ⟨ret_bool HB.out.symm,below_drewN k2.below _⟩
 ·
  have HB:Hid (openB c i d t=false):=by
   unfold Hid openB;rw [a1];rfl
  go_enter Tryz.func81,Tryz.ntmps81
  go_wp2_with fail
  refine (rworst_any c s _ (h.below k0.below (Nat.le_refl _)) R.c1 R.c2 R.s1 R.s2 R.t2).mono ?_;rintro e w1 ⟨rfl,hb1⟩;have k1:=k0.next hb1 rfl;have p1:=k1.box
  go_wp2_with fail
  refine (rturn_any c s i t _ (h.below k1.below (Nat.le_refl _)) R hi t0 t1).mono ?_;rintro e w2 ⟨rfl,hb2⟩;have k2:=k1.next hb2 rfl;have p2:=k2.box
  clear p1
  go_wp2_with fail
  go_quiet (fail)
  go_wp2
  go_ret
  exact ⟨ret_bool HB.out.symm,below_drewN k2.below _⟩
set_option maxHeartbeats 1600000 in
theorem rTurn_any (c:Cf)(s:Sl)(core t:Int)(w:World)(h:CfgAt w c s) :
  Calls Tryz.prog 40 #[cfgV c s,.int .i64 core,.int .i64 t] w fun e w'=>e = .returned (.tuple #[.int .i64 (turnD c core t),.bool (turnO c core t),.int .i64 (turnE c core t)])∧Below w.heap.size w w':=by
 have k0:=Kept.start w (cfgA c s) 43
 by_cases hz:chk c=0
 ·
  have hb:(chk c != 0)=false:=by simp [hz]
  have R:=right_of hz
  have c2:=R.c2
  by_cases hok:0≤core∧core<c.cores∧0≤t∧t≤10000
  ·
   have HN:Hid _:=turn_yes (c:=c) (core:=core) (t:=t) hz (decide_eq_true hok)
   obtain ⟨a1,a2,a3,a4⟩:=hok
   obtain ⟨i,rfl⟩:=Int.eq_ofNat_of_zero_le a1
   rw [Int.toNat_natCast] at HN
   clear hz
   go_enter Tryz.func40,Tryz.ntmps40
   go_wp2_with fail
   refine (rcheck_any c s _ (h.below k0.below (Nat.le_refl _))).mono ?_;rintro e w1 ⟨rfl,hb1⟩;have k1:=k0.next hb1 rfl;have p1:=k1.box
   go_wp2_with fail
   refine (rturn_any c s i t _ (h.below k1.below (Nat.le_refl _)) R a2 a3 (by omega)).mono ?_;rintro e w2 ⟨rfl,hb2⟩;have k2:=k1.next hb2 rfl;have p2:=k2.box
   clear p1
   go_wp2_with fail
   refine (ropen_any c s i _ t _ (h.below k2.below (Nat.le_refl _)) R a2 a3 (by omega)).mono ?_;rintro e w3 ⟨rfl,hb3⟩;have k3:=k2.next hb3 rfl
   clear p2
   go_wp2
   go_ret3
   exact ⟨ret_three HN.out.2.1.symm HN.out.2.2.symm HN.out.1.symm,k3.below⟩
  ·
   have HN:Hid _:=turn_no (c:=c) (core:=core) (t:=t) hz (decide_eq_false hok)
   clear hz
   have cases:core<0∨(0≤core∧c.cores≤core)∨(0≤core∧core<c.cores∧t<0)∨(0≤core∧core<c.cores∧0≤t∧10000<t):=by omega
   clear hok
   rcases cases with a1|⟨a1,a2⟩|⟨a1,a2,a3⟩|⟨a1,a2,a3,a4⟩
   all_goals
    go_enter Tryz.func40,Tryz.ntmps40
    go_wp2_with fail
    refine (rcheck_any c s _ (h.below k0.below (Nat.le_refl _))).mono ?_
    rintro e w1 ⟨rfl,hb1⟩
    have k1:=k0.next hb1 rfl
    have p1:=k1.box
    go_wp2
    go_ret3
    exact ⟨ret_three HN.out.2.1.symm HN.out.2.2.symm HN.out.1.symm,k1.below⟩
 ·
  have hb:(chk c != 0)=true:=by simpa using hz
  have HN:Hid _:=turn_bad (core:=core) (t:=t) hz
  clear hz
  go_enter Tryz.func40,Tryz.ntmps40
  go_wp2_with fail
  refine (rcheck_any c s _ (h.below k0.below (Nat.le_refl _))).mono ?_;rintro e w1 ⟨rfl,hb1⟩;have k1:=k0.next hb1 rfl;have p1:=k1.box
  go_wp2
  go_ret3
  exact ⟨ret_three HN.out.2.1.symm HN.out.2.2.symm HN.out.1.symm,k1.below⟩
set_option maxHeartbeats 800000 in
theorem rserves_any (c:Cf)(s:Sl)(d t:Int)(w:World)(h:CfgAt w c s)(R:Right c)(t0:0≤t)(t1:t≤100000) :
  Calls Tryz.prog 120 #[cfgV c s,.int .i64 d,.int .i64 t] w fun e w'=>e = .returned (.bool (servesB c d t))∧Below w.heap.size w w':=by
 have k0:=Kept.start w (cfgA c s) 43
 obtain ⟨wa,wl,wc,sa,sl,sc,ta,tl,tc⟩:=s
 have s1:=R.s1
 have s2:=R.s2
 have hlen:=h.slots.hlen
 have hle:=h.slots.hle
 simp only at hlen hle
 have l1:=R.t1
 have l2:=R.t2
 rw [hlen] at l1 l2
 have y1:0<c.slot:=by omega
 have y0:¬c.slot=0:=by omega
 have y2:0≤t / c.slot:=Int.ediv_nonneg t0 (by omega)
 have y3:t / c.slot≤t:=Int.ediv_le_self _ t0
 have i1:(0:Int)<(sl:Int):=by omega
 have i0:¬(sl:Int)=0:=by omega
 have hz:servesB c d t=((t%c.slot==c.slot-1)&&(c.slots.getD (t / c.slot%(sl:Int)).toNat 0==d)):=by unfold servesB;rw [hlen]
 obtain ⟨j,hj,hjl⟩:=mod_nat (a:=t / c.slot) (n:=sl) (by omega)
 rw [hj,Int.toNat_natCast] at hz
 obtain ⟨b,off,hsa,hc⟩:=h.slots.hat j hjl
 simp only at hsa
 subst hsa
 have HBD:b<w.heap.size:=cell_lt hc
 generalize c.slots.getD j 0=v at *
 have hv:IntKind.i64.wrap (c.slot-1)=c.slot-1:=by rw [IntKind.wrap_i64];omega
 have HL:Hid _:=hlen
 clear hlen
 rcases Bool.eq_false_or_eq_true (t%c.slot==c.slot-1) with a1|a1
 ·
  have HZ:Hid (servesB c d t=(v==d)):=by unfold Hid;rw [hz,a1];rfl
  have c8:(w.alloc (.cells (cfgA c ⟨wa,wl,wc,some ⟨b,off,none⟩,sl,sc,ta,tl,tc⟩) 43)).cell? ⟨w.heap.size,8,none⟩=some (.int .i64 c.slot):=k0.box 8
  have c9:(w.alloc (.cells (cfgA c ⟨wa,wl,wc,some ⟨b,off,none⟩,sl,sc,ta,tl,tc⟩) 43)).cell? ⟨w.heap.size,9,none⟩=some (.slice (some ⟨b,off,none⟩) sl sc):=k0.box 9
  have cv:(w.alloc (.cells (cfgA c ⟨wa,wl,wc,some ⟨b,off,none⟩,sl,sc,ta,tl,tc⟩) 43)).cell? ⟨b,off+j,none⟩=some (.int .i64 v):=by rw [k0.below.cell (p:=⟨b,off+j,none⟩) HBD];exact hc
  clear hz
  go_enter Tryz.func120,Tryz.ntmps120
  go_wp2_with fail
  generalize (w.alloc (.cells (cfgA c ⟨wa,wl,wc,some ⟨b,off,none⟩,sl,sc,ta,tl,tc⟩) 43))=W at *
  go_quiet (fail)
  go_wp2
  go_ret
  exact ⟨ret_bool HZ.out.symm,below_drewN k0.below _⟩
 ·
  have HZ:Hid (servesB c d t=false):=by unfold Hid;rw [hz,a1];rfl
  have c8:(w.alloc (.cells (cfgA c ⟨wa,wl,wc,some ⟨b,off,none⟩,sl,sc,ta,tl,tc⟩) 43)).cell? ⟨w.heap.size,8,none⟩=some (.int .i64 c.slot):=k0.box 8
  clear hz
  go_enter Tryz.func120,Tryz.ntmps120
  go_wp2_with fail
  generalize (w.alloc (.cells (cfgA c ⟨wa,wl,wc,some ⟨b,off,none⟩,sl,sc,ta,tl,tc⟩) 43))=W at *
  go_quiet (fail)
  go_wp2
  go_ret
  exact ⟨ret_bool HZ.out.symm,below_drewN k0.below _⟩
end Go.Proofs.YtehheaedbnfidaaGreat
