import Derived.Deep.WholeRow
import Derived.Great.Walk
import Derived.Deep.DeepCutAuto
import Derived.Test.YtehheaedbnfidaaGreatClWLent7
import Derived.Test.YtehheaedbnfidaaGreatClWRefM
set_option maxRecDepth 100000
namespace Go.Proofs.YtehheaedbnfidaaGreat
open Go.RowKit
theorem Tryz.infoOpsN:(Tryz.prog.info? 28).map (fun i=>(i.zero,i.size,i.bytes))=some (some (.slice none 0 0),1,24):=by kernel_rfl
structure NSt (w wr:World)(c:Cf)(s:Sl)(gp np go nd gc ns pn D:Nat):Prop where
 cfg:Row wr w.heap.size (cfgL c s) 43
 prg:Row wr gp (List.replicate np (.slice none 0 0)) 28
 own:Row wr go ((List.range nd).map fun d=>if d<D then .slice (some ⟨w.heap.size+5+d,0,none⟩) pn pn else .slice none 0 0) 25
 com:Row wr gc (List.replicate ns (.int .i64 0)) 3
 mac:Row wr (w.heap.size+4) (machL c s gp np go nd gc ns 0) 103
 wds:∀ d,d<D→Row wr (w.heap.size+5+d) (List.replicate pn (.int .i64 0)) 3
 siz:wr.heap.size=w.heap.size+5+D
 bel:Below w.heap.size w wr
 rng:w.heap.size<gp∧gp<w.heap.size+4∧w.heap.size<go∧go<w.heap.size+4∧w.heap.size<gc∧gc<w.heap.size+4∧gp≠go∧go≠gc
theorem NSt.more {w wr:World}{c:Cf}{s:Sl}{gp np go nd gc ns pn D:Nat}(h:NSt w wr c s gp np go nd gc ns pn D) :
  NSt w ((wr.alloc (.cells (List.replicate pn (Value.int .i64 0)).toArray 3)).setCell ⟨go,D,none⟩ (.slice (some ⟨wr.heap.size,0,none⟩) pn pn)) c s gp np go nd gc ns pn (D+1):=by
 have hs:=h.siz
 have hr:=h.rng
 have n1:∀ {g A t},Row wr g A t→g≠go→Row ((wr.alloc (.cells (List.replicate pn (Value.int .i64 0)).toArray 3)).setCell ⟨go,D,none⟩ (.slice (some ⟨wr.heap.size,0,none⟩) pn pn)) g A t:=fun hr ht=>(hr.alloc _).setCellOther _ _ ht
 refine ⟨n1 h.cfg (by omega),n1 h.prg (by omega),?_,n1 h.com (by omega),n1 h.mac (by omega),fun d hd=>?_,by simp [World.setCell];omega,(h.bel.alloc h.bel.size _).setCell (p:=⟨go,D,none⟩) (by show w.heap.size≤go;omega) _,hr⟩
 ·
  have:=(h.own.alloc (.cells (List.replicate pn (Value.int .i64 0)).toArray 3)).setCell D (.slice (some ⟨wr.heap.size,0,none⟩) pn pn)
  have e:((List.range nd).map fun d=>if d<D then Value.slice (some ⟨w.heap.size+5+d,0,none⟩) pn pn else .slice none 0 0).set D (.slice (some ⟨wr.heap.size,0,none⟩) pn pn)=(List.range nd).map fun d=>if d<D+1 then Value.slice (some ⟨w.heap.size+5+d,0,none⟩) pn pn else .slice none 0 0:=by
   apply List.ext_getElem
   · simp
   ·
    intro i h1 h2
    simp only [List.getElem_set,List.getElem_map,List.getElem_range]
    by_cases q:D=i
    ·
     subst q
     rw [if_pos rfl,if_pos (by omega),hs]
    ·
     rw [if_neg q]
     by_cases r:i<D
     · rw [if_pos r,if_pos (by omega)]
     · rw [if_neg r,if_neg (by omega)]
  rw [e] at this
  exact this
 ·
  by_cases q:d=D
  ·
   have:Row (wr.alloc (.cells (List.replicate pn (Value.int .i64 0)).toArray 3)) wr.heap.size (List.replicate pn (.int .i64 0)) 3:=heap_alloc_new wr _
   rw [q]
   have e5:wr.heap.size=w.heap.size+5+D:=hs
   rw [← e5]
   exact this.setCellOther D _ (by omega)
  · exact n1 (h.wds d (by omega)) (by omega)
theorem NSt.drew {w wr:World}{c:Cf}{s:Sl}{gp np go nd gc ns pn D:Nat}(h:NSt w wr c s gp np go nd gc ns pn D):NSt w wr.drew c s gp np go nd gc ns pn D:=⟨h.cfg,h.prg,h.own,h.com,h.mac,h.wds,h.siz,h.bel.drew,h.rng⟩
theorem NSt.ref {w wr:World}{c:Cf}{s:Sl}{gp np go nd gc ns:Nat}(h:NSt w wr c s gp np go nd gc ns c.priv.toNat nd)(hz:chk c=0)(h1:(np:Int)=c.domains*c.cores)(h2:(nd:Int)=c.domains)(h3:(ns:Int)=c.shared) :
  RefM wr ⟨w.heap.size+4,gp,np,go,nd,gc,ns,fun _=>gp,fun d=>w.heap.size+5+d,List.replicate np (.slice none 0 0)⟩ ⟨c,s,fun _=>[],fun _=>List.replicate c.priv.toNat 0,List.replicate c.shared.toNat 0,0⟩∧
  ∀ b,RLoc.own ⟨w.heap.size+4,gp,np,go,nd,gc,ns,fun _=>gp,fun d=>w.heap.size+5+d,List.replicate np (.slice none 0 0)⟩ b→w.heap.size≤b∧b<wr.heap.size:=by
 have hs:=h.siz
 have hr:=h.rng
 have hm:∀ n:Nat,(List.replicate n (0:Int)).map (Value.int .i64)=List.replicate n (.int .i64 0):=fun n=>by simp
 refine ⟨⟨h.mac,h1,h2,h3,h.prg,by simp,fun i hi=>Or.inl ⟨rfl,?_⟩,?_,fun d hd=>⟨by simp,?_⟩,fun d e _ _ q=>?_,?_,?_,fun d _=>?_,hz,Int.le_refl _,by show (0:Int)≤10000;omega,fun i _=>by simp⟩,fun b hb=>?_⟩
 · rw [List.getElem?_replicate,if_pos hi]
 ·
  have:=h.own
  have e:((List.range nd).map fun d=>if d<nd then Value.slice (some ⟨w.heap.size+5+d,0,none⟩) c.priv.toNat c.priv.toNat else .slice none 0 0)=(List.range nd).map fun d=>Value.slice (some ⟨w.heap.size+5+d,0,none⟩) c.priv.toNat c.priv.toNat:=by
   apply List.map_congr_left
   intro d hd
   rw [if_pos (List.mem_range.1 hd)]
  rw [e] at this
  exact this
 ·
  show Row wr (w.heap.size+5+d) ((List.replicate c.priv.toNat (0:Int)).map (Value.int .i64)) 3
  rw [hm]
  exact h.wds d hd
 ·
  have q':w.heap.size+5+d=w.heap.size+5+e:=q
  omega
 ·
  show Row wr gc ((List.replicate c.shared.toNat (0:Int)).map (Value.int .i64)) 3
  rw [hm,show c.shared.toNat=ns by omega]
  exact h.com
 ·
  show (List.replicate c.shared.toNat (0:Int)).length=ns
  rw [List.length_replicate]
  omega
 ·
  show w.heap.size+5+d≠gc
  omega
 ·
  rcases hb with q | q | q | q | ⟨i,_,q⟩ | ⟨d,hd,q⟩
  ·
   have q':b=w.heap.size+4:=q
   omega
  ·
   have q':b=gp:=q
   omega
  ·
   have q':b=go:=q
   omega
  ·
   have q':b=gc:=q
   omega
  ·
   have q':b=gp:=q
   omega
  ·
   have q':b=w.heap.size+5+d:=q
   have hd':d<nd:=hd
   omega
theorem rows3 {w W0:World}(hs:W0.heap.size=w.heap.size+1)(A B C:List Value)(t1 t2 t3:TypeId) :
  Row (((W0.alloc (.cells A.toArray t1)).alloc (.cells B.toArray t2)).alloc (.cells C.toArray t3)) (w.heap.size+1) A t1∧Row (((W0.alloc (.cells A.toArray t1)).alloc (.cells B.toArray t2)).alloc (.cells C.toArray t3)) (w.heap.size+2) B t2∧Row (((W0.alloc (.cells A.toArray t1)).alloc (.cells B.toArray t2)).alloc (.cells C.toArray t3)) (w.heap.size+3) C t3∧(((W0.alloc (.cells A.toArray t1)).alloc (.cells B.toArray t2)).alloc (.cells C.toArray t3)).heap.size=w.heap.size+4:=by
 have r1:Row (W0.alloc (.cells A.toArray t1)) W0.heap.size A t1:=heap_alloc_new W0 _
 have r2:Row ((W0.alloc (.cells A.toArray t1)).alloc (.cells B.toArray t2)) (W0.alloc (.cells A.toArray t1)).heap.size B t2:=heap_alloc_new _ _
 have r3:Row (((W0.alloc (.cells A.toArray t1)).alloc (.cells B.toArray t2)).alloc (.cells C.toArray t3)) ((W0.alloc (.cells A.toArray t1)).alloc (.cells B.toArray t2)).heap.size C t3:=heap_alloc_new _ _
 rw [World.size_alloc,World.size_alloc,hs] at r3
 rw [World.size_alloc,hs] at r2
 rw [hs] at r1
 exact ⟨Row.alloc (Row.alloc r1 _) _,Row.alloc r2 _,r3,by simp [hs]⟩
theorem nst_start {w W0:World}{c:Cf}{s:Sl}{gp np go nd gc ns pn:Nat}{A B C L:List Value}{t1 t2 t3:TypeId}(hs:W0.heap.size=w.heap.size+1)(hb:Below w.heap.size w W0)(hR:Row W0 w.heap.size (cfgL c s) 43)
  (hp:(gp=w.heap.size+1∧A=List.replicate np (.slice none 0 0)∧t1=28)∨(gp=w.heap.size+2∧B=List.replicate np (.slice none 0 0)∧t2=28)∨(gp=w.heap.size+3∧C=List.replicate np (.slice none 0 0)∧t3=28))
  (ho:(go=w.heap.size+1∧A=List.replicate nd (.slice none 0 0)∧t1=25)∨(go=w.heap.size+2∧B=List.replicate nd (.slice none 0 0)∧t2=25)∨(go=w.heap.size+3∧C=List.replicate nd (.slice none 0 0)∧t3=25))
  (hc:(gc=w.heap.size+1∧A=List.replicate ns (.int .i64 0)∧t1=3)∨(gc=w.heap.size+2∧B=List.replicate ns (.int .i64 0)∧t2=3)∨(gc=w.heap.size+3∧C=List.replicate ns (.int .i64 0)∧t3=3))
  (hne:gp≠go∧go≠gc) (hL:L=machL c s gp np go nd gc ns 0) :
  NSt w ((((W0.alloc (.cells A.toArray t1)).alloc (.cells B.toArray t2)).alloc (.cells C.toArray t3)).alloc (.cells L.toArray 103)).drew c s gp np go nd gc ns pn 0:=by
 obtain ⟨r1,r2,r3,h4⟩:=rows3 hs A B C t1 t2 t3
 have r0:Row (((W0.alloc (.cells A.toArray t1)).alloc (.cells B.toArray t2)).alloc (.cells C.toArray t3)) w.heap.size (cfgL c s) 43:=Row.alloc (Row.alloc (Row.alloc hR _) _) _
 have hb3:Below w.heap.size w (((W0.alloc (.cells A.toArray t1)).alloc (.cells B.toArray t2)).alloc (.cells C.toArray t3)):=((hb.alloc hb.size _).alloc (by rw [World.size_alloc,hs];omega) _).alloc (by rw [World.size_alloc,World.size_alloc,hs];omega) _
 generalize ((W0.alloc (.cells A.toArray t1)).alloc (.cells B.toArray t2)).alloc (.cells C.toArray t3)=W3 at *
 have r4:Row (W3.alloc (.cells L.toArray 103)) W3.heap.size L 103:=heap_alloc_new W3 _
 rw [h4,hL] at r4
 refine ⟨Row.alloc r0 _,?_,?_,?_,by rw [hL];exact r4,fun d hd=>by omega,?_,(hb3.alloc hb3.size _).drew,?_⟩
 ·
  rcases hp with ⟨rfl,rfl,rfl⟩ | ⟨rfl,rfl,rfl⟩ | ⟨rfl,rfl,rfl⟩
  · exact Row.alloc r1 _
  · exact Row.alloc r2 _
  · exact Row.alloc r3 _
 ·
  have e:((List.range nd).map fun d=>if d<0 then Value.slice (some ⟨w.heap.size+5+d,0,none⟩) pn pn else .slice none 0 0)=List.replicate nd (.slice none 0 0):=by
   apply List.ext_getElem
   · simp
   ·
    intro i h1 h2
    simp
  rw [e]
  rcases ho with ⟨rfl,rfl,rfl⟩|⟨rfl,rfl,rfl⟩|⟨rfl,rfl,rfl⟩
  · exact Row.alloc r1 _
  · exact Row.alloc r2 _
  · exact Row.alloc r3 _
 ·
  rcases hc with ⟨rfl,rfl,rfl⟩ | ⟨rfl,rfl,rfl⟩ | ⟨rfl,rfl,rfl⟩
  · exact Row.alloc r1 _
  · exact Row.alloc r2 _
  · exact Row.alloc r3 _
 ·
  show (W3.alloc (.cells L.toArray 103)).heap.size=_
  rw [World.size_alloc,h4]
 · omega
theorem cfg13 {w:World}{g:Nat}{c:Cf}{s:Sl}{nc nd ns pn:Nat}(h:Row w g (cfgL c s) 43)(h0:c.cores=nc)(h1:c.domains=nd)(h4:c.shared=ns)(h3:c.priv=pn):w.cell? ⟨g,0,none⟩=some (.int .i64 nc)∧w.cell? ⟨g,1,none⟩=some (.int .i64 nd)∧w.cell? ⟨g,2,none⟩=some (.int .i64 c.line)∧w.cell? ⟨g,3,none⟩=some (.int .i64 pn)∧w.cell? ⟨g,4,none⟩=some (.int .i64 ns)∧w.cell? ⟨g,5,none⟩=some (.int .i64 c.near)∧w.cell? ⟨g,6,none⟩=some (.int .i64 c.sets)∧w.cell? ⟨g,7,none⟩=some (.slice s.wa s.wl s.wc)∧w.cell? ⟨g,8,none⟩=some (.int .i64 c.slot)∧w.cell? ⟨g,9,none⟩=some (.slice s.sa s.sl s.sc)∧w.cell? ⟨g,10,none⟩=some (.slice s.ta s.tl s.tc)∧w.cell? ⟨g,11,none⟩=some (.int .i64 c.quantum)∧w.cell? ⟨g,12,none⟩=some (.int .i64 c.flush):=by
 rw [← h0,← h1,← h4,← h3]
 exact ⟨h.cell 0,h.cell 1,h.cell 2,h.cell 3,h.cell 4,h.cell 5,h.cell 6,h.cell 7,h.cell 8,h.cell 9,h.cell 10,h.cell 11,h.cell 12⟩
set_option maxHeartbeats 3200000 in
theorem rNew_any (c:Cf)(s:Sl)(w:World)(hz:chk c=0) :
  Calls Tryz.prog 33 #[cfgV c s] w fun e w'=>∃ L,e = .returned (.pointer (some ⟨RLoc.gr L,0,none⟩))∧RefM w' L ⟨c,s,fun _=>[],fun _=>List.replicate c.priv.toNat 0,List.replicate c.shared.toNat 0,0⟩∧(∀ b,L.own b→w.heap.size≤b∧b<w'.heap.size)∧Below w.heap.size w w':=by
 obtain ⟨i0,hi0,hz0,hz1,hz2⟩:=info_parts Tryz.infoOpsN
 obtain ⟨j0,hj0,hy0,hy1,hy2⟩:=info_parts Tryz.infoInts
 obtain ⟨k0,hk0,hu0,hu1,hu2⟩:=info_parts Tryz.infoInt
 have sb:=shape_bounds (chk_zero hz).1
 have hb0:Below w.heap.size w (w.alloc (.cells (cfgA c s) 43)):=(Below.refl _ _).alloc (Nat.le_refl _) _
 have hR0:Row (w.alloc (.cells (cfgA c s) 43)) w.heap.size (cfgL c s) 43:=heap_alloc_new w _
 obtain ⟨nc,hnc⟩:∃ nc:Nat,c.cores=nc:=⟨c.cores.toNat,by omega⟩
 obtain ⟨nd,hnd⟩:∃ nd:Nat,c.domains=nd:=⟨c.domains.toNat,by omega⟩
 obtain ⟨ns,hns⟩:∃ ns:Nat,c.shared=ns:=⟨c.shared.toNat,by omega⟩
 obtain ⟨pn,hpn⟩:∃ pn:Nat,c.priv=pn:=⟨c.priv.toNat,by omega⟩
 have hc3:nc≤3:=by omega
 have hd4:nd≤4:=by omega
 have hs32:ns≤32:=by omega
 have hp64:pn≤64:=by omega
 obtain ⟨np,hnp⟩:∃ np,nd*nc=np:=⟨_,rfl⟩
 have hmul:(nd:Int)*(nc:Int)=(np:Int):=by rw [← hnp];simp
 have hm12:np≤12:=by have:=Nat.mul_le_mul hd4 hc3;omega
 have HR0:Hid (Row (w.alloc (.cells (cfgA c s) 43)) w.heap.size (cfgL c s) 43):=hR0
 have x0:(w.alloc (.cells (cfgA c s) 43)).cell? ⟨w.heap.size,0,none⟩=some (.int .i64 nc):=by rw [← hnc];exact hR0.cell 0
 have x1:(w.alloc (.cells (cfgA c s) 43)).cell? ⟨w.heap.size,1,none⟩=some (.int .i64 nd):=by rw [← hnd];exact hR0.cell 1
 have x3:(w.alloc (.cells (cfgA c s) 43)).cell? ⟨w.heap.size,3,none⟩=some (.int .i64 pn):=by rw [← hpn];exact hR0.cell 3
 have x4:(w.alloc (.cells (cfgA c s) 43)).cell? ⟨w.heap.size,4,none⟩=some (.int .i64 ns):=by rw [← hns];exact hR0.cell 4
 have HB0:Hid _:=hb0
 clear sb hb0
 have hm1:∀ w':World,(Instr.makeSlice 101 (.int .i64 (np:Int)) (.int .i64 (np:Int))).run Tryz.prog w' = .ok (.slice (some ⟨w'.heap.size,0,none⟩) np np) (w'.alloc (.cells (madeCells #[.slice none 0 0] np) 28)):=fun w'=>by
  have:=run_make (P:=Tryz.prog) w' 101 28 i0 (.slice none 0 0) Tryz.underlying101 hi0 hz0 .i64 .i64 (np:Int) (np:Int) (by omega) (Int.le_refl _) (by rw [hz2];omega) (by omega)
  simp only [Int.toNat_natCast,hz1,Nat.mul_one] at this
  exact this
 have hm2:∀ w':World,(Instr.makeSlice 41 (.int .i64 (nd:Int)) (.int .i64 (nd:Int))).run Tryz.prog w' = .ok (.slice (some ⟨w'.heap.size,0,none⟩) nd nd) (w'.alloc (.cells (madeCells #[.slice none 0 0] nd) 25)):=fun w'=>by
  have:=run_make (P:=Tryz.prog) w' 41 25 j0 (.slice none 0 0) Tryz.underlying41 hj0 hy0 .i64 .i64 (nd:Int) (nd:Int) (by omega) (Int.le_refl _) (by rw [hy2];omega) (by omega)
  simp only [Int.toNat_natCast,hy1,Nat.mul_one] at this
  exact this
 have hm3:∀ (w':World) (n:Nat),n≤64→(Instr.makeSlice 25 (.int .i64 (n:Int)) (.int .i64 (n:Int))).run Tryz.prog w' = .ok (.slice (some ⟨w'.heap.size,0,none⟩) n n) (w'.alloc (.cells (madeCells #[.int .i64 0] n) 3)):=fun w' n hn=>by
  have:=run_make (P:=Tryz.prog) w' 25 3 k0 (.int .i64 0) Tryz.underlying25 hk0 hu0 .i64 .i64 (n:Int) (n:Int) (by omega) (Int.le_refl _) (by rw [hu2];omega) (by omega)
  simp only [Int.toNat_natCast,hu1,Nat.mul_one] at this
  exact this
 have hm4:∀ w':World,(Instr.makeSlice 25 (.int .i64 (ns:Int)) (.int .i64 (ns:Int))).run Tryz.prog w' = .ok (.slice (some ⟨w'.heap.size,0,none⟩) ns ns) (w'.alloc (.cells (madeCells #[.int .i64 0] ns) 3)):=fun w'=>hm3 w' ns (by omega)
 have HM5:Hid (∀ w':World,(Instr.makeSlice 25 (.int .i64 (pn:Int)) (.int .i64 (pn:Int))).run Tryz.prog w' = .ok (.slice (some ⟨w'.heap.size,0,none⟩) pn pn) (w'.alloc (.cells (madeCells #[.int .i64 0] pn) 3))):=fun w'=>hm3 w' pn (by omega)
 have hwm:IntKind.i64.wrap ((nd:Int)*(nc:Int))=(np:Int):=by rw [hmul,IntKind.wrap_i64];omega
 have HMU:Hid _:=hmul
 have hsz0:(w.alloc (.cells (cfgA c s) 43)).heap.size=w.heap.size+1:=by simp
 obtain ⟨W0,hW0⟩:∃ W0,w.alloc (.cells (cfgA c s) 43)=W0:=⟨_,rfl⟩
 rw [hW0] at hR0 HR0 x0 x1 x3 x4 HB0 hsz0
 have HW0:Hid _:=hW0
 have HC:Hid (c.cores=nc∧c.domains=nd∧c.shared=ns∧c.priv=pn):=⟨hnc,hnd,hns,hpn⟩
 have HZ:Hid _:=hz
 clear hmul hnp hW0 hi0 hz0 hz1 hz2 hj0 hy0 hy1 hy2 hk0 hu0 hu1 hu2 hm3 hz hnc hnd hns hpn
 go_enter Tryz.func33,Tryz.ntmps33
 go_wp2_with fail
 rw [HW0.out]
 go_cut [3] (fun u wx=>∃ gp go gc,u = .pointer (some ⟨w.heap.size+4,0,none⟩)∧NSt w wx c s gp np go nd gc ns pn 0)
 case first=>
  have lr0:w.heap.size<W0.heap.size:=by omega
  obtain ⟨_,_,x2,_,_,x5,x6,x7,x8,x9,x10,x11,x12⟩:=cfg13 hR0 HC.out.1 HC.out.2.1 HC.out.2.2.1 HC.out.2.2.2
  go_region_held3 (fun w'=>w'.cell? ⟨w.heap.size,0,none⟩=some (.int .i64 nc)∧w'.cell? ⟨w.heap.size,1,none⟩=some (.int .i64 nd)∧w'.cell? ⟨w.heap.size,2,none⟩=some (.int .i64 c.line)∧w'.cell? ⟨w.heap.size,3,none⟩=some (.int .i64 pn)∧w'.cell? ⟨w.heap.size,4,none⟩=some (.int .i64 ns)∧w'.cell? ⟨w.heap.size,5,none⟩=some (.int .i64 c.near)∧w'.cell? ⟨w.heap.size,6,none⟩=some (.int .i64 c.sets)∧w'.cell? ⟨w.heap.size,7,none⟩=some (.slice s.wa s.wl s.wc)∧w'.cell? ⟨w.heap.size,8,none⟩=some (.int .i64 c.slot)∧w'.cell? ⟨w.heap.size,9,none⟩=some (.slice s.sa s.sl s.sc)∧w'.cell? ⟨w.heap.size,10,none⟩=some (.slice s.ta s.tl s.tc)∧w'.cell? ⟨w.heap.size,11,none⟩=some (.int .i64 c.quantum)∧w'.cell? ⟨w.heap.size,12,none⟩=some (.int .i64 c.flush)) (first | exact cfg13 HR0.out HC.out.1 HC.out.2.1 HC.out.2.2.1 HC.out.2.2.2 | exact cfg13 (Row.alloc HR0.out _) HC.out.1 HC.out.2.1 HC.out.2.2.1 HC.out.2.2.2 | exact cfg13 (Row.alloc (Row.alloc HR0.out _) _) HC.out.1 HC.out.2.1 HC.out.2.2.1 HC.out.2.2.2 | exact cfg13 (Row.alloc (Row.alloc (Row.alloc HR0.out _) _) _) HC.out.1 HC.out.2.1 HC.out.2.2.1 HC.out.2.2.2 | exact cfg13 (Row.alloc (Row.alloc (Row.alloc (Row.alloc HR0.out _) _) _) _) HC.out.1 HC.out.2.1 HC.out.2.2.1 HC.out.2.2.2 | go_keep) (fail)
  all_goals go_wp2_with fail
  all_goals go_meet
  all_goals have hmi:madeCells #[Value.int .i64 0] ns=(List.replicate ns (Value.int .i64 0)).toArray:=made_int ns
  all_goals rw [hmi,made_nil np,made_nil nd]
  all_goals first
   | (refine ⟨w.heap.size+1,w.heap.size+2,w.heap.size+3,by first | rfl | trivial,?_⟩;refine nst_start hsz0 HB0.out HR0.out ?_ ?_ ?_ (by omega) ?_;(first | exact Or.inl ⟨rfl,rfl,rfl⟩ | exact Or.inr (Or.inl ⟨rfl,rfl,rfl⟩) | exact Or.inr (Or.inr ⟨rfl,rfl,rfl⟩));(first | exact Or.inl ⟨rfl,rfl,rfl⟩ | exact Or.inr (Or.inl ⟨rfl,rfl,rfl⟩) | exact Or.inr (Or.inr ⟨rfl,rfl,rfl⟩));(first | exact Or.inl ⟨rfl,rfl,rfl⟩ | exact Or.inr (Or.inl ⟨rfl,rfl,rfl⟩) | exact Or.inr (Or.inr ⟨rfl,rfl,rfl⟩));(obtain ⟨q0,q1,q2,q3⟩:=HC.out;simp only [machL,q0,q1,q2,q3]))
   | (refine ⟨w.heap.size+1,w.heap.size+3,w.heap.size+2,by first | rfl | trivial,?_⟩;refine nst_start hsz0 HB0.out HR0.out ?_ ?_ ?_ (by omega) ?_;(first | exact Or.inl ⟨rfl,rfl,rfl⟩ | exact Or.inr (Or.inl ⟨rfl,rfl,rfl⟩) | exact Or.inr (Or.inr ⟨rfl,rfl,rfl⟩));(first | exact Or.inl ⟨rfl,rfl,rfl⟩ | exact Or.inr (Or.inl ⟨rfl,rfl,rfl⟩) | exact Or.inr (Or.inr ⟨rfl,rfl,rfl⟩));(first | exact Or.inl ⟨rfl,rfl,rfl⟩ | exact Or.inr (Or.inl ⟨rfl,rfl,rfl⟩) | exact Or.inr (Or.inr ⟨rfl,rfl,rfl⟩));(obtain ⟨q0,q1,q2,q3⟩:=HC.out;simp only [machL,q0,q1,q2,q3]))
   | (refine ⟨w.heap.size+2,w.heap.size+1,w.heap.size+3,by first | rfl | trivial,?_⟩;refine nst_start hsz0 HB0.out HR0.out ?_ ?_ ?_ (by omega) ?_;(first | exact Or.inl ⟨rfl,rfl,rfl⟩ | exact Or.inr (Or.inl ⟨rfl,rfl,rfl⟩) | exact Or.inr (Or.inr ⟨rfl,rfl,rfl⟩));(first | exact Or.inl ⟨rfl,rfl,rfl⟩ | exact Or.inr (Or.inl ⟨rfl,rfl,rfl⟩) | exact Or.inr (Or.inr ⟨rfl,rfl,rfl⟩));(first | exact Or.inl ⟨rfl,rfl,rfl⟩ | exact Or.inr (Or.inl ⟨rfl,rfl,rfl⟩) | exact Or.inr (Or.inr ⟨rfl,rfl,rfl⟩));(obtain ⟨q0,q1,q2,q3⟩:=HC.out;simp only [machL,q0,q1,q2,q3]))
   | (refine ⟨w.heap.size+3,w.heap.size+1,w.heap.size+2,by first | rfl | trivial,?_⟩;refine nst_start hsz0 HB0.out HR0.out ?_ ?_ ?_ (by omega) ?_;(first | exact Or.inl ⟨rfl,rfl,rfl⟩ | exact Or.inr (Or.inl ⟨rfl,rfl,rfl⟩) | exact Or.inr (Or.inr ⟨rfl,rfl,rfl⟩));(first | exact Or.inl ⟨rfl,rfl,rfl⟩ | exact Or.inr (Or.inl ⟨rfl,rfl,rfl⟩) | exact Or.inr (Or.inr ⟨rfl,rfl,rfl⟩));(first | exact Or.inl ⟨rfl,rfl,rfl⟩ | exact Or.inr (Or.inl ⟨rfl,rfl,rfl⟩) | exact Or.inr (Or.inr ⟨rfl,rfl,rfl⟩));(obtain ⟨q0,q1,q2,q3⟩:=HC.out;simp only [machL,q0,q1,q2,q3]))
   | (refine ⟨w.heap.size+2,w.heap.size+3,w.heap.size+1,by first | rfl | trivial,?_⟩;refine nst_start hsz0 HB0.out HR0.out ?_ ?_ ?_ (by omega) ?_;(first | exact Or.inl ⟨rfl,rfl,rfl⟩ | exact Or.inr (Or.inl ⟨rfl,rfl,rfl⟩) | exact Or.inr (Or.inr ⟨rfl,rfl,rfl⟩));(first | exact Or.inl ⟨rfl,rfl,rfl⟩ | exact Or.inr (Or.inl ⟨rfl,rfl,rfl⟩) | exact Or.inr (Or.inr ⟨rfl,rfl,rfl⟩));(first | exact Or.inl ⟨rfl,rfl,rfl⟩ | exact Or.inr (Or.inl ⟨rfl,rfl,rfl⟩) | exact Or.inr (Or.inr ⟨rfl,rfl,rfl⟩));(obtain ⟨q0,q1,q2,q3⟩:=HC.out;simp only [machL,q0,q1,q2,q3]))
   | (refine ⟨w.heap.size+3,w.heap.size+2,w.heap.size+1,by first | rfl | trivial,?_⟩;refine nst_start hsz0 HB0.out HR0.out ?_ ?_ ?_ (by omega) ?_;(first | exact Or.inl ⟨rfl,rfl,rfl⟩ | exact Or.inr (Or.inl ⟨rfl,rfl,rfl⟩) | exact Or.inr (Or.inr ⟨rfl,rfl,rfl⟩));(first | exact Or.inl ⟨rfl,rfl,rfl⟩ | exact Or.inr (Or.inl ⟨rfl,rfl,rfl⟩) | exact Or.inr (Or.inr ⟨rfl,rfl,rfl⟩));(first | exact Or.inl ⟨rfl,rfl,rfl⟩ | exact Or.inr (Or.inl ⟨rfl,rfl,rfl⟩) | exact Or.inr (Or.inr ⟨rfl,rfl,rfl⟩));(obtain ⟨q0,q1,q2,q3⟩:=HC.out;simp only [machL,q0,q1,q2,q3]))
 case rest=>
  obtain ⟨gp,go',gc,rfl,N0⟩:=hcut
  have HN0:Hid _:=N0
  clear N0 hR0 HR0 x0 x1 x3 x4 hm1 hm2 hm4
  go_wp2_with fail
  go_loopw [4] (fun u wr=>∃ (D:Nat),D≤nd∧u = .int .i64 D∧NSt w wr c s gp np go' nd gc ns pn D) (fun u _=>nd-(intOf u).toNat)
  case atStart=>exact ⟨0,by omega,rfl,HN0.out⟩
  case round=>
   obtain ⟨D,hD,rfl,N1⟩:=hrel
   have HN1:Hid _:=N1
   have x1:wr.cell? ⟨w.heap.size,1,none⟩=some (.int .i64 nd):=by rw [← HC.out.2.1];exact N1.cfg.cell 1
   have lr:=N1.cfg.lt
   by_cases hlt:D<nd
   ·
    have x3:wr.cell? ⟨w.heap.size,3,none⟩=some (.int .i64 pn):=by rw [← HC.out.2.2.2];exact N1.cfg.cell 3
    have m14:wr.cell? ⟨w.heap.size+4,14,none⟩=some (.slice (some ⟨go',0,none⟩) nd nd):=N1.mac.cell 14
    have co:wr.cell? ⟨go',D,none⟩=some (.slice none 0 0):=by rw [N1.own.cell,List.getElem?_map,List.getElem?_range hlt];simp
    have fo:=N1.own.frozen D
    have lo:=N1.own.lt
    have lm:=N1.mac.lt
    have nm:=N1.more
    rw [World.setCell_alloc_past _ _ _ _ lo] at nm
    have HNM:Hid _:=nm
    clear nm
    have hd0:(0:Int)≤(D:Int):=by omega
    have hd1:(D:Int)<(nd:Int):=by omega
    have hmi:madeCells #[Value.int .i64 0] pn=(List.replicate pn (Value.int .i64 0)).toArray:=made_int pn
    have HMI:Hid _:=hmi
    have hm5:=HM5.out
    have hwrs:=N1.siz
    have HWS:Hid _:=hwrs
    clear N1 hmi hwrs
    go_wp2_with fail
    go_region_with (fail)
    all_goals go_wp2_with fail
    all_goals go_roundw
    all_goals try (case rel=>exact ⟨D+1,by omega,by go_num,by rw [HMI.out];exact HNM.out.drew⟩)
    all_goals try (case measure=>simp [intOf];omega)
   ·
    have eD:D=nd:=by omega
    subst eD
    obtain ⟨q0,q1,q2,q3⟩:=HC.out
    have HRF:Hid _:=NSt.ref (w:=w) (wr:=wr) (c:=c) (s:=s) (gp:=gp) (np:=np) (go:=go') (nd:=D) (gc:=gc) (ns:=ns) (by rw [show c.priv.toNat=pn by omega];exact N1) HZ.out (by rw [q0,q1];exact HMU.out.symm) (by omega) (by omega)
    have HBE:Hid _:=N1.bel
    clear N1 q0 q1 q2 q3
    go_wp2
    go_ret
    exact ⟨_,rfl,HRF.out.1,HRF.out.2,HBE.out⟩
end Go.Proofs.YtehheaedbnfidaaGreat
