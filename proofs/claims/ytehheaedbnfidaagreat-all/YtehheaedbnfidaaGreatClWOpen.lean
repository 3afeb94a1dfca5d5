import Derived.Test.YtehheaedbnfidaaGreatClWOwner2
import Derived.Test.YtehheaedbnfidaaGreatClRefS6
set_option maxRecDepth 100000
namespace Go.Proofs.YtehheaedbnfidaaGreat
open Go.ChangeShapes Go.WideShapes Go.ChangeAt Go.RowKit Go.Deep
theorem Tryz.cellsOp:Tryz.prog.cellsOf 36=5:=by kernel_rfl
theorem Tryz.bytesOp:Tryz.prog.bytesOf 36=40:=by kernel_rfl
section
variable {H:Type} {enc:TypeId × Value→H} {W:World}
theorem read_op {n:Nat}{cs:List Value}{y:DataW H × List MemPlace}(h:DataW.trod enc Tryz.prog W 0 (fun _=>true) true n 36 cs=some y) :
  ∃ o:St,cs=[.int .i64 o.k,.int .i64 o.a,.int .i64 o.b,.int .i64 o.c,.int .i64 o.d]∧StR o:=by
 obtain ⟨xs,m,_,hy,hlen,hxl,hf⟩:=DataW.trod_struct Tryz.underlying36 h
 rw [Tryz.cellsOp] at hlen
 have hxl':xs.length=5:=hxl
 match cs,hlen,xs,hxl' with
 | [c0,c1,c2,c3,c4],_,[y0,y1,y2,y3,y4],_=>
  have t0:=hf 0 _ rfl
  have t1:=hf 1 _ rfl
  have t2:=hf 2 _ rfl
  have t3:=hf 3 _ rfl
  have t4:=hf 4 _ rfl
  simp only [List.getElem?_cons_zero,List.getElem?_cons_succ] at t0 t1 t2 t3 t4
  obtain ⟨x0,rfl,b0⟩:=read_int t0
  obtain ⟨x1,rfl,b1⟩:=read_int t1
  obtain ⟨x2,rfl,b2⟩:=read_int t2
  obtain ⟨x3,rfl,b3⟩:=read_int t3
  obtain ⟨x4,rfl,b4⟩:=read_int t4
  exact ⟨⟨x0,x1,x2,x3,x4⟩,rfl,⟨b0.1,b0.2,b1.1,b1.2⟩⟩
theorem add_add' (b off i j:Nat):(Addr.add ⟨b,off,none⟩ i).add j=⟨b,off+i+j,none⟩:=by
 rw [add_plain',add_plain']
theorem read_cs {n:Nat}{v:Value}{y:DataW H × List MemPlace}(h:DataW.trod enc Tryz.prog W 0 (fun _=>true) true n 22 [v]=some y)(hz:Sized Tryz.prog 22 y.1) :
  ∃ ca cl cc cfs,v = .slice ca cl cc∧CsAt W ca cl cc cfs:=by
 rcases open_slice Tryz.underlying22 h with ⟨hcs,hx⟩|⟨a,len,cap,m,n',D,Pl,hcs,_,hl,hm,hmm,hx,hV⟩
 ·
  simp only [List.cons.injEq,and_true] at hcs
  subst hcs
  exact ⟨none,0,0,fun _=>cf0,rfl,⟨Nat.le_refl _,by omega,fun i hi=>absurd hi (Nat.not_lt_zero _)⟩⟩
 ·
  simp only [List.cons.injEq,and_true] at hcs
  subst hcs
  simp only [if_true] at hmm
  subst hx
  obtain ⟨hs,hse⟩:=Sized.slice Tryz.underlying22 hz
  rw [Tryz.bytesCfg] at hs
  simp only [List.length_map,List.length_range,reachBytes] at hs
  rw [Tryz.cellsCfg] at hV
  have each:∀ i,i<len→∃ x:Cf × Sl,W.cells? 0 (a.add (i*13)) 13=some (cfgL x.1 x.2)∧CfgAt W x.1 x.2∧CfR x.1:=by
   intro i hi
   obtain ⟨cs',hc,ht⟩:=hV i (by omega)
   obtain ⟨c,s,h1,h2,h3⟩:=read_cfg ht (hse (D i) (List.mem_map.2 ⟨i,List.mem_range.2 hi,rfl⟩))
   exact ⟨(c,s),by rw [hc,h1],h2,h3⟩
  have hi0:Inhabited (Cf × Sl):=⟨(cf0,sl0)⟩
  obtain ⟨F,hF⟩:=choose_lt (α:=Cf × Sl) (p:=fun i x=>W.cells? 0 (a.add (i*13)) 13=some (cfgL x.1 x.2)∧CfgAt W x.1 x.2∧CfR x.1) each
  refine ⟨some a,len,cap,fun i=>(F i).1,rfl,⟨hl,by omega,fun i hi=>?_⟩⟩
  obtain ⟨e1,e2,e3⟩:=hF i hi
  obtain ⟨_,_,hcell⟩:=World.cells?_some e1
  obtain ⟨_,_,hcell0⟩:=World.cells?_some (hF 0 (by omega)).1
  obtain ⟨b,off,spot⟩:=a
  have hspot:spot=none:=by
   have:=hcell0 0 (by omega)
   simpa [Addr.add] using World.cell?_spot (v:=.int .i64 (F 0).1.cores) this
  subst hspot
  refine ⟨b,off,(F i).2,rfl,fun j hj=>?_,e2,e3⟩
  have:=hcell j hj
  rw [add_add'] at this
  rw [this]
  simp
theorem read_sc {n:Nat}{v:Value}{y:DataW H × List MemPlace}(h:DataW.trod enc Tryz.prog W 0 (fun _=>true) true n 23 [v]=some y)(hz:Sized Tryz.prog 23 y.1) :
  ∃ sa sl sc sts,v = .slice sa sl sc∧ScAt W sa sl sc sts:=by
 rcases open_slice Tryz.underlying23 h with ⟨hcs,hx⟩|⟨a,len,cap,m,n',D,Pl,hcs,_,hl,hm,hmm,hx,hV⟩
 ·
  simp only [List.cons.injEq,and_true] at hcs
  subst hcs
  exact ⟨none,0,0,fun _=>⟨0,0,0,0,0⟩,rfl,⟨Nat.le_refl _,by omega,fun i hi=>absurd hi (Nat.not_lt_zero _)⟩⟩
 ·
  simp only [List.cons.injEq,and_true] at hcs
  subst hcs
  simp only [if_true] at hmm
  subst hx
  obtain ⟨hs,hse⟩:=Sized.slice Tryz.underlying23 hz
  rw [Tryz.bytesOp] at hs
  simp only [List.length_map,List.length_range,reachBytes] at hs
  rw [Tryz.cellsOp] at hV
  have each:∀ i,i<len→∃ x:St,W.cells? 0 (a.add (i*5)) 5=some [.int .i64 x.k,.int .i64 x.a,.int .i64 x.b,.int .i64 x.c,.int .i64 x.d]∧StR x:=by
   intro i hi
   obtain ⟨cs',hc,ht⟩:=hV i (by omega)
   obtain ⟨o,h1,h2⟩:=read_op ht
   exact ⟨o,by rw [hc,h1],h2⟩
  have hi0:Inhabited St:=⟨⟨0,0,0,0,0⟩⟩
  obtain ⟨F,hF⟩:=choose_lt (α:=St) (p:=fun i x=>W.cells? 0 (a.add (i*5)) 5=some [.int .i64 x.k,.int .i64 x.a,.int .i64 x.b,.int .i64 x.c,.int .i64 x.d]∧StR x) each
  refine ⟨some a,len,cap,F,rfl,⟨hl,by omega,fun i hi=>?_⟩⟩
  obtain ⟨e1,e2⟩:=hF i hi
  obtain ⟨_,_,hcell⟩:=World.cells?_some e1
  obtain ⟨_,_,hcell0⟩:=World.cells?_some (hF 0 (by omega)).1
  obtain ⟨b,off,spot⟩:=a
  have hspot:spot=none:=by
   have:=hcell0 0 (by omega)
   simpa [Addr.add] using World.cell?_spot (v:=.int .i64 (F 0).k) this
  subst hspot
  refine ⟨b,off,rfl,fun j hj=>?_,e2⟩
  have:=hcell j hj
  rw [add_add'] at this
  rw [this]
  simp
end
end Go.Proofs.YtehheaedbnfidaaGreat
namespace Go.Proofs.YtehheaedbnfidaaGreat
open Go.RowKit
structure OpsAt (w:World)(sa:Option Addr)(len cap:Nat)(os:List OpT):Prop where
 hlen:os.length=len
 hle:len≤cap
 hmax:cap≤maxLen
 hat:∀ i,i<len→∃ b off,sa=some ⟨b,off,none⟩∧w.cell? ⟨b,off+i*3,none⟩=some (.int .i64 (os.getD i opZ).1)∧w.cell? ⟨b,off+i*3+1,none⟩=some (.int .i64 (os.getD i opZ).2.1)∧w.cell? ⟨b,off+i*3+2,none⟩=some (.int .i64 (os.getD i opZ).2.2)
theorem OpsAt.below {w w':World}{sa:Option Addr}{len cap n:Nat}{os:List OpT}(h:OpsAt w sa len cap os)(hb:Below n w w')(hn:w.heap.size≤n):OpsAt w' sa len cap os:=
 ⟨h.hlen,h.hle,h.hmax,fun i hi=>by
  obtain ⟨b,off,h1,h2,h3,h4⟩:=h.hat i hi
  have hl:b<n:=Nat.lt_of_lt_of_le (cell_lt h2) hn
  exact ⟨b,off,h1,(hb.cell (p:=⟨b,off+i*3,none⟩) hl).trans h2,(hb.cell (p:=⟨b,off+i*3+1,none⟩) hl).trans h3,(hb.cell (p:=⟨b,off+i*3+2,none⟩) hl).trans h4⟩⟩
def kindB (o:OpT):Bool:=o.1==0 || o.1==1
def opsOk (os:List OpT):Bool:=decide (os.length≤64)&&os.all kindB
theorem all_take {os:List OpT}{i:Nat}(hi:i<os.length):(os.take (i+1)).all kindB=((os.take i).all kindB&&kindB (os.getD i opZ)):=by
 rw [List.take_add_one,List.all_append,List.getElem?_eq_getElem hi,List.getD_eq_getElem?_getD,List.getElem?_eq_getElem hi]
 simp
end Go.Proofs.YtehheaedbnfidaaGreat
namespace Go.Proofs.YtehheaedbnfidaaGreat
theorem serve_store {M:MDat}{d k:Nat}{S:So}{q:List Int}{t oad ovl x:Int}(hq:S.queue=(k:Int)::q)(ho:opAt M d k S=(1,oad,ovl))(hx:oad / M.c.line=x)(hw:0≤whereF x S.log) :
  So.serve M d S t=((({ S with queue:=q }:So).told ⟨t,3,k,x,whereF x S.log,true,false,0,0⟩).told ⟨t,4,k,x,whereF x S.log,false,false,oad,ovl⟩).done k t ovl 0:=by
 unfold So.serve
 rw [hq]
 simp only [Int.toNat_natCast,ho,hx]
 rw [if_pos hw,if_pos trivial]
theorem serve_load {M:MDat}{d k:Nat}{S:So}{q:List Int}{t okd oad ovl x:Int}(hq:S.queue=(k:Int)::q)(ho:opAt M d k S=(okd,oad,ovl))(hk:okd≠1)(hx:oad / M.c.line=x)(hw:0≤whereF x S.log) :
  So.serve M d S t=(({ S with queue:=q }:So).told ⟨t,3,k,x,whereF x S.log,false,loneF M.c k x t S.log M.c.cores.toNat 0&&decide (oad<M.c.priv),0,0⟩).done k t (wordF oad (firstF0 M d oad) (⟨t,3,k,x,whereF x S.log,false,loneF M.c k x t S.log M.c.cores.toNat 0&&decide (oad<M.c.priv),0,0⟩::S.log)) 0:=by
 unfold So.serve
 rw [hq]
 simp only [Int.toNat_natCast,ho,hx]
 rw [if_pos hw,if_neg hk]
 rfl
theorem serve_gone {M:MDat}{d k:Nat}{S:So}{q:List Int}{t okd oad ovl x way y:Int}(hq:S.queue=(k:Int)::q)(ho:opAt M d k S=(okd,oad,ovl))(hx:oad / M.c.line=x)(hw:¬0≤whereF x S.log)
  (hc:chosenF M.c (M.c.ways.count (d:Int)) (x%M.c.sets) S.log=way) (hy:liesF M.c (x%M.c.sets) way S.log=y) (h0:0≤y) (hm:markedF y S.log=true) :
  So.serve M d S t=S.told ⟨t,2,0,y,way,false,false,0,0⟩:=by
 unfold So.serve
 rw [hq]
 simp only [Int.toNat_natCast,ho,hx,hc,hy]
 rw [if_neg hw,if_pos h0,if_pos hm]
theorem serve_both {M:MDat}{d k:Nat}{S:So}{q:List Int}{t okd oad ovl x way y:Int}(hq:S.queue=(k:Int)::q)(ho:opAt M d k S=(okd,oad,ovl))(hx:oad / M.c.line=x)(hw:¬0≤whereF x S.log)
  (hc:chosenF M.c (M.c.ways.count (d:Int)) (x%M.c.sets) S.log=way) (hy:liesF M.c (x%M.c.sets) way S.log=y) (h0:0≤y) (hm:markedF y S.log=false) :
  So.serve M d S t=(S.told ⟨t,2,0,y,way,false,false,0,0⟩).told ⟨t,1,0,x,way,false,false,0,0⟩:=by
 unfold So.serve
 rw [hq]
 simp only [Int.toNat_natCast,ho,hx,hc,hy]
 rw [if_neg hw,if_pos h0,if_neg (by rw [hm];simp)]
theorem serve_fill {M:MDat}{d k:Nat}{S:So}{q:List Int}{t okd oad ovl x way y:Int}(hq:S.queue=(k:Int)::q)(ho:opAt M d k S=(okd,oad,ovl))(hx:oad / M.c.line=x)(hw:¬0≤whereF x S.log)
  (hc:chosenF M.c (M.c.ways.count (d:Int)) (x%M.c.sets) S.log=way) (hy:liesF M.c (x%M.c.sets) way S.log=y) (h0:¬0≤y) :
  So.serve M d S t=S.told ⟨t,1,0,x,way,false,false,0,0⟩:=by
 unfold So.serve
 rw [hq]
 simp only [Int.toNat_natCast,ho,hx,hc,hy]
 rw [if_neg hw,if_neg h0]
theorem ways_small {c:Cf}(hc:chk c=0){d:Nat}(hd:(d:Int)<c.domains):smallB (c.ways.count (d:Int):Nat)=true:=by
 have h:=(chk_zero hc).2.1
 simp only [waysB,Bool.and_eq_true] at h
 exact allUpto_true h.2 d (by omega)
end Go.Proofs.YtehheaedbnfidaaGreat
namespace Go.Proofs.YtehheaedbnfidaaGreat
open Go.RowKit
attribute [local go_sem ↓] Go.wp_at_zero Go.wp_at_succ
set_option maxHeartbeats 3200000 in
theorem step_made (W:World)(gw base:Nat)(o:Own)(m e p b:Value)(ts:List Int)(os:List (Int × Int × Int))(st:St)(w:World)(h:WSt w gw base o m e p b ts os)(hr:StR st)(cfs:Nat→Cf)(hcs:CsAt W o.ca o.cl o.cc cfs)(hbW:Below W.heap.size W w)
  (hk:st.k=11) (hpos:0<o.cl) (R:World→Prop)
  (hmade:∀ (c:Cf) (s:Sl) (w2:World),CfgAt W c s→CfR c→Below w.heap.size w w2→Calls Tryz.prog 14 #[.pointer (some ⟨gw,0,none⟩),cfgV c s] w2 fun x w'=>x = .returned (.bool true)∧R w') :
  Calls Tryz.prog 9 #[.pointer (some ⟨gw,0,none⟩),opV st] w fun x w'=>x = .returned (.bool true)∧R w':=by
 have HP:Hid _:=hmade
 clear hmade
 obtain ⟨k,a,bb,cc,dd⟩:=st
 obtain ⟨ca,cl,ccap,ta,tl,tc,oa,ol,oc⟩:=o
 simp only at hk
 subst hk
 have bW:Below w.heap.size w (w.alloc (.cells (opA ⟨11,a,bb,cc,dd⟩) 36)):=(Below.refl _ _).alloc (Nat.le_refl _) _
 have rO:Row (w.alloc (.cells (opA ⟨11,a,bb,cc,dd⟩) 36)) w.heap.size [.int .i64 11,.int .i64 a,.int .i64 bb,.int .i64 cc,.int .i64 dd] 36:=heap_alloc_new w _
 have hW:=h.below bW rfl
 go_enter Tryz.func9,Tryz.ntmps9
 go_wp2_with fail
 refine (owner_other gw ⟨11,a,bb,cc,dd⟩ _ (by simp only [];omega)).mono ?_
 rintro x w1 ⟨rfl,b1⟩
 have h1:=hW.below b1 rfl
 have rO1:=rO.below b1 rO.lt
 have bW1:=below_step bW b1 rfl
 have bWW:=hbW.trans (bW1.mono hbW.size)
 have q1:∀ i,w1.cell? ⟨w.heap.size,i,none⟩=(opA ⟨11,a,bb,cc,dd⟩)[i]? := fun i=>by rw [rO1.cell];simp
 have c0:w1.cell? ⟨gw,0,none⟩=some (.slice ca cl ccap):=by rw [h1.row.cell];rfl
 have ncl:((cl:Int)==0)=false:=by simp;exact Nat.pos_iff_ne_zero.1 hpos
 clear b1 bW hW rO
 have hpos':0<cl:=hpos
 have hcc:=hcs.hmax
 have hcl:=hcs.hle
 have pb:=pickZ_bd a cl (by omega)
 obtain ⟨j,hj⟩:=Int.eq_ofNat_of_zero_le pb.1
 have hjl:j<cl:=by have:=pb.2;omega
 have hpick:∀ w:World,Calls Tryz.prog 13 #[.int .i64 a,.int .i64 cl] w fun e w'=>e = .returned (.int .i64 (j:Int))∧w'=w:=fun w=>by
  have:=pick_any a cl w hr.a1 hr.a2 (by omega) (by omega)
  rw [hj] at this
  exact this
 have HK:Hid _:=hpick
 obtain ⟨cb,coff,s,hca,hcells0,hcfg,hcfr⟩:=hcs.hat j hjl
 subst hca
 have hcb:cb<W.heap.size:=by
  have e:=hcells0 0 (by omega)
  exact cell_lt (w:=W) (a:=⟨cb,coff+j*13+0,none⟩) (v:=.int .i64 (cfs j).cores) (by rw [e];rfl)
 have hcells:∀ i,i<13→w1.cell? ⟨cb,coff+j*13+i,none⟩=(cfgA (cfs j) s)[i]? := fun i hi=>(bWW.cell (p:=⟨cb,coff+j*13+i,none⟩) hcb).trans (hcells0 i hi)
 have hcb1:cb<w1.heap.size:=Nat.lt_of_lt_of_le hcb bWW.size
 have e0:=hcells 0 (by omega)
 have e1:=hcells 1 (by omega)
 have e2:=hcells 2 (by omega)
 have e3:=hcells 3 (by omega)
 have e4:=hcells 4 (by omega)
 have e5:=hcells 5 (by omega)
 have e6:=hcells 6 (by omega)
 have e7:=hcells 7 (by omega)
 have e8:=hcells 8 (by omega)
 have e9:=hcells 9 (by omega)
 have e10:=hcells 10 (by omega)
 have e11:=hcells 11 (by omega)
 have e12:=hcells 12 (by omega)
 simp only [cfgA,Nat.add_zero] at e0 e1 e2 e3 e4 e5 e6 e7 e8 e9 e10 e11 e12
 have c1:w1.cell? ⟨w.heap.size,1,none⟩=some (.int .i64 a):=q1 1
 have hj0:(0:Int)≤(j:Int):=by omega
 have hj1:(j:Int)<(cl:Int):=by omega
 have nw:=h1.row.lt
 clear hpick hj pb hcells hcells0 hcb
 go_wp2_with fail
 go_region_held3 (fun w'=>w'.cell? ⟨gw,0,none⟩=some (.slice (some ⟨cb,coff,none⟩) cl ccap)∧w'.cell? ⟨w.heap.size,1,none⟩=some (.int .i64 a)∧w'.cell? ⟨cb,coff+j*13,none⟩=some (.int .i64 (cfs j).cores)∧w'.cell? ⟨cb,coff+j*13+1,none⟩=some (.int .i64 (cfs j).domains)∧w'.cell? ⟨cb,coff+j*13+2,none⟩=some (.int .i64 (cfs j).line)∧w'.cell? ⟨cb,coff+j*13+3,none⟩=some (.int .i64 (cfs j).priv)∧w'.cell? ⟨cb,coff+j*13+4,none⟩=some (.int .i64 (cfs j).shared)∧w'.cell? ⟨cb,coff+j*13+5,none⟩=some (.int .i64 (cfs j).near)∧w'.cell? ⟨cb,coff+j*13+6,none⟩=some (.int .i64 (cfs j).sets)∧w'.cell? ⟨cb,coff+j*13+7,none⟩=some (.slice s.wa s.wl s.wc)∧w'.cell? ⟨cb,coff+j*13+8,none⟩=some (.int .i64 (cfs j).slot)∧w'.cell? ⟨cb,coff+j*13+9,none⟩=some (.slice s.sa s.sl s.sc)∧w'.cell? ⟨cb,coff+j*13+10,none⟩=some (.slice s.ta s.tl s.tc)∧w'.cell? ⟨cb,coff+j*13+11,none⟩=some (.int .i64 (cfs j).quantum)∧w'.cell? ⟨cb,coff+j*13+12,none⟩=some (.int .i64 (cfs j).flush)) (go_keep) (first | (go_at_call 13;refine (HK.out _).mono ?_;rintro e w' ⟨rfl,rfl⟩))
 all_goals
  have bX:Below w1.heap.size w1 (w1.alloc (.cells (cfgA (cfs j) s) 43)).drew:=((Below.refl _ _).alloc (Nat.le_refl _) _).drew
  have rC:Row (w1.alloc (.cells (cfgA (cfs j) s) 43)).drew w1.heap.size (cfgL (cfs j) s) 43:=heap_alloc_new w1 _
  have rO2:=rO1.below bX rO1.lt
  have bW2:=below_step bW1 bX rfl
  clear e0 e1 e2 e3 e4 e5 e6 e7 e8 e9 e10 e11 e12 c0 c1 q1 bX
  generalize (w1.alloc (.cells (cfgA (cfs j) s) 43)).drew=w2 at *
  have q1:=row_q rC
  have q2:=row_q rO2
  go_wp2_with fail
  refine (HP.out (cfs j) s w2 hcfg hcfr bW2).mono ?_
  rintro x w3 ⟨rfl,r3⟩
  have HR3:Hid _:=r3
  clear r3
  go_wp2
  go_ret
  exact ⟨rfl,HR3.out⟩
set_option maxHeartbeats 1600000 in
theorem step_noms (gw base:Nat)(o:Own)(mc:Nat)(ma:Option Addr)(e p b:Value)(ts:List Int)(os:List (Int × Int × Int))(st:St)(w:World)(h:WSt w gw base o (.slice ma 0 mc) e p b ts os)(hk1:12≤st.k)(hk2:st.k≤20) :
  Calls Tryz.prog 9 #[.pointer (some ⟨gw,0,none⟩),opV st] w fun x w'=>x = .returned (.bool true)∧Below w.heap.size w w':=by
 obtain ⟨k,a,bb,cc,dd⟩:=st
 simp only at hk1 hk2
 have bW:Below w.heap.size w (w.alloc (.cells (opA ⟨k,a,bb,cc,dd⟩) 36)):=(Below.refl _ _).alloc (Nat.le_refl _) _
 have rO:Row (w.alloc (.cells (opA ⟨k,a,bb,cc,dd⟩) 36)) w.heap.size [.int .i64 k,.int .i64 a,.int .i64 bb,.int .i64 cc,.int .i64 dd] 36:=heap_alloc_new w _
 have hW:=h.below bW rfl
 have n10:(k==10)=false:=by simp;omega
 have n5:decide (k<5)=false:=by simp;omega
 have n20:decide (20<k)=false:=by simp;omega
 have n11:decide (k≤11)=false:=by simp;omega
 go_enter Tryz.func9,Tryz.ntmps9
 go_wp2_with fail
 refine (owner_other gw ⟨k,a,bb,cc,dd⟩ _ (by simp only [];omega)).mono ?_
 rintro x w1 ⟨rfl,b1⟩
 have h1:=hW.below b1 rfl
 have q1:=row_q (rO.below b1 rO.lt)
 have bW1:=below_step bW b1 rfl
 have c3:w1.cell? ⟨gw,3,none⟩=some (.slice ma 0 mc):=by rw [h1.row.cell];rfl
 have BW:Hid _:=bW1
 clear b1 bW1 bW hW rO
 go_wp2
 go_ret
 exact ⟨rfl,BW.out⟩
set_option maxHeartbeats 3200000 in
theorem step_given (gw base:Nat)(o:Own)(n mc g:Nat)(e p b:Value)(ts:List Int)(os:List (Int × Int × Int))(st:St)(w:World)(h:WSt w gw base o (.slice (some ⟨g,0,none⟩) n mc) e p b ts os)(hr:StR st)(hk1:12≤st.k)(hk2:st.k≤16)(hpos:0<n)(hnm:n≤mc)(hmm:mc≤maxLen)(hg:g<w.heap.size)
  (px pl:Nat→Nat) (hat:∀ j,j<n→w.cell? ⟨g,j*2,none⟩=some (.pointer (some ⟨px j,0,none⟩))∧w.cell? ⟨g,j*2+1,none⟩=some (.pointer (some ⟨pl j,0,none⟩))) (R:World→Prop)
  (hgiven:∀ (j:Nat) (w2:World),j<n→Below w.heap.size w w2→Calls Tryz.prog 21 #[.pointer (some ⟨gw,0,none⟩),.agg #[.pointer (some ⟨px j,0,none⟩),.pointer (some ⟨pl j,0,none⟩)],opV st] w2 fun x w'=>x = .returned (.bool true)∧R w') :
  Calls Tryz.prog 9 #[.pointer (some ⟨gw,0,none⟩),opV st] w fun x w'=>x = .returned (.bool true)∧R w':=by
 have HP:Hid _:=hgiven
 clear hgiven
 obtain ⟨k,a,bb,cc,dd⟩:=st
 simp only at hk1 hk2
 have bW:Below w.heap.size w (w.alloc (.cells (opA ⟨k,a,bb,cc,dd⟩) 36)):=(Below.refl _ _).alloc (Nat.le_refl _) _
 have rO:Row (w.alloc (.cells (opA ⟨k,a,bb,cc,dd⟩) 36)) w.heap.size [.int .i64 k,.int .i64 a,.int .i64 bb,.int .i64 cc,.int .i64 dd] 36:=heap_alloc_new w _
 have hW:=h.below bW rfl
 have n10:(k==10)=false:=by simp;omega
 have n5:decide (k<5)=false:=by simp;omega
 have n20:decide (20<k)=false:=by simp;omega
 have n11:decide (k≤11)=false:=by simp;omega
 have n17:(k==17)=false:=by simp;omega
 have n18:(k==18)=false:=by simp;omega
 have n19:(k==19)=false:=by simp;omega
 have n20':(k==20)=false:=by simp;omega
 unfold maxLen at hmm
 go_enter Tryz.func9,Tryz.ntmps9
 go_wp2_with fail
 refine (owner_other gw ⟨k,a,bb,cc,dd⟩ _ (by simp only [];omega)).mono ?_
 rintro x w1 ⟨rfl,b1⟩
 have h1:=hW.below b1 rfl
 have rO1:=rO.below b1 rO.lt
 have bW1:=below_step bW b1 rfl
 have q1:∀ i,w1.cell? ⟨w.heap.size,i,none⟩=(opA ⟨k,a,bb,cc,dd⟩)[i]? := fun i=>by rw [rO1.cell];simp
 have c3:w1.cell? ⟨gw,3,none⟩=some (.slice (some ⟨g,0,none⟩) n mc):=by rw [h1.row.cell];rfl
 have ncl:((n:Int)==0)=false:=by simp;exact Nat.pos_iff_ne_zero.1 hpos
 clear b1 bW hW rO
 have pb:=pickZ_bd a n (by omega)
 obtain ⟨j,hj⟩:=Int.eq_ofNat_of_zero_le pb.1
 have hjl:j<n:=by have:=pb.2;omega
 have hpick:∀ w:World,Calls Tryz.prog 13 #[.int .i64 a,.int .i64 n] w fun e w'=>e = .returned (.int .i64 (j:Int))∧w'=w:=fun w=>by
  have:=pick_any a n w hr.a1 hr.a2 (by omega) (by omega)
  rw [hj] at this
  exact this
 have HK:Hid _:=hpick
 obtain ⟨e0',e1'⟩:=hat j hjl
 have e0:w1.cell? ⟨g,j*2,none⟩=some (.pointer (some ⟨px j,0,none⟩)):=(bW1.cell (p:=⟨g,j*2,none⟩) hg).trans e0'
 have e1:w1.cell? ⟨g,j*2+1,none⟩=some (.pointer (some ⟨pl j,0,none⟩)):=(bW1.cell (p:=⟨g,j*2+1,none⟩) hg).trans e1'
 have c1:w1.cell? ⟨w.heap.size,1,none⟩=some (.int .i64 a):=q1 1
 have hj0:(0:Int)≤(j:Int):=by omega
 have hj1:(j:Int)<(n:Int):=by omega
 have nw:=h1.row.lt
 have ng:g<w1.heap.size:=Nat.lt_of_lt_of_le hg bW1.size
 have HPJ:=HP.out j
 have HPJ':Hid _:=HPJ
 generalize px j=xj at *
 generalize pl j=lj at *
 clear hpick hj pb e0' e1' hat HPJ
 go_wp2_with fail
 go_region_held3 (fun w'=>w'.cell? ⟨gw,3,none⟩=some (.slice (some ⟨g,0,none⟩) n mc)∧w'.cell? ⟨w.heap.size,1,none⟩=some (.int .i64 a)∧w'.cell? ⟨g,j*2,none⟩=some (.pointer (some ⟨xj,0,none⟩))∧w'.cell? ⟨g,j*2+1,none⟩=some (.pointer (some ⟨lj,0,none⟩))) (go_keep) (first | (go_at_call 13;refine (HK.out _).mono ?_;rintro e w' ⟨rfl,rfl⟩))
 all_goals
  have bX:Below w1.heap.size w1 (w1.alloc (.cells #[.pointer (some ⟨xj,0,none⟩),.pointer (some ⟨lj,0,none⟩)] 50)).drew:=((Below.refl _ _).alloc (Nat.le_refl _) _).drew
  have rP:Row (w1.alloc (.cells #[.pointer (some ⟨xj,0,none⟩),.pointer (some ⟨lj,0,none⟩)] 50)).drew w1.heap.size [.pointer (some ⟨xj,0,none⟩),.pointer (some ⟨lj,0,none⟩)] 50:=heap_alloc_new w1 _
  have rO2:=rO1.below bX rO1.lt
  have bW2:=below_step bW1 bX rfl
  clear e0 e1 c1 c3 q1 bX
  generalize (w1.alloc (.cells #[.pointer (some ⟨xj,0,none⟩),.pointer (some ⟨lj,0,none⟩)] 50)).drew=w2 at *
  have q1:=row_q rP
  have q2:=row_q rO2
  go_wp2_with fail
  refine (HPJ'.out w2 hjl bW2).mono ?_
  rintro x w3 ⟨rfl,r3⟩
  have HR3:Hid _:=r3
  clear r3
  go_wp2
  go_ret
  exact ⟨rfl,HR3.out⟩
end Go.Proofs.YtehheaedbnfidaaGreat
namespace Go.Proofs.YtehheaedbnfidaaGreat
open Go.RowKit
attribute [local go_sem ↓] Go.wp_at_zero Go.wp_at_succ
set_option maxHeartbeats 3200000 in
theorem step_traced (gw base:Nat)(o:Own)(n mc g:Nat)(e p b:Value)(ts:List Int)(os:List (Int × Int × Int))(st:St)(w:World)(h:WSt w gw base o (.slice (some ⟨g,0,none⟩) n mc) e p b ts os)(hr:StR st)(hk:st.k=17)(hpos:0<n)(hnm:n≤mc)(hmm:mc≤maxLen)(hg:g<w.heap.size)
  (px pl:Nat→Nat) (hat:∀ j,j<n→w.cell? ⟨g,j*2,none⟩=some (.pointer (some ⟨px j,0,none⟩))∧w.cell? ⟨g,j*2+1,none⟩=some (.pointer (some ⟨pl j,0,none⟩))) (R:World→Prop)
  (hgiven:∀ (j:Nat) (w2:World),j<n→Below w.heap.size w w2→Calls Tryz.prog 16 #[.pointer (some ⟨gw,0,none⟩),.agg #[.pointer (some ⟨px j,0,none⟩),.pointer (some ⟨pl j,0,none⟩)],.int .i64 st.b] w2 fun x w'=>x = .returned (.bool true)∧R w') :
  Calls Tryz.prog 9 #[.pointer (some ⟨gw,0,none⟩),opV st] w fun x w'=>x = .returned (.bool true)∧R w':=by
 have HP:Hid _:=hgiven
 clear hgiven
 obtain ⟨k,a,bb,cc,dd⟩:=st
 simp only at hk
 subst hk
 have bW:Below w.heap.size w (w.alloc (.cells (opA ⟨17,a,bb,cc,dd⟩) 36)):=(Below.refl _ _).alloc (Nat.le_refl _) _
 have rO:Row (w.alloc (.cells (opA ⟨17,a,bb,cc,dd⟩) 36)) w.heap.size [.int .i64 17,.int .i64 a,.int .i64 bb,.int .i64 cc,.int .i64 dd] 36:=heap_alloc_new w _
 have hW:=h.below bW rfl
 unfold maxLen at hmm
 go_enter Tryz.func9,Tryz.ntmps9
 go_wp2_with fail
 refine (owner_other gw ⟨17,a,bb,cc,dd⟩ _ (by simp only [];omega)).mono ?_
 rintro x w1 ⟨rfl,b1⟩
 have h1:=hW.below b1 rfl
 have rO1:=rO.below b1 rO.lt
 have bW1:=below_step bW b1 rfl
 have q1:∀ i,w1.cell? ⟨w.heap.size,i,none⟩=(opA ⟨17,a,bb,cc,dd⟩)[i]? := fun i=>by rw [rO1.cell];simp
 have c3:w1.cell? ⟨gw,3,none⟩=some (.slice (some ⟨g,0,none⟩) n mc):=by rw [h1.row.cell];rfl
 have ncl:((n:Int)==0)=false:=by simp;exact Nat.pos_iff_ne_zero.1 hpos
 clear b1 bW hW rO
 have pb:=pickZ_bd a n (by omega)
 obtain ⟨j,hj⟩:=Int.eq_ofNat_of_zero_le pb.1
 have hjl:j<n:=by have:=pb.2;omega
 have hpick:∀ w:World,Calls Tryz.prog 13 #[.int .i64 a,.int .i64 n] w fun e w'=>e = .returned (.int .i64 (j:Int))∧w'=w:=fun w=>by
  have:=pick_any a n w hr.a1 hr.a2 (by omega) (by omega)
  rw [hj] at this
  exact this
 have HK:Hid _:=hpick
 obtain ⟨e0',e1'⟩:=hat j hjl
 have e0:w1.cell? ⟨g,j*2,none⟩=some (.pointer (some ⟨px j,0,none⟩)):=(bW1.cell (p:=⟨g,j*2,none⟩) hg).trans e0'
 have e1:w1.cell? ⟨g,j*2+1,none⟩=some (.pointer (some ⟨pl j,0,none⟩)):=(bW1.cell (p:=⟨g,j*2+1,none⟩) hg).trans e1'
 have c1:w1.cell? ⟨w.heap.size,1,none⟩=some (.int .i64 a):=q1 1
 have hj0:(0:Int)≤(j:Int):=by omega
 have hj1:(j:Int)<(n:Int):=by omega
 have nw:=h1.row.lt
 have ng:g<w1.heap.size:=Nat.lt_of_lt_of_le hg bW1.size
 have HPJ:=HP.out j
 have HPJ':Hid _:=HPJ
 generalize px j=xj at *
 generalize pl j=lj at *
 clear hpick hj pb e0' e1' hat HPJ
 go_wp2_with fail
 go_region_held3 (fun w'=>w'.cell? ⟨gw,3,none⟩=some (.slice (some ⟨g,0,none⟩) n mc)∧w'.cell? ⟨w.heap.size,1,none⟩=some (.int .i64 a)∧w'.cell? ⟨g,j*2,none⟩=some (.pointer (some ⟨xj,0,none⟩))∧w'.cell? ⟨g,j*2+1,none⟩=some (.pointer (some ⟨lj,0,none⟩))) (go_keep) (first | (go_at_call 13;refine (HK.out _).mono ?_;rintro e w' ⟨rfl,rfl⟩))
 all_goals
  have bX:Below w1.heap.size w1 (w1.alloc (.cells #[.pointer (some ⟨xj,0,none⟩),.pointer (some ⟨lj,0,none⟩)] 50)).drew:=((Below.refl _ _).alloc (Nat.le_refl _) _).drew
  have rP:Row (w1.alloc (.cells #[.pointer (some ⟨xj,0,none⟩),.pointer (some ⟨lj,0,none⟩)] 50)).drew w1.heap.size [.pointer (some ⟨xj,0,none⟩),.pointer (some ⟨lj,0,none⟩)] 50:=heap_alloc_new w1 _
  have rO2:=rO1.below bX rO1.lt
  have bW2:=below_step bW1 bX rfl
  clear e0 e1 c1 c3 q1 bX
  generalize (w1.alloc (.cells #[.pointer (some ⟨xj,0,none⟩),.pointer (some ⟨lj,0,none⟩)] 50)).drew=w2 at *
  have q1:=row_q rP
  have q2:=row_q rO2
  go_wp2_with fail
  refine (HPJ'.out w2 hjl bW2).mono ?_
  rintro x w3 ⟨rfl,r3⟩
  have HR3:Hid _:=r3
  clear r3
  go_wp2
  go_ret
  exact ⟨rfl,HR3.out⟩
end Go.Proofs.YtehheaedbnfidaaGreat
namespace Go.Proofs.YtehheaedbnfidaaGreat
open Go.RowKit
theorem Ctx.prog {w0 w:World}{base:Nat}{X:SLoc}{L:RLoc}{M:RDat}{S:So}(h:Ctx w0 w base X L M S){k:Nat}(hk:k<M.c.cores.toNat):∃ pa,L.PL[X.d*M.c.cores.toNat+k]? = some (.slice pa (progF M.toM X.d k).length (progF M.toM X.d k).length)∧(progF M.toM X.d k).length≤64∧
  ∀ w',Below base w0 w'→∀ i,i<(progF M.toM X.d k).length→∃ b,pa=some ⟨b,0,none⟩∧w'.cell? ⟨b,i*3,none⟩=some (.int .i64 ((progF M.toM X.d k).getD i (0,0,0)).1)∧w'.cell? ⟨b,i*3+1,none⟩=some (.int .i64 ((progF M.toM X.d k).getD i (0,0,0)).2.1)∧w'.cell? ⟨b,i*3+2,none⟩=some (.int .i64 ((progF M.toM X.d k).getD i (0,0,0)).2.2):=by
 have R:=right_of h.ok
 have hnp:=h.ref.np
 have hnd:=h.ref.nd
 have hd:=h.d
 obtain ⟨n,hn⟩:=Int.eq_ofNat_of_zero_le (show 0≤M.c.cores by have:=R.c1;omega)
 have hn':M.c.cores.toNat=n:=by omega
 rw [hn'] at hk ⊢
 have hnp2:L.np=L.nd*n:=by
  have:(L.np:Int)=((L.nd*n:Nat):Int):=by rw [hnp,Int.natCast_mul,hnd,hn]
  omega
 have hlt:X.d*n+k<L.np:=by
  have:(X.d+1)*n≤L.nd*n:=Nat.mul_le_mul_right _ hd
  rw [Nat.succ_mul] at this
  omega
 have hp:progF M.toM X.d k=M.pr (X.d*n+k):=by unfold progF RDat.toM;rw [hn']
 rw [hp]
 have hm:=h.ref.pmax _ hlt
 rcases h.ref.pat _ hlt with ⟨h1,h2⟩|⟨h1,h2⟩
 ·
  rw [h1]
  exact ⟨none,h2,by simp,fun w' _ i hi=>by simp at hi⟩
 ·
  refine ⟨some ⟨L.G (X.d*n+k),0,none⟩,h1,hm,fun w' hw' i hi=>⟨L.G (X.d*n+k),rfl,?_⟩⟩
  rcases (h.keep w' hw').1.pat _ hlt with ⟨h3,_⟩|⟨_,h4⟩
  · rw [h3] at hi;simp at hi
  ·
   have fa:=fun j hj=>flat_at (fun p:OpT=>[Value.int .i64 p.1,.int .i64 p.2.1,.int .i64 p.2.2]) 3 (fun _=>rfl) (M.pr (X.d*n+k)) i j hj
   have e:(M.pr (X.d*n+k))[i]? = some ((M.pr (X.d*n+k)).getD i (0,0,0)):=by
    rw [List.getElem?_eq_getElem hi,List.getD_eq_getElem?_getD,List.getElem?_eq_getElem hi];rfl
   refine ⟨?_,?_,?_⟩
   ·
    have:=fa 0 (by omega)
    rw [e] at this
    rw [h4.cell]
    exact this
   ·
    have:=fa 1 (by omega)
    rw [e] at this
    rw [h4.cell]
    exact this
   ·
    have:=fa 2 (by omega)
    rw [e] at this
    rw [h4.cell]
    exact this
set_option maxHeartbeats 1600000 in
theorem rprogQ_any (X:SLoc)(L:RLoc)(M:RDat)(k:Nat)(v:Value)(w:World)(h:Row w X.gs (soloL X) 126)(hM:RefM w L M)(hg:X.gr=L.gr)(hd:X.d<L.nd)(hk:(k:Int)<M.c.cores)(hv:L.PL[X.d*M.c.cores.toNat+k]? = some v) :
  Calls Tryz.prog 124 #[.pointer (some ⟨X.gs,0,none⟩),.int .i64 k] w fun e w'=>e = .returned v∧∃ m,w'=w.drewN m:=by
 have c0:w.cell? ⟨X.gs,0,none⟩=some (.pointer (some ⟨L.gr,0,none⟩)):=by rw [h.cell,← hg];rfl
 have c1:w.cell? ⟨X.gs,1,none⟩=some (.int .i64 X.d):=by rw [h.cell];rfl
 have m0:w.cell? ⟨L.gr,0,none⟩=some (.int .i64 M.c.cores):=by rw [hM.row.cell];rfl
 have m13:w.cell? ⟨L.gr,13,none⟩=some (.slice (some ⟨L.gp,0,none⟩) L.np L.np):=by rw [hM.row.cell];rfl
 have R:=right_of hM.right
 have hnp:=hM.np
 have hnd:=hM.nd
 have k1:=R.c1
 have k2:=R.c2
 have k3:=R.d1
 have k4:=R.d2
 obtain ⟨n,hn⟩:=Int.eq_ofNat_of_zero_le (show 0≤M.c.cores by omega)
 have hn':M.c.cores.toNat=n:=by omega
 rw [hn'] at hv
 rw [hn] at m0 hnp hk k1 k2
 have hnp2:L.np=L.nd*n:=by
  have:(L.np:Int)=((L.nd*n:Nat):Int):=by rw [hnp,Int.natCast_mul,hnd]
  omega
 have hlt:X.d*n+k<L.np:=by
  have:(X.d+1)*n≤L.nd*n:=Nat.mul_le_mul_right _ hd
  rw [Nat.succ_mul] at this
  omega
 have hd4:X.d≤4:=by omega
 have hdn:X.d*n≤4*3:=Nat.mul_le_mul hd4 (by omega)
 have e1:(X.d:Int)*(n:Int)+(k:Int)=((X.d*n+k:Nat):Int):=by rw [← Int.natCast_mul];omega
 have b1:(X.d:Int)*(n:Int)≤12:=by rw [← Int.natCast_mul];omega
 have b0:0≤(X.d:Int)*(n:Int):=by rw [← Int.natCast_mul];omega
 have hnpb:L.np≤12:=by
  have:L.nd*n≤4*3:=Nat.mul_le_mul (by omega) (by omega)
  omega
 have p1:w.cell? ⟨L.gp,X.d*n+k,none⟩=some v:=by rw [hM.prow.cell,hv]
 have hw1:IntKind.i64.wrap ((X.d:Int)*(n:Int))=(X.d:Int)*(n:Int):=by rw [IntKind.wrap_i64];omega
 have hw2:IntKind.i64.wrap ((X.d:Int)*(n:Int)+(k:Int))=((X.d*n+k:Nat):Int):=by rw [IntKind.wrap_i64,e1];omega
 have HV:Hid _:=hv
 have HN:Hid _:=hn
 clear hv hn hn' hnp hnd hnp2 e1
 go_enter Tryz.func124,Tryz.ntmps124
 go_wp2_with fail
 go_quiet (fail)
 go_wp2
 go_ret
 exact ⟨rfl,_,rfl⟩
set_option maxHeartbeats 1600000 in
theorem rlone_any (X:SLoc)(c:Cf)(sl:Sl)(L:RLoc)(T core x t:Int)(log:List Ent)(w:World)(h:SoR w X c sl L T)(hl:LogAt w X.la X.ll log)(hok:∀ e∈log,EntOk e)(x0:0≤x) :
  Calls Tryz.prog 129 #[.pointer (some ⟨X.gs,0,none⟩),.int .i64 core,.int .i64 x,.int .i64 t] w fun e w'=>e = .returned (.bool (loneF c core x t log c.cores.toNat 0))∧Below w.heap.size w w':=by
 have k1:=h.right.c1
 have k2:=h.right.c2
 obtain ⟨n,hn⟩:=Int.eq_ofNat_of_zero_le (show 0≤c.cores by omega)
 have hn':c.cores.toNat=n:=by omega
 rw [hn']
 have c0:w.cell? ⟨X.gs,0,none⟩=some (.pointer (some ⟨X.gr,0,none⟩)):=by rw [h.row.cell];rfl
 have m0:w.cell? ⟨X.gr,0,none⟩=some (.int .i64 n):=by rw [h.mrow.cell,← hn];rfl
 have HN:Hid _:=hn
 have n3:n≤3:=by omega
 clear hn hn' k1 k2
 go_enter Tryz.func129,Tryz.ntmps129
 go_wp2_with fail
 go_loopw [9] (fun j wr=>∃ k:Nat,k≤n∧j = .int .i64 k∧loneF c core x t log n 0=loneF c core x t log (n-k) k∧Below w.heap.size w wr) (fun j _=>(n-intOf j).toNat)
 case atStart=>exact ⟨0,by omega,rfl,by simp,Below.refl _ _⟩
 case round=>
  obtain ⟨k,hk,rfl,hf,hb⟩:=hrel
  have HF:Hid _:=hf
  have hR:=h.below hb (Nat.le_refl _)
  have cr0:wr.cell? ⟨X.gs,0,none⟩=some (.pointer (some ⟨X.gr,0,none⟩)):=by rw [hR.row.cell];rfl
  have mr0:wr.cell? ⟨X.gr,0,none⟩=some (.int .i64 n):=by rw [hR.mrow.cell,← HN.out];rfl
  clear hf c0 m0
  by_cases hlt:k<n
  ·
   have hlt':(k:Int)<(n:Int):=by omega
   have HU:Hid (loneF c core x t log (n-k) k=if (k:Int)≠core∧stateF c k x t false log≠0 then false else loneF c core x t log (n-(k+1)) (k+1:Nat)):=by
    unfold Hid
    rw [show n-k=(n-(k+1))+1 by omega,loneF,show ((k+1:Nat):Int)=(k:Int)+1 by omega]
   by_cases a1:(k:Int)=core
   ·
    have a1':((k:Int) != core)=false:=by simpa using a1
    have HA:Hid _:=a1
    clear a1
    go_wp2
    go_roundw
    case rel=>exact ⟨k+1,by omega,by go_num,by rw [HF.out,HU.out,if_neg (fun hh=>hh.1 HA.out)],hb⟩
    case measure=>simp [intOf];omega
   ·
    have a1':((k:Int) != core)=true:=by simpa using a1
    have HA:Hid _:=a1
    clear a1
    by_cases a2:stateF c k x t false log=0
    ·
     go_wp2_with fail
     refine (rstate_any X c sl L T k x t log _ hR (hl.below hb (Nat.le_refl _)) hok x0).mono ?_;rintro e w2 ⟨rfl,hb2⟩
     have a2':(stateF c k x t false log != 0)=false:=by simpa using a2
     have HA2:Hid _:=a2
     clear a2
     go_wp2
     go_roundw
     case rel=>exact ⟨k+1,by omega,by go_num,by rw [HF.out,HU.out,if_neg (fun hh=>hh.2 HA2.out)],below_step hb hb2 rfl⟩
     case measure=>simp [intOf];omega
    ·
     go_wp2_with fail
     refine (rstate_any X c sl L T k x t log _ hR (hl.below hb (Nat.le_refl _)) hok x0).mono ?_;rintro e w2 ⟨rfl,hb2⟩
     have a2':(stateF c k x t false log != 0)=true:=by simpa using a2
     have HA2:Hid _:=a2
     clear a2
     go_wp2
     go_ret
     exact ⟨ret_bool (by rw [HF.out,HU.out,if_pos ⟨HA.out,HA2.out⟩]),below_step hb hb2 rfl⟩
  ·
   have ek:k=n:=by omega
   subst ek
   go_wp2
   go_ret
   exact ⟨ret_bool (by rw [HF.out,Nat.sub_self];rfl),hb⟩
set_option maxHeartbeats 1600000 in
theorem rprogD_any (X:SLoc)(L:RLoc)(M:RDat)(k:Nat)(v:Value)(w:World)(h:Row w X.gs (soloL X) 126)(hM:RefM w L M)(hg:X.gr=L.gr)(hd:X.d<L.nd)(hk:(k:Int)<M.c.cores)(hv:L.PL[X.d*M.c.cores.toNat+k]? = some v) :
  Calls Tryz.prog 124 #[.pointer (some ⟨X.gs,0,none⟩),.int .i64 k] w fun e w'=>e = .returned v∧w'=w.drew:=by
 have c0:w.cell? ⟨X.gs,0,none⟩=some (.pointer (some ⟨L.gr,0,none⟩)):=by rw [h.cell,← hg];rfl
 have c1:w.cell? ⟨X.gs,1,none⟩=some (.int .i64 X.d):=by rw [h.cell];rfl
 have m0:w.cell? ⟨L.gr,0,none⟩=some (.int .i64 M.c.cores):=by rw [hM.row.cell];rfl
 have m13:w.cell? ⟨L.gr,13,none⟩=some (.slice (some ⟨L.gp,0,none⟩) L.np L.np):=by rw [hM.row.cell];rfl
 have R:=right_of hM.right
 have hnp:=hM.np
 have hnd:=hM.nd
 have k1:=R.c1
 have k2:=R.c2
 have k3:=R.d1
 have k4:=R.d2
 obtain ⟨n,hn⟩:=Int.eq_ofNat_of_zero_le (show 0≤M.c.cores by omega)
 have hn':M.c.cores.toNat=n:=by omega
 rw [hn'] at hv
 rw [hn] at m0 hnp hk k1 k2
 have hnp2:L.np=L.nd*n:=by
  have:(L.np:Int)=((L.nd*n:Nat):Int):=by rw [hnp,Int.natCast_mul,hnd]
  omega
 have hlt:X.d*n+k<L.np:=by
  have:(X.d+1)*n≤L.nd*n:=Nat.mul_le_mul_right _ hd
  rw [Nat.succ_mul] at this
  omega
 have hd4:X.d≤4:=by omega
 have hdn:X.d*n≤4*3:=Nat.mul_le_mul hd4 (by omega)
 have e1:(X.d:Int)*(n:Int)+(k:Int)=((X.d*n+k:Nat):Int):=by rw [← Int.natCast_mul];omega
 have b1:(X.d:Int)*(n:Int)≤12:=by rw [← Int.natCast_mul];omega
 have b0:0≤(X.d:Int)*(n:Int):=by rw [← Int.natCast_mul];omega
 have hnpb:L.np≤12:=by
  have:L.nd*n≤4*3:=Nat.mul_le_mul (by omega) (by omega)
  omega
 have p1:w.cell? ⟨L.gp,X.d*n+k,none⟩=some v:=by rw [hM.prow.cell,hv]
 have hw1:IntKind.i64.wrap ((X.d:Int)*(n:Int))=(X.d:Int)*(n:Int):=by rw [IntKind.wrap_i64];omega
 have hw2:IntKind.i64.wrap ((X.d:Int)*(n:Int)+(k:Int))=((X.d*n+k:Nat):Int):=by rw [IntKind.wrap_i64,e1];omega
 have HV:Hid _:=hv
 have HN:Hid _:=hn
 clear hv hn hn' hnp hnd hnp2 e1
 go_enter Tryz.func124,Tryz.ntmps124
 go_wp2_with fail
 go_region
 all_goals go_wp2
 all_goals go_ret
 all_goals exact ⟨rfl,rfl⟩
end Go.Proofs.YtehheaedbnfidaaGreat
namespace Go.Proofs.YtehheaedbnfidaaGreat
theorem whereF_far {x:Int}{e:Ent}{log:List Ent}(h1:e.what≠1)(h2:e.what≠2):whereF x (e::log)=whereF x log:=by
 conv=>lhs;unfold whereF
 rw [if_neg (by simp [h1]),if_neg (by simp [h2])]
theorem liesF_far {c:Cf}{set way:Int}{e:Ent}{log:List Ent}(h1:e.what≠1)(h2:e.what≠2):liesF c set way (e::log)=liesF c set way log:=by
 conv=>lhs;unfold liesF
 rw [if_neg (by simp [h1]),if_neg (by simp [h2])]
theorem emptyF_congr {c:Cf}{set:Int}{l l':List Ent}(h:∀ j,liesF c set j l'=liesF c set j l):∀ (n:Nat) (j:Int),emptyF c set l' n j=emptyF c set l n j
 | 0,_=>rfl
 | n+1,j=>by unfold emptyF;rw [h j,emptyF_congr h n (j+1)]
theorem emptyF_ge {c:Cf}{set:Int}{log:List Ent}:∀ (n:Nat) (j:Int),j≤emptyF c set log n j∧emptyF c set log n j≤j+n
 | 0,j=>by unfold emptyF;omega
 | n+1,j=>by
  unfold emptyF
  by_cases h:liesF c set j log<0
  · rw [if_pos h];omega
  · rw [if_neg h];have:=emptyF_ge (c:=c) (set:=set) (log:=log) n (j+1);omega
theorem emptyF_le {c:Cf}{set:Int}{log:List Ent}:∀ (n:Nat) (j i:Int),j≤i→i<j+n→liesF c set i log<0→emptyF c set log n j≤i
 | 0,j,i,h1,h2,_=>by omega
 | n+1,j,i,h1,h2,h=>by
  unfold emptyF
  by_cases g:liesF c set j log<0
  · rw [if_pos g];exact h1
  ·
   rw [if_neg g]
   refine emptyF_le n (j+1) i ?_ (by omega) h
   by_cases e:i=j
   · subst e;exact absurd h g
   · omega
theorem emptyF_is {c:Cf}{set:Int}{log:List Ent}:∀ (n:Nat) (j:Int),emptyF c set log n j<j+n→liesF c set (emptyF c set log n j) log<0
 | 0,j,h=>by unfold emptyF at h;omega
 | n+1,j,h=>by
  unfold emptyF at h ⊢
  by_cases g:liesF c set j log<0
  · rw [if_pos g];exact g
  ·
   rw [if_neg g] at h ⊢
   exact emptyF_is n (j+1) (by omega)
theorem victim_bd (n:Int)(l:List Int)(hn:smallB n=true):0≤victimZ n l∧victimZ n l<n:=by
 rcases (small_iff n).1 hn with e|e|e
 · subst e;simp [victimZ]
 ·
  subst e
  show 0≤(if lowHit l 0 1=true then (1:Int) else 0)∧(if lowHit l 0 1=true then (1:Int) else 0)<2
  split <;> omega
 ·
  subst e
  show 0≤(if lowHit l 0 2=true then (if lowHit l 2 1=true then (3:Int) else 2) else (if lowHit l 0 1=true then 1 else 0))∧(if lowHit l 0 2=true then (if lowHit l 2 1=true then (3:Int) else 2) else (if lowHit l 0 1=true then 1 else 0))<4
  split <;> split <;> omega
theorem chosen_bd {c:Cf}{n:Nat}{set:Int}{log:List Ent}(hn:smallB (n:Int)=true):0≤chosenF c n set log∧chosenF c n set log<n:=by
 unfold chosenF
 have:=emptyF_ge (c:=c) (set:=set) (log:=log) n 0
 simp only
 split
 · omega
 · exact victim_bd _ _ hn
theorem lies_set {c:Cf}{set way:Int}:∀ {log:List Ent},0≤liesF c set way log→liesF c set way log%c.sets=set
 | [],h=>by simp [liesF] at h
 | e::r,h=>by
  unfold liesF at h ⊢
  by_cases h1:((e.line%c.sets==set)&&e.way==way&&e.what==1)=true
  ·
   rw [if_pos h1]
   simp only [Bool.and_eq_true,beq_iff_eq] at h1
   exact h1.1.1
  ·
   rw [if_neg h1] at h ⊢
   by_cases h2:((e.line%c.sets==set)&&e.way==way&&e.what==2)=true
   · rw [if_pos h2] at h;omega
   ·
    rw [if_neg h2] at h ⊢
    exact lies_set h
def needF (M:MDat)(d:Nat)(S:So):Nat:=
 match S.queue with
 | []=>0
 | core::_=>
  let x:=(opAt M d core.toNat S).2.1 / M.c.line
  if 0≤whereF x S.log then 1
  else if emptyF M.c (x%M.c.sets) S.log (M.c.ways.count (d:Int)) 0<(M.c.ways.count (d:Int):Nat) then 2
  else 3
theorem need_le (M:MDat)(d:Nat)(S:So):needF M d S≤3:=by
 unfold needF
 split
 · omega
 ·
  simp only
  split
  · omega
  · split <;> omega
theorem need_pos {M:MDat}{d:Nat}{S:So}(h:S.queue≠[]):1≤needF M d S:=by
 unfold needF
 split
 · rename_i e;exact absurd e h
 ·
  simp only
  split
  · omega
  · split <;> omega
theorem need_eq {M:MDat}{d k:Nat}{S:So}{q:List Int}{okd oad ovl:Int}(hq:S.queue=(k:Int)::q)(ho:opAt M d k S=(okd,oad,ovl)) :
  needF M d S=if 0≤whereF (oad / M.c.line) S.log then 1 else if emptyF M.c (oad / M.c.line%M.c.sets) S.log (M.c.ways.count (d:Int)) 0<(M.c.ways.count (d:Int):Nat) then 2 else 3:=by
 unfold needF
 rw [hq]
 simp only [Int.toNat_natCast,ho]
theorem serve_need {M:MDat}{d:Nat}{S:So}{k:Nat}{q:List Int}{t:Int}(hc:chk M.c=0)(hd:(d:Int)<M.c.domains)(hq:S.queue=(k:Int)::q) :
  (needF M d S=1∧(So.serve M d S t).queue=q)∨(2≤needF M d S∧(So.serve M d S t).queue=S.queue∧needF M d (So.serve M d S t)+1≤needF M d S∧(So.serve M d S t).began=S.began):=by
 rcases ho:opAt M d k S with ⟨okd,oad,ovl⟩
 have hsm:=ways_small hc hd
 have hN:needF M d S=if 0≤whereF (oad / M.c.line) S.log then 1 else if emptyF M.c (oad / M.c.line%M.c.sets) S.log (M.c.ways.count (d:Int)) 0<(M.c.ways.count (d:Int):Nat) then 2 else 3:=by
  unfold needF
  rw [hq]
  simp only [Int.toNat_natCast,ho]
 by_cases hw:0≤whereF (oad / M.c.line) S.log
 ·
  left
  rw [hN,if_pos hw]
  refine ⟨rfl,?_⟩
  by_cases hk:okd=1
  ·
   subst hk
   rw [serve_store hq ho rfl hw]
   rfl
  ·
   rw [serve_load hq ho hk rfl hw]
   rfl
 ·
  right
  rw [if_neg hw] at hN
  have hcb:=chosen_bd (c:=M.c) (set:=oad / M.c.line%M.c.sets) (log:=S.log) hsm
  obtain ⟨way,hcw⟩:∃ way,chosenF M.c (M.c.ways.count (d:Int)) (oad / M.c.line%M.c.sets) S.log=way:=⟨_,rfl⟩
  rw [hcw] at hcb
  obtain ⟨y,hy⟩:∃ y,liesF M.c (oad / M.c.line%M.c.sets) way S.log=y:=⟨_,rfl⟩
  by_cases he:emptyF M.c (oad / M.c.line%M.c.sets) S.log (M.c.ways.count (d:Int)) 0<(M.c.ways.count (d:Int):Nat)
  ·
   rw [if_pos he] at hN
   have hwe:way=emptyF M.c (oad / M.c.line%M.c.sets) S.log (M.c.ways.count (d:Int)) 0:=by
    rw [← hcw];unfold chosenF;simp only [he,if_true]
   have hy0:y<0:=by
    rw [← hy,hwe]
    exact emptyF_is _ 0 (by omega)
   rw [serve_fill hq ho rfl hw hcw hy (by omega),hN]
   refine ⟨by omega,rfl,?_,rfl⟩
   have:needF M d (S.told ⟨t,1,0,oad / M.c.line,way,false,false,0,0⟩)=1:=by
    rw [need_eq (S:=S.told ⟨t,1,0,oad / M.c.line,way,false,false,0,0⟩) (show S.queue=_ from hq) (show opAt M d k S=_ from ho)]
    refine if_pos ?_
    simp only [So.told,whereF]
    simp
    exact hcb.1
   omega
  ·
   rw [if_neg he] at hN
   have hy0:0≤y:=by
    have:¬y<0:=fun hh=>by
     have:=emptyF_le (c:=M.c) (set:=oad / M.c.line%M.c.sets) (log:=S.log) (M.c.ways.count (d:Int)) 0 way hcb.1 (by omega) (by rw [hy];exact hh)
     omega
    omega
   cases hm:markedF y S.log with
   | true=>
    rw [serve_gone hq ho rfl hw hcw hy hy0 hm,hN]
    refine ⟨by omega,rfl,?_,rfl⟩
    have:needF M d (S.told ⟨t,2,0,y,way,false,false,0,0⟩)≤2:=by
     rw [need_eq (S:=S.told ⟨t,2,0,y,way,false,false,0,0⟩) (show S.queue=_ from hq) (show opAt M d k S=_ from ho)]
     split
     · omega
     ·
      have hs:=lies_set (c:=M.c) (set:=oad / M.c.line%M.c.sets) (way:=way) (log:=S.log) (by rw [hy];exact hy0)
      rw [hy] at hs
      have hl:liesF M.c (oad / M.c.line%M.c.sets) way (S.told ⟨t,2,0,y,way,false,false,0,0⟩).log<0:=by
       simp only [So.told,liesF,hs]
       simp
      have:=emptyF_le (c:=M.c) (set:=oad / M.c.line%M.c.sets) (M.c.ways.count (d:Int)) 0 way hcb.1 (by omega) hl
      rw [if_pos (show emptyF M.c (oad / M.c.line%M.c.sets) (S.told ⟨t,2,0,y,way,false,false,0,0⟩).log (M.c.ways.count (d:Int)) 0<(M.c.ways.count (d:Int):Nat) by omega)]
      omega
    omega
   | false=>
    rw [serve_both hq ho rfl hw hcw hy hy0 hm,hN]
    refine ⟨by omega,rfl,?_,rfl⟩
    have:needF M d ((S.told ⟨t,2,0,y,way,false,false,0,0⟩).told ⟨t,1,0,oad / M.c.line,way,false,false,0,0⟩)=1:=by
     rw [need_eq (S:=(S.told ⟨t,2,0,y,way,false,false,0,0⟩).told ⟨t,1,0,oad / M.c.line,way,false,false,0,0⟩) (show S.queue=_ from hq) (show opAt M d k S=_ from ho)]
     refine if_pos ?_
     simp only [So.told,whereF]
     simp
     exact hcb.1
    omega
def perZ (c:Cf):Int:=(c.slots.length:Int)*c.slot
theorem firstF_le {p:Int→Bool}:∀ (n:Nat) (u m:Int),u≤m→m<u+n→p m=true→firstF p n u≤m
 | 0,u,m,h1,h2,_=>by omega
 | n+1,u,m,h1,h2,h3=>by
  unfold firstF
  by_cases e:p u=true
  · rw [if_pos e];exact h1
  ·
   rw [if_neg e]
   refine firstF_le n (u+1) m ?_ (by omega) h3
   by_cases e2:m=u
   · subst e2;exact absurd h3 e
   · omega
theorem per_pos {c:Cf}(hc:chk c=0):1≤perZ c:=by
 have R:=right_of hc
 have:=Int.mul_le_mul (show (1:Int)≤(c.slots.length:Int) by have:=R.t1;omega) R.s1 (by omega) (by omega)
 unfold perZ
 omega
theorem wait_bd {c:Cf}{d:Nat}{t:Int}(hc:chk c=0)(hd:(d:Int)<c.domains)(t0:0≤t):t≤waitZ c d t∧waitZ c d t<t+perZ c∧servesB c d (waitZ c d t)=true:=by
 have R:=right_of hc
 obtain ⟨n,rfl⟩:=Int.eq_ofNat_of_zero_le t0
 have hs:=R.s1
 have hcnt:=serves_count c d hs n
 have hpos:=owns_slot (chk_zero hc).2.2.1 (d:=(d:Int)) (by omega) hd
 have e:((c.slots.length:Int)*c.slot).toNat=c.slots.length*c.slot.toNat:=by
  have:(c.slots.length:Int)*c.slot=((c.slots.length*c.slot.toNat:Nat):Int):=by
   rw [Int.natCast_mul,Int.toNat_of_nonneg (by omega)]
  rw [this,Int.toNat_natCast]
 obtain ⟨h1,h2,h3,_⟩:=firstF_spec (p:=servesB c d) (c.slots.length*c.slot.toNat) (n:Int) (by omega)
 unfold waitZ
 rw [e]
 refine ⟨h1,?_,h3⟩
 have p1:=per_pos hc
 unfold perZ at p1 ⊢
 omega
theorem wait_le {c:Cf}{d:Nat}{t m:Int}(hc:chk c=0)(h1:t≤m)(h2:m<t+perZ c)(h3:servesB c d m=true):waitZ c d t≤m:=by
 unfold waitZ
 have p1:=per_pos hc
 unfold perZ at h2 p1
 exact firstF_le _ _ _ h1 (by rw [Int.toNat_of_nonneg (by omega)];exact h2) h3
theorem serves_per {c:Cf}{d:Nat}(hc:chk c=0)(t:Int):servesB c d (t+perZ c)=servesB c d t:=by
 have R:=right_of hc
 have:=serves_period c d R.s1 t
 have e:((c.slots.length*c.slot.toNat:Nat):Int)=(c.slots.length:Int)*c.slot:=by
  rw [Int.natCast_mul,Int.toNat_of_nonneg (by have:=R.s1;omega)]
 rw [e] at this
 exact this
theorem wait_here {c:Cf}{d:Nat}{t:Int}(hc:chk c=0)(h:servesB c d t=true):waitZ c d t≤t∧waitZ c d (t+1)≤t+perZ c:=by
 have p1:=per_pos hc
 exact ⟨wait_le hc (Int.le_refl _) (by omega) h,wait_le hc (by omega) (by omega) (by rw [serves_per hc];exact h)⟩
theorem wait_on {c:Cf}{d:Nat}{t:Int}(hc:chk c=0)(hd:(d:Int)<c.domains)(t0:0≤t)(h:servesB c d t=false):waitZ c d (t+1)≤waitZ c d t:=by
 obtain ⟨h1,h2,h3⟩:=wait_bd (d:=d) hc hd t0
 refine wait_le hc ?_ (by omega) h3
 by_cases e:waitZ c d t=t
 · rw [e,h] at h3;exact absurd h3 (by simp)
 · omega
def DueOk (M:MDat)(d:Nat)(S:So)(t:Int):Prop:=∀ p k:Nat,S.queue[p]? = some (k:Int)→waitZ M.c d t+(3*(p:Int)+needF M d S-1)*perZ M.c≤S.began.getD k 0+worstZ M.c
theorem serve_began {M:MDat}{d:Nat}{S:So}{t:Int}:(So.serve M d S t).began=S.began:=by
 unfold So.serve
 cases hq:S.queue with
 | nil=>rfl
 | cons q r=>
  simp only
  split
  · split <;> rfl
  ·
   split
   · split <;> rfl
   · rfl
theorem due_service {M:MDat}{d:Nat}{S:So}{B:Nat}{t:Int}(hs:SoOk M d S B)(hc:chk M.c=0)(hd:(d:Int)<M.c.domains)(t0:0≤t)(h:DueOk M d S t):DueOk M d (So.service M d S t) (t+1):=by
 have p1:=per_pos hc
 unfold So.service
 by_cases c1:servesB M.c d t=true
 ·
  rw [if_pos c1]
  obtain ⟨w1,w2⟩:=wait_here hc c1
  obtain ⟨w3,_,_⟩:=wait_bd (d:=d) hc hd t0
  cases hq:S.queue with
  | nil=>
   intro p k hp
   have:(So.serve M d S t).queue=[]:=by unfold So.serve;rw [hq];exact hq
   rw [this] at hp
   simp at hp
  | cons q r=>
   obtain ⟨k0,rfl,_,_⟩:=hs.qu q (by rw [hq];exact List.mem_cons_self ..)
   intro p k hp
   rw [serve_began]
   rcases serve_need (t:=t) hc hd hq with ⟨n1,n2⟩|⟨n1,n2,n3,_⟩
   ·
    rw [n2] at hp
    have:=h (p+1) k (by rw [hq];exact hp)
    rw [n1] at this
    have n4:=need_le M d (So.serve M d S t)
    have m1:(3*(p:Int)+needF M d (So.serve M d S t)-1)*perZ M.c≤(3*(p:Int)+2)*perZ M.c:=Int.mul_le_mul_of_nonneg_right (by omega) (by omega)
    have m2:(3*((p+1:Nat):Int)+((1:Nat):Int)-1)*perZ M.c=(3*(p:Int)+2)*perZ M.c+perZ M.c:=by
     rw [show 3*((p+1:Nat):Int)+((1:Nat):Int)-1=(3*(p:Int)+2)+1 by omega,Int.add_mul _ 1,Int.one_mul]
    omega
   ·
    rw [n2] at hp
    have:=h p k hp
    have m1:(3*(p:Int)+needF M d (So.serve M d S t)-1)*perZ M.c≤(3*(p:Int)+needF M d S-2)*perZ M.c:=Int.mul_le_mul_of_nonneg_right (by omega) (by omega)
    have m2:(3*(p:Int)+needF M d S-1)*perZ M.c=(3*(p:Int)+needF M d S-2)*perZ M.c+perZ M.c:=by
     rw [show 3*(p:Int)+(needF M d S:Int)-1=(3*(p:Int)+needF M d S-2)+1 by omega,Int.add_mul _ 1,Int.one_mul]
    omega
 ·
  rw [if_neg c1]
  have c1':servesB M.c d t=false:=by simpa using c1
  have:=wait_on (d:=d) hc hd t0 c1'
  intro p k hp
  have:=h p k hp
  omega
structure Same (M:MDat)(d:Nat)(S S':So):Prop where
 q:S'.queue=S.queue
 w:∀ x,whereF x S'.log=whereF x S.log
 l:∀ set way,liesF M.c set way S'.log=liesF M.c set way S.log
 o:∀ k:Nat,(k:Int)∈S.queue→opAt M d k S'=opAt M d k S
 b:∀ k:Nat,(k:Int)∈S.queue→S'.began.getD k 0=S.began.getD k 0
theorem Same.need {M:MDat}{d:Nat}{S S':So}{B:Nat}(h:Same M d S S')(hs:SoOk M d S B):needF M d S'=needF M d S:=by
 cases hq:S.queue with
 | nil=>
  unfold needF
  rw [h.q,hq]
 | cons q r=>
  obtain ⟨k,rfl,_,_⟩:=hs.qu q (by rw [hq];exact List.mem_cons_self ..)
  rcases ho:opAt M d k S with ⟨okd,oad,ovl⟩
  rw [need_eq hq ho,need_eq (show S'.queue=_ by rw [h.q,hq]) (show opAt M d k S'=_ by rw [h.o k (by rw [hq];exact List.mem_cons_self ..),ho])]
  rw [h.w,emptyF_congr (fun j=>h.l _ j)]
theorem Same.due {M:MDat}{d:Nat}{S S':So}{B:Nat}{t:Int}(h:Same M d S S')(hs:SoOk M d S B)(hd:DueOk M d S t):DueOk M d S' t:=by
 intro p k hp
 rw [h.q] at hp
 rw [h.need hs,h.b k (List.mem_of_getElem? hp)]
 exact hd p k hp
theorem queue_len {M:MDat}{d:Nat}{S:So}{B k:Nat}(hs:SoOk M d S B)(hc:chk M.c=0)(hk:k<M.c.cores.toNat)(hn:(k:Int) ∉ S.queue):(S.queue.length:Int)+1≤M.c.cores:=by
 have c2:=(right_of hc).c2
 have hq:∀ q∈S.queue,0≤q∧q<M.c.cores∧q≠k:=fun q hq=>by
  obtain ⟨j,e1,e2,_⟩:=hs.qu q hq
  exact ⟨by omega,by omega,fun e=>by subst e;exact hn hq⟩
 have hnd:=hs.nd
 generalize S.queue=l at *
 match l,hq,hnd with
 | [],_,_=>simp;omega
 | [a],hq,_=>
  have:=hq a (by simp)
  simp
  omega
 | [a,b],hq,hnd=>
  have h1:=hq a (by simp)
  have h2:=hq b (by simp)
  simp at hnd
  simp
  omega
 | a::b::e::r,hq,hnd=>
  have h1:=hq a (by simp)
  have h2:=hq b (by simp)
  have h3:=hq e (by simp)
  simp at hnd
  omega
theorem worst_per (c:Cf):worstZ c=3*c.cores*perZ c:=by
 unfold worstZ perZ
 rw [Int.mul_assoc (3*c.cores)]
theorem not_waiting {M:MDat}{d:Nat}{S:So}{B k:Nat}(hs:SoOk M d S B)(h:S.how.getD k 0≠1):(k:Int) ∉ S.queue:=fun hq=>by
 obtain ⟨j,e1,_,e3⟩:=hs.qu _ hq
 have:k=j:=by omega
 subst this
 exact h e3
theorem same_done {M:MDat}{d:Nat}{S:So}{k:Nat}{t v f:Int}(hn:(k:Int) ∉ S.queue):Same M d S (S.done k t v f):=by
 refine ⟨rfl,fun _=>rfl,fun _ _=>rfl,fun j hj=>?_,fun _ _=>rfl⟩
 have e:j≠k:=fun e=>by subst e;exact hn hj
 unfold opAt So.done
 simp only
 rw [getD_set_ne e]
theorem same_began {M:MDat}{d:Nat}{S:So}{k:Nat}{t:Int}(hn:(k:Int) ∉ S.queue):Same M d S { S with began:=S.began.set k t }:=
 ⟨rfl,fun _=>rfl,fun _ _=>rfl,fun _ _=>rfl,fun j hj=>getD_set_ne (fun e=>by subst e;exact hn hj)⟩
theorem same_told {M:MDat}{d:Nat}{S:So}{e:Ent}(h1:e.what≠1)(h2:e.what≠2):Same M d S (S.told e):=
 ⟨rfl,fun _=>whereF_far h1 h2,fun _ _=>liesF_far h1 h2,fun _ _=>rfl,fun _ _=>rfl⟩
theorem Same.trans {M:MDat}{d:Nat}{a b c:So}(h:Same M d a b)(k:Same M d b c):Same M d a c:=
 ⟨k.q.trans h.q,fun x=>(k.w x).trans (h.w x),fun s y=>(k.l s y).trans (h.l s y),fun j hj=>(k.o j (by rw [h.q];exact hj)).trans (h.o j hj),fun j hj=>(k.b j (by rw [h.q];exact hj)).trans (h.b j hj)⟩
theorem due_begin {M:MDat}{d:Nat}{S:So}{B k:Nat}{t:Int}(hs:SoOk M d S B)(hc:chk M.c=0)(hd:(d:Int)<M.c.domains)(hk:k<M.c.cores.toNat)(h0:S.how.getD k 0=0)(t0:0≤t)(h:DueOk M d S (t+1)):DueOk M d (So.begin M d k S t) (t+1):=by
 have nq:=not_waiting hs (k:=k) (by omega)
 have sb:=same_began (M:=M) (d:=d) (S:=S) (k:=k) (t:=t) nq
 have kb:k<S.began.length:=by rw [hs.bl];exact hk
 unfold So.begin
 by_cases c1:faultF M.c (opAt M d k S)≠0
 ·
  simp only [if_pos c1]
  exact Same.due (S:=S) (S':={ S with began:=S.began.set k t,how:=S.how.set k 2 }) ⟨rfl,fun _=>rfl,fun _ _=>rfl,fun _ _=>rfl,sb.b⟩ hs h
 ·
  simp only [if_neg c1]
  by_cases c2:stateF M.c k ((opAt M d k S).2.1 / M.c.line) t false S.log=0∨((opAt M d k S).1=1∧stateF M.c k ((opAt M d k S).2.1 / M.c.line) t false S.log=1)
  ·
   simp only [if_pos c2]
   intro p j hp
   simp only at hp ⊢
   by_cases hl:p<S.queue.length
   ·
    rw [List.getElem?_append_left hl] at hp
    have hm:=List.mem_of_getElem? hp
    have hb:=sb.b j hm
    simp only at hb
    rw [hb]
    have hn:needF M d { S with began:=S.began.set k t,how:=S.how.set k 1,queue:=S.queue++[(k:Int)] }=needF M d S:=by
     cases hq:S.queue with
     | nil=>rw [hq] at hl;simp at hl
     | cons q r=>
      obtain ⟨i,rfl,_,_⟩:=hs.qu q (by rw [hq];exact List.mem_cons_self ..)
      rcases ho:opAt M d i S with ⟨okd,oad,ovl⟩
      rw [need_eq hq ho]
      exact need_eq (q:=r++[(k:Int)]) rfl (show opAt M d i S=_ from ho)
    have:=h p j hp
    rw [hn]
    exact this
   ·
    rw [List.getElem?_append_right (by omega)] at hp
    have hpk:p=S.queue.length∧(k:Int)=j:=by
     by_cases e:p-S.queue.length=0
     · rw [e] at hp;simp at hp;omega
     · rw [List.getElem?_eq_none (by simp;omega)] at hp;simp at hp
    obtain ⟨e1,e2⟩:=hpk
    have e3:k=j:=by omega
    subst e3
    rw [getD_set kb,if_pos rfl]
    have hlen:=queue_len hs hc hk nq
    have p1:=per_pos hc
    obtain ⟨_,w2,_⟩:=wait_bd (d:=d) (t:=t+1) hc hd (by omega)
    have n4:=need_le M d { S with began:=S.began.set k t,how:=S.how.set k 1,queue:=S.queue++[(k:Int)] }
    generalize needF M d { S with began:=S.began.set k t,how:=S.how.set k 1,queue:=S.queue++[(k:Int)] }=nn at *
    have m1:(3*(p:Int)+nn-1)*perZ M.c≤(3*M.c.cores-1)*perZ M.c:=Int.mul_le_mul_of_nonneg_right (by omega) (by omega)
    have m2:3*M.c.cores*perZ M.c=(3*M.c.cores-1)*perZ M.c+perZ M.c:=by
     rw [show 3*M.c.cores=(3*M.c.cores-1)+1 by omega,Int.add_mul _ 1,Int.one_mul]
     rw [show 3*M.c.cores-1+1-1=3*M.c.cores-1 by omega]
    rw [worst_per]
    omega
  ·
   simp only [if_neg c2]
   by_cases c3:(opAt M d k S).1=1
   ·
    simp only [if_pos c3]
    exact Same.due ((sb.trans (same_told (by simp) (by simp))).trans (same_done nq)) hs h
   ·
    simp only [if_neg c3]
    exact Same.due (sb.trans (same_done nq)) hs h
theorem due_works {M:MDat}{d:Nat}{S:So}{B k:Nat}{t:Int}(hs:SoOk M d S B)(hc:chk M.c=0)(hd:(d:Int)<M.c.domains)(hk:k<M.c.cores.toNat)(t0:0≤t)(h:DueOk M d S (t+1)):DueOk M d (So.works M d k S t) (t+1):=by
 unfold So.works
 by_cases c1:S.how.getD k 0=2∧t=S.began.getD k 0+2
 ·
  rw [if_pos c1]
  exact (same_done (not_waiting hs (by omega))).due hs h
 ·
  rw [if_neg c1]
  by_cases c2:S.how.getD k 0≠0∨t<S.free.getD k 0∨((progF M d k).length:Int)≤S.next.getD k 0∨openB M.c k d t=false
  · rw [if_pos c2];exact h
  ·
   rw [if_neg c2]
   exact due_begin hs hc hd hk (by omega) t0 h
theorem due_worksAll {M:MDat}{d:Nat}{t:Int}(hc:chk M.c=0)(hd:(d:Int)<M.c.domains)(t0:0≤t)(t1:t≤10000):∀ (n j:Nat) {S:So} {B:Nat},SoOk M d S B→j+n≤M.c.cores.toNat→DueOk M d S (t+1)→DueOk M d (So.worksAll M d t n j S) (t+1)
 | 0,_,_,_,_,_,h=>h
 | n+1,j,S,B,hs,hj,h=>due_worksAll hc hd t0 t1 n (j+1) (hs.works hc (by omega:j<_) t0 t1) (by omega) (due_works hs hc hd (by omega) t0 h)
theorem due_cycle {M:MDat}{d:Nat}{S:So}{B:Nat}{t:Int}(hs:SoOk M d S B)(hc:chk M.c=0)(hd:(d:Int)<M.c.domains)(t0:0≤t)(t1:t≤10000)(h:DueOk M d S t):DueOk M d (So.cycle M d S t) (t+1):=
 due_worksAll hc hd t0 t1 _ 0 (hs.service hc t0 t1) (by omega) (due_service hs hc hd t0 h)
theorem due_upto {M:MDat}{d:Nat}(hc:chk M.c=0)(hd:(d:Int)<M.c.domains):∀ (T:Nat),T≤10000→DueOk M d (So.upto M d T) T
 | 0,_=>fun p k hp=>by simp [So.upto,So.start] at hp
 | t+1,h=>due_cycle (SoOk.upto (d:=d) hc t (by omega)) hc hd (by omega) (by omega) (due_upto hc hd t (by omega))
def Under (M:MDat)(d:Nat)(S:So)(t:Int):Prop:=∀ k,k<M.c.cores.toNat→S.how.getD k 0≠0→openB M.c k d (S.began.getD k 0)=true∧S.began.getD k 0≤t∧(S.how.getD k 0=1→(k:Int)∈S.queue)
theorem Under.mono {M:MDat}{d:Nat}{S:So}{t u:Int}(h:Under M d S t)(hu:t≤u):Under M d S u:=fun k hk hh=>by
 obtain ⟨h1,h2,h3⟩:=h k hk hh
 exact ⟨h1,by omega,h3⟩
theorem Under.done {M:MDat}{d:Nat}{S S':So}{k:Nat}{t u v f:Int}(h:Under M d S t)(h1:S'.how=S.how)(h2:S'.began=S.began)(h3:∀ q∈S.queue,q≠(k:Int)→q∈S'.queue)(hk:k<S.how.length):Under M d (S'.done k u v f) t:=by
 intro j hj hh
 have e:(S'.done k u v f).how.getD j 0=if j=k then 0 else S.how.getD j 0:=by
  show (S'.how.set k 0).getD j 0=_
  rw [h1,getD_set hk]
 rw [e] at hh ⊢
 by_cases g:j=k
 · rw [if_pos g] at hh;exact absurd rfl hh
 ·
  rw [if_neg g] at hh ⊢
  obtain ⟨a1,a2,a3⟩:=h j hj hh
  have e2:(S'.done k u v f).began=S.began:=h2
  rw [e2]
  exact ⟨a1,a2,fun h5=>h3 _ (a3 h5) (by omega)⟩
theorem under_serve {M:MDat}{d:Nat}{S:So}{B:Nat}{t u:Int}(hs:SoOk M d S B)(h:Under M d S u):Under M d (So.serve M d S t) u:=by
 unfold So.serve
 cases hq:S.queue with
 | nil=>exact h
 | cons q r=>
  obtain ⟨k,rfl,hk,_⟩:=hs.qu q (by rw [hq];exact List.mem_cons_self ..)
  have kh:k<S.how.length:=by rw [hs.hl];exact hk
  have hpop:∀ x∈S.queue,x≠(k:Int)→x∈r:=fun x hx hne=>by
   rw [hq] at hx
   rcases List.mem_cons.1 hx with e|e
   · exact absurd e hne
   · exact e
  simp only [Int.toNat_natCast]
  split
  ·
   split
   · exact Under.done h rfl rfl hpop kh
   · exact Under.done h rfl rfl hpop kh
  ·
   split
   ·
    split
    · exact h
    · exact h
   · exact h
theorem under_service {M:MDat}{d:Nat}{S:So}{B:Nat}{t u:Int}(hs:SoOk M d S B)(h:Under M d S u):Under M d (So.service M d S t) u:=by
 unfold So.service
 by_cases c1:servesB M.c d t=true
 · rw [if_pos c1];exact under_serve hs h
 · rw [if_neg c1];exact h
theorem under_begin {M:MDat}{d:Nat}{S:So}{B k:Nat}{t:Int}(hs:SoOk M d S B)(hk:k<M.c.cores.toNat)(h0:S.how.getD k 0=0)(ho:openB M.c k d t=true)(h:Under M d S t):Under M d (So.begin M d k S t) t:=by
 have kh:k<S.how.length:=by rw [hs.hl];exact hk
 have kb:k<S.began.length:=by rw [hs.bl];exact hk
 have other:∀ j,j<M.c.cores.toNat→j≠k→S.how.getD j 0≠0→openB M.c j d ((S.began.set k t).getD j 0)=true∧(S.began.set k t).getD j 0≤t∧(S.how.getD j 0=1→(j:Int)∈S.queue):=fun j hj hne hh=>by
  rw [getD_set_ne hne]
  exact h j hj hh
 have hb:Under M d { S with began:=S.began.set k t } t:=fun j hj hh=>by
  by_cases e:j=k
  · subst e;exact absurd h0 hh
  · exact other j hj e hh
 unfold So.begin
 by_cases c1:faultF M.c (opAt M d k S)≠0
 ·
  simp only [if_pos c1]
  intro j hj hh
  simp only at hh ⊢
  rw [getD_set kh] at hh ⊢
  by_cases e:j=k
  ·
   subst e
   rw [if_pos rfl,getD_set kb,if_pos rfl]
   exact ⟨ho,Int.le_refl _,fun h5=>by omega⟩
  ·
   rw [if_neg e] at hh ⊢
   exact other j hj e hh
 ·
  simp only [if_neg c1]
  by_cases c2:stateF M.c k ((opAt M d k S).2.1 / M.c.line) t false S.log=0∨((opAt M d k S).1=1∧stateF M.c k ((opAt M d k S).2.1 / M.c.line) t false S.log=1)
  ·
   simp only [if_pos c2]
   intro j hj hh
   simp only at hh ⊢
   rw [getD_set kh] at hh ⊢
   by_cases e:j=k
   ·
    subst e
    rw [if_pos rfl,getD_set kb,if_pos rfl]
    exact ⟨ho,Int.le_refl _,fun _=>List.mem_append.2 (Or.inr (by simp))⟩
   ·
    rw [if_neg e] at hh ⊢
    obtain ⟨a1,a2,a3⟩:=other j hj e hh
    exact ⟨a1,a2,fun h5=>List.mem_append.2 (Or.inl (a3 h5))⟩
  ·
   simp only [if_neg c2]
   by_cases c3:(opAt M d k S).1=1
   ·
    simp only [if_pos c3]
    exact Under.done hb rfl rfl (fun _ hq _=>hq) kh
   ·
    simp only [if_neg c3]
    exact Under.done hb rfl rfl (fun _ hq _=>hq) kh
theorem under_works {M:MDat}{d:Nat}{S:So}{B k:Nat}{t:Int}(hs:SoOk M d S B)(hk:k<M.c.cores.toNat)(h:Under M d S t):Under M d (So.works M d k S t) t:=by
 unfold So.works
 by_cases c1:S.how.getD k 0=2∧t=S.began.getD k 0+2
 ·
  rw [if_pos c1]
  exact Under.done h rfl rfl (fun _ hq _=>hq) (by rw [hs.hl];exact hk)
 ·
  rw [if_neg c1]
  by_cases c2:S.how.getD k 0≠0∨t<S.free.getD k 0∨((progF M d k).length:Int)≤S.next.getD k 0∨openB M.c k d t=false
  · rw [if_pos c2];exact h
  ·
   rw [if_neg c2]
   refine under_begin hs hk (by omega) ?_ h
   cases ho:openB M.c k d t with
   | true=>rfl
   | false=>exact absurd (Or.inr (Or.inr (Or.inr ho))) c2
theorem under_worksAll {M:MDat}{d:Nat}{t:Int}(hc:chk M.c=0)(t0:0≤t)(t1:t≤10000):∀ (n j:Nat) {S:So} {B:Nat},SoOk M d S B→j+n≤M.c.cores.toNat→Under M d S t→Under M d (So.worksAll M d t n j S) t
 | 0,_,_,_,_,_,h=>h
 | n+1,j,S,B,hs,hj,h=>under_worksAll hc t0 t1 n (j+1) (hs.works hc (by omega:j<_) t0 t1) (by omega) (under_works hs (by omega) h)
theorem under_upto {M:MDat}{d:Nat}(hc:chk M.c=0):∀ (T:Nat),T≤10000→Under M d (So.upto M d T) T
 | 0,_=>fun k _ h=>by
  have z:(List.replicate M.c.cores.toNat (0:Int)).getD k 0=0:=by
   rw [List.getD_eq_getElem?_getD,List.getElem?_replicate];split <;> rfl
  exact absurd z h
 | t+1,h=>by
  have hs:=SoOk.upto (M:=M) (d:=d) hc t (by omega)
  have h1:=under_service (t:=(t:Int)) hs (under_upto hc t (by omega))
  have h2:=under_worksAll hc (by omega) (by omega) M.c.cores.toNat 0 (hs.service hc (by omega) (by omega)) (by omega) h1
  exact h2.mono (by omega)
theorem under_turn {M:MDat}{d T k:Nat}(hc:chk M.c=0)(hd:(d:Int)<M.c.domains)(hT:T≤10000)(hk:k<M.c.cores.toNat)(hh:(So.upto M d T).how.getD k 0≠0) :
  (T:Int)≤(So.upto M d T).began.getD k 0+worstZ M.c∧turnIs M.c k d ((T:Int) / M.c.quantum)=true∧(T:Int)%M.c.quantum<M.c.quantum-M.c.flush:=by
 obtain ⟨u1,u2,u3⟩:=under_upto (d:=d) hc T hT k hk hh
 have hs:=SoOk.upto (M:=M) (d:=d) hc T hT
 have R:=right_of hc
 have w0:=R.w0
 have q1:=R.q1
 have f1:=R.f1
 have hw3:3≤worstZ M.c:=by
  rw [worst_per]
  have:=per_pos hc
  have:=Int.mul_le_mul (show (3:Int)≤3*M.c.cores by have:=R.c1;omega) (per_pos hc) (by omega) (by have:=R.c1;omega)
  omega
 have hle:(T:Int)≤(So.upto M d T).began.getD k 0+worstZ M.c:=by
  rcases hs.hw k hk with e|⟨e|e,_⟩
  · exact absurd e hh
  ·
   obtain ⟨p,hp,hpe⟩:=List.getElem_of_mem (u3 e)
   have hp2:(So.upto M d T).queue[p]? = some (k:Int):=by rw [List.getElem?_eq_getElem hp,hpe]
   have:=due_upto hc hd T hT p k hp2
   obtain ⟨w1,_,_⟩:=wait_bd (d:=d) (t:=(T:Int)) hc hd (by omega)
   have p1:=per_pos hc
   have n1:=need_pos (M:=M) (d:=d) (S:=So.upto M d T) (fun e=>by rw [e] at hp;simp at hp)
   have m1:0≤(3*(p:Int)+needF M d (So.upto M d T)-1)*perZ M.c:=Int.mul_nonneg (by omega) (by omega)
   omega
  ·
   have:=fail_upto (d:=d) hc T hT k hk e
   omega
 have hb0:=(hs.bg k hk).1
 generalize (So.upto M d T).began.getD k 0=b at *
 have o1:=open_turn u1
 have o2:b%M.c.quantum<M.c.quantum-M.c.flush-worstZ M.c:=by
  unfold openB at u1
  simp only [Bool.and_eq_true,decide_eq_true_eq] at u1
  exact u1.2
 have e1:=Int.mul_ediv_add_emod b M.c.quantum
 have s0:=Int.emod_nonneg b (show M.c.quantum≠0 by omega)
 have l1:(T:Int) / M.c.quantum=b / M.c.quantum:=by
  refine Int.le_antisymm ?_ (Int.ediv_le_ediv (by omega) u2)
  have:(T:Int)<(b / M.c.quantum+1)*M.c.quantum:=by
   rw [Int.add_mul,Int.one_mul,Int.mul_comm]
   omega
  have:=Int.ediv_lt_of_lt_mul (show 0<M.c.quantum by omega) this
  omega
 have e2:=Int.mul_ediv_add_emod (T:Int) M.c.quantum
 rw [l1] at e2
 refine ⟨hle,by rw [l1];exact o1.1,by omega⟩
def seenF (k:Nat)(evs:List Ev):Nat:=(evs.filter fun e=>e.core==(k:Int)).length
def opOf (M:MDat)(d:Nat)(e:Ev):OpT:=(progF M d e.core.toNat).getD e.index.toNat (0,0,0)
def updF (c:Cf)(o:OpT)(g:Int→Int):Int→Int:=fun a=>if faultF c o=0∧o.1=1∧o.2.1=a then o.2.2 else g a
def replay (M:MDat)(d:Nat)(evs:List Ev):Int→Int:=evs.foldl (fun g e=>updF M.c (opOf M d e) g) (firstF0 M d)
def GoodEv (M:MDat)(d:Nat)(evs:List Ev)(e:Ev):Prop:=
 ∃ k:Nat,e.core=k∧k<M.c.cores.toNat∧e.index=seenF k evs∧seenF k evs<(progF M d k).length∧
  (faultF M.c (opOf M d e)≠0→e.fault=faultF M.c (opOf M d e)∧e.value=0)∧
  (faultF M.c (opOf M d e)=0→e.fault=0∧e.value=if (opOf M d e).1=1 then (opOf M d e).2.2 else replay M d evs (opOf M d e).2.1)
inductive ReadOk (M:MDat) (d:Nat):List Ev→Prop
 | nil:ReadOk M d []
 | snoc {evs:List Ev} {e:Ev}:ReadOk M d evs→GoodEv M d evs e→ReadOk M d (evs++[e])
structure BookOk (M:MDat)(d:Nat)(S:So):Prop where
 read:ReadOk M d S.evs
 next:∀ k,k<M.c.cores.toNat→S.next.getD k 0=seenF k S.evs
 word:∀ a,wordF a (firstF0 M d a) S.log=replay M d S.evs a
theorem seen_snoc (k:Nat)(evs:List Ev)(e:Ev):seenF k (evs++[e])=seenF k evs+if e.core=(k:Int) then 1 else 0:=by
 unfold seenF
 rw [List.filter_append,List.length_append]
 by_cases h:e.core=(k:Int)
 · simp [h]
 · simp [h]
theorem replay_snoc (M:MDat)(d:Nat)(evs:List Ev)(e:Ev):replay M d (evs++[e])=updF M.c (opOf M d e) (replay M d evs):=by
 unfold replay
 rw [List.foldl_append]
 rfl
theorem book_done {M:MDat}{d:Nat}{S S':So}{B k:Nat}{t v f:Int}(h:BookOk M d S)(hs:SoOk M d S B)(hk:k<M.c.cores.toNat)(hn:S.next.getD k 0<(progF M d k).length)
  (e1:S'.evs=S.evs) (e2:S'.next=S.next) (hw:∀ a,wordF a (firstF0 M d a) S'.log=updF M.c (opAt M d k S) (replay M d S.evs) a)
  (hf:faultF M.c (opAt M d k S)≠0→f=faultF M.c (opAt M d k S)∧v=0) (hv:faultF M.c (opAt M d k S)=0→f=0∧v=if (opAt M d k S).1=1 then (opAt M d k S).2.2 else replay M d S.evs (opAt M d k S).2.1) :
  BookOk M d (S'.done k t v f):=by
 have hnx:=h.next k hk
 have ev:(S'.done k t v f).evs=S.evs++[⟨k,S.next.getD k 0,v,f,S'.began.getD k 0,t⟩]:=by
  show S'.evs++[⟨k,S'.next.getD k 0,v,f,S'.began.getD k 0,t⟩]=_
  rw [e1,e2]
 have op:opOf M d ⟨k,S.next.getD k 0,v,f,S'.began.getD k 0,t⟩=opAt M d k S:=by
  unfold opOf opAt
  simp only [Int.toNat_natCast]
 refine ⟨?_,fun j hj=>?_,fun a=>?_⟩
 ·
  rw [ev]
  refine ReadOk.snoc h.read ⟨k,rfl,hk,?_,by omega,?_,?_⟩
  · exact hnx
  · rw [op];exact hf
  · rw [op];exact hv
 ·
  rw [ev,seen_snoc]
  show (S'.next.set k (S'.next.getD k 0+1)).getD j 0=_
  rw [e2,getD_set (by rw [hs.nl];exact hk)]
  by_cases g:j=k
  ·
   subst g
   rw [if_pos rfl,if_pos rfl]
   omega
  ·
   rw [if_neg g,if_neg (fun hh=>g (by simp only at hh;omega)),h.next j hj]
   omega
 ·
  rw [ev,replay_snoc,op]
  exact hw a
theorem word_other {a i:Int}{e:Ent}{log:List Ent}(h:e.what≠4):wordF a i (e::log)=wordF a i log:=by
 conv=>lhs;unfold wordF
 rw [if_neg (by simp [h])]
theorem BookOk.told {M:MDat}{d:Nat}{S:So}{e:Ent}(h:BookOk M d S)(he:e.what≠4):BookOk M d (S.told e):=
 ⟨h.read,h.next,fun a=>(word_other he).trans (h.word a)⟩
theorem upd_load {c:Cf}{o:OpT}{g:Int→Int}{a:Int}(h:faultF c o≠0∨o.1≠1):updF c o g a=g a:=by
 unfold updF
 rw [if_neg (fun hh=>by rcases h with h | h;exact h hh.1;exact h hh.2.1)]
theorem word_stored {M:MDat}{d:Nat}{S:So}{a:Int}{t core x way oad ovl:Int}{log:List Ent}{o:OpT}(h:wordF a (firstF0 M d a) log=replay M d S.evs a)(ho:o=(1,oad,ovl))(hf:faultF M.c o=0) :
  wordF a (firstF0 M d a) (⟨t,4,core,x,way,false,false,oad,ovl⟩::log)=updF M.c o (replay M d S.evs) a:=by
 subst ho
 unfold updF
 conv=>lhs;unfold wordF
 by_cases g:oad=a
 · rw [if_pos (by simp [g]),if_pos ⟨hf,rfl,g⟩]
 ·
  rw [if_neg (by simp [g]),if_neg (fun hh=>g hh.2.2)]
  exact h
theorem book_serve {M:MDat}{d:Nat}{S:So}{B:Nat}{t:Int}(hs:SoOk M d S B)(h:BookOk M d S):BookOk M d (So.serve M d S t):=by
 cases hq:S.queue with
 | nil=>
  have:So.serve M d S t=S:=by unfold So.serve;rw [hq]
  rw [this];exact h
 | cons q r=>
  obtain ⟨k,rfl,hk,hk1⟩:=hs.qu q (by rw [hq];exact List.mem_cons_self ..)
  have hf:=hs.w1 k hk hk1
  have hn:S.next.getD k 0<(progF M d k).length:=by rcases hs.hw k hk with e | e <;> omega
  rcases ho:opAt M d k S with ⟨okd,oad,ovl⟩
  rw [ho] at hf
  by_cases hw:0≤whereF (oad / M.c.line) S.log
  ·
   by_cases hkd:okd=1
   ·
    subst hkd
    rw [serve_store hq ho rfl hw]
    refine book_done h hs hk hn rfl rfl (fun a=>?_) (fun hh=>by rw [ho] at hh;exact absurd hf hh) (fun _=>by rw [ho];exact ⟨rfl,by simp⟩)
    rw [ho]
    exact word_stored (S:=S) (by show wordF a _ (_::S.log)=_;rw [word_other (by simp)];exact h.word a) rfl hf
   ·
    rw [serve_load hq ho hkd rfl hw]
    refine book_done h hs hk hn rfl rfl (fun a=>?_) (fun hh=>by rw [ho] at hh;exact absurd hf hh) (fun _=>by
     rw [ho]
     refine ⟨rfl,?_⟩
     simp only
     rw [if_neg hkd,word_other (by simp),h.word])
    rw [ho,upd_load (Or.inr hkd)]
    show wordF a _ (_::S.log)=_
    rw [word_other (by simp)]
    exact h.word a
  ·
   obtain ⟨way,hcw⟩:∃ way,chosenF M.c (M.c.ways.count (d:Int)) (oad / M.c.line%M.c.sets) S.log=way:=⟨_,rfl⟩
   obtain ⟨y,hy⟩:∃ y,liesF M.c (oad / M.c.line%M.c.sets) way S.log=y:=⟨_,rfl⟩
   by_cases h0:0≤y
   ·
    cases hm:markedF y S.log with
    | true=>rw [serve_gone hq ho rfl hw hcw hy h0 hm];exact h.told (by simp)
    | false=>rw [serve_both hq ho rfl hw hcw hy h0 hm];exact (h.told (by simp)).told (by simp)
   · rw [serve_fill hq ho rfl hw hcw hy h0];exact h.told (by simp)
theorem book_service {M:MDat}{d:Nat}{S:So}{B:Nat}{t:Int}(hs:SoOk M d S B)(h:BookOk M d S):BookOk M d (So.service M d S t):=by
 unfold So.service
 by_cases c1:servesB M.c d t=true
 · rw [if_pos c1];exact book_serve hs h
 · rw [if_neg c1];exact h
theorem book_begin {M:MDat}{d:Nat}{S:So}{B k:Nat}{t:Int}(hs:SoOk M d S B)(hk:k<M.c.cores.toNat)(hn:S.next.getD k 0<(progF M d k).length)(h:BookOk M d S):BookOk M d (So.begin M d k S t):=by
 rcases ho:opAt M d k S with ⟨okd,oad,ovl⟩
 unfold So.begin
 by_cases c1:faultF M.c (opAt M d k S)≠0
 ·
  simp only [if_pos c1]
  exact ⟨h.read,h.next,h.word⟩
 ·
  simp only [if_neg c1]
  have hf:faultF M.c (opAt M d k S)=0:=by omega
  by_cases c2:stateF M.c k ((opAt M d k S).2.1 / M.c.line) t false S.log=0∨((opAt M d k S).1=1∧stateF M.c k ((opAt M d k S).2.1 / M.c.line) t false S.log=1)
  ·
   simp only [if_pos c2]
   exact ⟨h.read,h.next,h.word⟩
  ·
   simp only [if_neg c2]
   by_cases c3:(opAt M d k S).1=1
   ·
    simp only [if_pos c3]
    refine book_done h hs hk hn rfl rfl (fun a=>?_) (fun hh=>absurd hf hh) (fun _=>⟨rfl,by rw [if_pos c3]⟩)
    rw [ho] at c3 hf ⊢
    simp only at c3
    subst c3
    exact word_stored (S:=S) (h.word a) rfl hf
   ·
    simp only [if_neg c3]
    refine book_done h hs hk hn rfl rfl (fun a=>?_) (fun hh=>absurd hf hh) (fun _=>⟨rfl,by rw [if_neg c3];exact h.word _⟩)
    rw [upd_load (Or.inr c3)]
    exact h.word a
theorem book_works {M:MDat}{d:Nat}{S:So}{B k:Nat}{t:Int}(hs:SoOk M d S B)(hf2:S.how.getD k 0=2→faultF M.c (opAt M d k S)≠0)(hk:k<M.c.cores.toNat)(h:BookOk M d S):BookOk M d (So.works M d k S t):=by
 unfold So.works
 by_cases c1:S.how.getD k 0=2∧t=S.began.getD k 0+2
 ·
  rw [if_pos c1]
  have hn:S.next.getD k 0<(progF M d k).length:=by rcases hs.hw k hk with e | e <;> omega
  have hf:=hf2 c1.1
  exact book_done h hs hk hn rfl rfl (fun a=>by rw [upd_load (Or.inl hf)];exact h.word a) (fun _=>⟨rfl,rfl⟩) (fun hh=>absurd hh hf)
 ·
  rw [if_neg c1]
  by_cases c2:S.how.getD k 0≠0∨t<S.free.getD k 0∨((progF M d k).length:Int)≤S.next.getD k 0∨openB M.c k d t=false
  · rw [if_pos c2];exact h
  ·
   rw [if_neg c2]
   exact book_begin hs hk (by omega) h
def FaultOk (M:MDat)(d:Nat)(S:So):Prop:=∀ k,k<M.c.cores.toNat→S.how.getD k 0=2→faultF M.c (opAt M d k S)≠0
theorem opAt_next {M:MDat}{d j:Nat}{S S':So}(h:S'.next.getD j 0=S.next.getD j 0):opAt M d j S'=opAt M d j S:=by unfold opAt;rw [h]
theorem serve_next {M:MDat}{d:Nat}{S:So}{B j:Nat}{t:Int}(hs:SoOk M d S B)(hj:(j:Int) ∉ S.queue):(So.serve M d S t).next.getD j 0=S.next.getD j 0:=by
 unfold So.serve
 cases hq:S.queue with
 | nil=>rfl
 | cons q r=>
  obtain ⟨k,rfl,_,_⟩:=hs.qu q (by rw [hq];exact List.mem_cons_self ..)
  have e:j≠k:=fun e=>by subst e;exact hj (by rw [hq];exact List.mem_cons_self ..)
  simp only [Int.toNat_natCast]
  split
  ·
   split
   · exact getD_set_ne e
   · exact getD_set_ne e
  ·
   split
   · split <;> rfl
   · rfl
theorem fault_service {M:MDat}{d:Nat}{S:So}{B:Nat}{t:Int}(hs:SoOk M d S B)(h:FaultOk M d S):FaultOk M d (So.service M d S t):=by
 intro j hj hh
 obtain ⟨g1,_⟩:=service_how hh
 have e:(So.service M d S t).next.getD j 0=S.next.getD j 0:=by
  unfold So.service
  by_cases c1:servesB M.c d t=true
  · rw [if_pos c1];exact serve_next hs (not_waiting hs (by omega))
  · rw [if_neg c1]
 rw [opAt_next e]
 exact h j hj g1
theorem begin_next {M:MDat}{d:Nat}{S:So}{t:Int}{k j:Nat}(h:j≠k):(So.begin M d k S t).next.getD j 0=S.next.getD j 0:=by
 unfold So.begin
 by_cases c1:faultF M.c (opAt M d k S)≠0
 · simp only [if_pos c1]
 ·
  simp only [if_neg c1]
  by_cases c2:stateF M.c k ((opAt M d k S).2.1 / M.c.line) t false S.log=0∨((opAt M d k S).1=1∧stateF M.c k ((opAt M d k S).2.1 / M.c.line) t false S.log=1)
  · simp only [if_pos c2]
  ·
   simp only [if_neg c2]
   by_cases c3:(opAt M d k S).1=1
   · simp only [if_pos c3];exact getD_set_ne h
   · simp only [if_neg c3];exact getD_set_ne h
theorem works_next {M:MDat}{d:Nat}{S:So}{t:Int}{k j:Nat}(h:j≠k):(So.works M d k S t).next.getD j 0=S.next.getD j 0:=by
 unfold So.works
 by_cases c1:S.how.getD k 0=2∧t=S.began.getD k 0+2
 · rw [if_pos c1];exact getD_set_ne h
 ·
  rw [if_neg c1]
  by_cases c2:S.how.getD k 0≠0∨t<S.free.getD k 0∨((progF M d k).length:Int)≤S.next.getD k 0∨openB M.c k d t=false
  · rw [if_pos c2]
  · rw [if_neg c2];exact begin_next h
theorem begin_fault {M:MDat}{d:Nat}{S:So}{B k:Nat}{t:Int}(hs:SoOk M d S B)(hk:k<M.c.cores.toNat)(hh:(So.begin M d k S t).how.getD k 0=2):faultF M.c (opAt M d k (So.begin M d k S t))≠0:=by
 have kh:k<S.how.length:=by rw [hs.hl];exact hk
 unfold So.begin at hh ⊢
 by_cases c1:faultF M.c (opAt M d k S)≠0
 ·
  simp only [if_pos c1]
  exact c1
 ·
  simp only [if_neg c1] at hh
  exfalso
  by_cases c2:stateF M.c k ((opAt M d k S).2.1 / M.c.line) t false S.log=0∨((opAt M d k S).1=1∧stateF M.c k ((opAt M d k S).2.1 / M.c.line) t false S.log=1)
  ·
   simp only [if_pos c2] at hh
   rw [getD_set kh,if_pos rfl] at hh
   omega
  ·
   simp only [if_neg c2] at hh
   by_cases c3:(opAt M d k S).1=1
   ·
    simp only [if_pos c3] at hh
    have:(S.how.set k 0).getD k 0=2:=hh
    rw [getD_set kh,if_pos rfl] at this
    omega
   ·
    simp only [if_neg c3] at hh
    have:(S.how.set k 0).getD k 0=2:=hh
    rw [getD_set kh,if_pos rfl] at this
    omega
theorem fault_works {M:MDat}{d:Nat}{S:So}{B k:Nat}{t:Int}(hs:SoOk M d S B)(hk:k<M.c.cores.toNat)(h:FaultOk M d S):FaultOk M d (So.works M d k S t):=by
 intro j hj hh
 by_cases e:j=k
 ·
  subst e
  have kh:j<S.how.length:=by rw [hs.hl];exact hk
  unfold So.works at hh ⊢
  by_cases c1:S.how.getD j 0=2∧t=S.began.getD j 0+2
  ·
   rw [if_pos c1] at hh
   have:(S.how.set j 0).getD j 0=2:=hh
   rw [getD_set kh,if_pos rfl] at this
   omega
  ·
   rw [if_neg c1] at hh ⊢
   by_cases c2:S.how.getD j 0≠0∨t<S.free.getD j 0∨((progF M d j).length:Int)≤S.next.getD j 0∨openB M.c j d t=false
   · rw [if_pos c2] at hh ⊢;exact h j hj hh
   · rw [if_neg c2] at hh ⊢;exact begin_fault hs hk hh
 ·
  rw [opAt_next (works_next e)]
  rw [(works_other e).1] at hh
  exact h j hj hh
theorem book_worksAll {M:MDat}{d:Nat}{t:Int}(hc:chk M.c=0)(t0:0≤t)(t1:t≤10000):∀ (n j:Nat) {S:So} {B:Nat},SoOk M d S B→j+n≤M.c.cores.toNat→FaultOk M d S→BookOk M d S→FaultOk M d (So.worksAll M d t n j S)∧BookOk M d (So.worksAll M d t n j S)
 | 0,_,_,_,_,_,hf,h=>⟨hf,h⟩
 | n+1,j,S,B,hs,hj,hf,h=>book_worksAll hc t0 t1 n (j+1) (hs.works hc (by omega:j<_) t0 t1) (by omega) (fault_works hs (by omega) hf) (book_works hs (hf j (by omega)) (by omega) h)
theorem book_upto {M:MDat}{d:Nat}(hc:chk M.c=0):∀ (T:Nat),T≤10000→FaultOk M d (So.upto M d T)∧BookOk M d (So.upto M d T)
 | 0,_=>by
  have z:∀ k,(List.replicate M.c.cores.toNat (0:Int)).getD k 0=0:=fun k=>by
   rw [List.getD_eq_getElem?_getD,List.getElem?_replicate];split <;> rfl
  refine ⟨fun k _ h=>?_,ReadOk.nil,fun k _=>?_,fun a=>rfl⟩
  ·
   have:(List.replicate M.c.cores.toNat (0:Int)).getD k 0=2:=h
   rw [z] at this;omega
  ·
   show (List.replicate M.c.cores.toNat (0:Int)).getD k 0=_
   rw [z];rfl
 | t+1,h=>by
  obtain ⟨i1,i2⟩:=book_upto (M:=M) (d:=d) hc t (by omega)
  have hs:=SoOk.upto (M:=M) (d:=d) hc t (by omega)
  exact book_worksAll hc (by omega) (by omega) M.c.cores.toNat 0 (hs.service hc (by omega) (by omega)) (by omega) (fault_service hs i1) (book_service hs i2)
def freeOf (k:Nat)(evs:List Ev):Int:=evs.foldl (fun f e=>if e.core=(k:Int) then e.done+1 else f) 0
def IdleAt (M:MDat)(d:Nat)(S:So)(k:Nat)(t:Int):Prop:=
 (S.how.getD k 0=0→S.next.getD k 0<(progF M d k).length→∀ u,S.free.getD k 0≤u→u<t→openB M.c k d u=false)∧
 (S.how.getD k 0≠0→S.free.getD k 0≤S.began.getD k 0∧∀ u,S.free.getD k 0≤u→u<S.began.getD k 0→openB M.c k d u=false)
theorem IdleAt.same {M:MDat}{d k:Nat}{S S':So}{t:Int}(h:IdleAt M d S k t)(h1:S'.how.getD k 0=S.how.getD k 0)(h2:S'.next.getD k 0=S.next.getD k 0)(h3:S'.free.getD k 0=S.free.getD k 0)(h4:S'.began.getD k 0=S.began.getD k 0):IdleAt M d S' k t:=by
 unfold IdleAt
 rw [h1,h2,h3,h4]
 exact h
theorem done_all_other {S:So}{k j:Nat}{t v f:Int}(h:j≠k):(S.done k t v f).how.getD j 0=S.how.getD j 0∧(S.done k t v f).next.getD j 0=S.next.getD j 0∧(S.done k t v f).free.getD j 0=S.free.getD j 0∧(S.done k t v f).began.getD j 0=S.began.getD j 0:=
 ⟨getD_set_ne h,getD_set_ne h,getD_set_ne h,rfl⟩
theorem begin_free_other {M:MDat}{d:Nat}{S:So}{t:Int}{k j:Nat}(h:j≠k):(So.begin M d k S t).free.getD j 0=S.free.getD j 0:=by
 unfold So.begin
 by_cases c1:faultF M.c (opAt M d k S)≠0
 · simp only [if_pos c1]
 ·
  simp only [if_neg c1]
  by_cases c2:stateF M.c k ((opAt M d k S).2.1 / M.c.line) t false S.log=0∨((opAt M d k S).1=1∧stateF M.c k ((opAt M d k S).2.1 / M.c.line) t false S.log=1)
  · simp only [if_pos c2]
  ·
   simp only [if_neg c2]
   by_cases c3:(opAt M d k S).1=1
   · simp only [if_pos c3];exact getD_set_ne h
   · simp only [if_neg c3];exact getD_set_ne h
theorem works_free_other {M:MDat}{d:Nat}{S:So}{t:Int}{k j:Nat}(h:j≠k):(So.works M d k S t).free.getD j 0=S.free.getD j 0:=by
 unfold So.works
 by_cases c1:S.how.getD k 0=2∧t=S.began.getD k 0+2
 · rw [if_pos c1];exact getD_set_ne h
 ·
  rw [if_neg c1]
  by_cases c2:S.how.getD k 0≠0∨t<S.free.getD k 0∨((progF M d k).length:Int)≤S.next.getD k 0∨openB M.c k d t=false
  · rw [if_pos c2]
  · rw [if_neg c2];exact begin_free_other h
def servedB (e:Ev):Bool:=decide (e.fault=0∧e.issue<e.done)
def Behind (a b:Ev):Prop:=a.done<b.done∨(a.done=b.done∧servedB b=false∧(servedB a=true∨a.core<b.core))
structure TimedEv (M:MDat)(d:Nat)(evs:List Ev)(e:Ev):Prop where
 core:∃ k:Nat,e.core=k∧k<M.c.cores.toNat∧openB M.c k d e.issue=true∧freeOf k evs≤e.issue∧∀ u,freeOf k evs≤u→u<e.issue→openB M.c k d u=false
 order:e.issue≤e.done
 fault:e.fault≠0→e.done=e.issue+2
 plain:e.fault=0→e.done=e.issue∨(servesB M.c d e.done=true∧e.issue<e.done∧e.done≤e.issue+worstZ M.c)
 last:∀ a,evs.getLast? = some a→Behind a e
inductive TimedOk (M:MDat) (d:Nat):List Ev→Prop
 | nil:TimedOk M d []
 | snoc {evs:List Ev} {e:Ev}:TimedOk M d evs→TimedEv M d evs e→TimedOk M d (evs++[e])
structure ClockOk (M:MDat)(d:Nat)(S:So)(t:Int)(j:Nat):Prop where
 timed:TimedOk M d S.evs
 free:∀ k,k<M.c.cores.toNat→S.free.getD k 0=freeOf k S.evs
 last:∀ a,S.evs.getLast? = some a→a.done<t∨(a.done=t∧(servedB a=true∨a.core<j))
theorem ClockOk.same {M:MDat}{d:Nat}{S S':So}{t:Int}{j j':Nat}(h:ClockOk M d S t j)(h1:S'.evs=S.evs)(h2:S'.free=S.free)(hj:j≤j'):ClockOk M d S' t j':=by
 refine ⟨by rw [h1];exact h.timed,fun k hk=>by rw [h1,h2];exact h.free k hk,fun a ha=>?_⟩
 rw [h1] at ha
 rcases h.last a ha with g|⟨g1,g2⟩
 · exact Or.inl g
 ·
  refine Or.inr ⟨g1,?_⟩
  rcases g2 with g2|g2
  · exact Or.inl g2
  · right;omega
end Go.Proofs.YtehheaedbnfidaaGreat
