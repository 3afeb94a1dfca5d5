import Derived.ProofKit
import Derived.SizedLaws
import Derived.Deep.Slices
import Derived.Test.YtehheaedbnfidaaGreatClWLent8
import Derived.Test.YtehheaedbnfidaaGreatClTbl
import Derived.Test.YtehheaedbnfidaaGreatClRefN
import Derived.Test.YtehheaedbnfidaaGreatClWRefS4
set_option maxRecDepth 100000
namespace Go.Proofs.YtehheaedbnfidaaGreat
open Go.ChangeShapes Go.WideShapes Go.ChangeAt Go.RowKit Go.Deep
theorem Tryz.cellsInt:Tryz.prog.cellsOf 3=1:=by kernel_rfl
theorem Tryz.cellsInts:Tryz.prog.cellsOf 25=1:=by kernel_rfl
theorem Tryz.cellsCfg:Tryz.prog.cellsOf 43=13:=by kernel_rfl
theorem Tryz.bytesInt:Tryz.prog.bytesOf 3=8:=by kernel_rfl
theorem Tryz.bytesInts:Tryz.prog.bytesOf 25=24:=by kernel_rfl
theorem Tryz.bytesCfg:Tryz.prog.bytesOf 43=152:=by kernel_rfl
def Sized {H:Type}(P:Program)(t:TypeId)(d:DataW H):Prop:=∀ n∈d.weights P t,n≤reachBytes
theorem weightsAll_mem {H:Type}{P:Program}{e:TypeId}{d:DataW H}{n:Nat}:∀ {l:List (DataW H)},d∈l→n∈d.weights P e→n∈DataW.weightsAll P e l
 | [],h,_=>by simp at h
 | x::r,h,hn=>by
  simp only [DataW.weightsAll,List.mem_append]
  rcases List.mem_cons.1 h with rfl|h
  · exact Or.inl hn
  · exact Or.inr (weightsAll_mem h hn)
theorem Sized.slice {H:Type}{P:Program}{t e:TypeId}{elems spare:List (DataW H)}(hu:P.underlying t=some (.slice e))(h:Sized P t (.slice elems spare)) :
  (elems.length+spare.length)*P.bytesOf e≤reachBytes∧∀ d∈elems,Sized P e d:=by
 refine ⟨h _ (by simp [DataW.weights,hu]),fun d hd n hn=>h n ?_⟩
 simp only [DataW.weights,hu,List.mem_cons,List.mem_append]
 exact Or.inr (Or.inl (weightsAll_mem hd hn))
theorem Sized.agg {H:Type}{P:Program}{t:TypeId}{fs:Array Field}{parts:List (DataW H)}(hu:P.underlying t=some (.struct fs))(h:Sized P t (.agg parts)){j:Nat}{u:TypeId}{d:DataW H}
  (hf:(fs.toList.map (·.type))[j]? = some u) (hd:parts[j]? = some d):Sized P u d:=by
 intro n hn
 refine h n ?_
 simp only [DataW.weights,hu]
 exact DataW.weights_mem_each hf hd n hn
section
variable {H:Type} {enc:TypeId × Value→H} {W:World}
theorem read_ints {n:Nat}{v:Value}{y:DataW H × List MemPlace}(h:DataW.trod enc Tryz.prog W 0 (fun _=>true) true n 25 [v]=some y)(hz:Sized Tryz.prog 25 y.1) :
  ∃ sa len cap xs,v = .slice sa len cap∧Ints W sa len cap xs∧xs.length*8≤140737488351232:=by
 rcases open_ints Tryz.underlying25 Tryz.underlying3 Tryz.cellsInt h with ⟨hcs,hx⟩|⟨a,len,cap,zs,hcs,_,hl,hm,hzl,hx,hcell,hwz⟩
 ·
  simp only [List.cons.injEq,and_true] at hcs
  subst hcs
  exact ⟨none,0,0,[],rfl,⟨rfl,Nat.le_refl _,by unfold maxLen;omega,fun _=>rfl,fun i hi=>absurd hi (Nat.not_lt_zero _)⟩,by simp⟩
 ·
  simp only [List.cons.injEq,and_true] at hcs
  subst hcs
  simp only [if_true] at hzl
  subst hx
  have hs:=(Sized.slice Tryz.underlying25 hz).1
  rw [Tryz.bytesInt] at hs
  simp only [lits,List.length_map,List.length_take,List.length_drop,reachBytes] at hs
  refine ⟨some a,len,cap,zs.take len,rfl,⟨by simp;omega,hl,hm,(fun h=>by cases h),fun i hi=>?_⟩,by simp;omega⟩
  have hc:=hcell i (by omega)
  obtain ⟨b,off,spot⟩:=a
  have hspot:spot=none:=by simpa [Addr.add] using World.cell?_spot (hcell 0 (by omega))
  subst hspot
  refine ⟨b,off,rfl,?_⟩
  rw [add_plain'] at hc
  rw [hc]
  simp [List.getD,hi]
theorem read_grid {n:Nat}{v:Value}{y:DataW H × List MemPlace}(h:DataW.trod enc Tryz.prog W 0 (fun _=>true) true n 41 [v]=some y)(hz:Sized Tryz.prog 41 y.1) :
  ∃ sa len cap xss,v = .slice sa len cap∧Grid W sa len cap xss∧xss.length*24≤140737488351232∧∀ i,i<xss.length→(xss.getD i []).length*8≤140737488351232:=by
 rcases open_slice1 Tryz.underlying41 Tryz.cellsInts h with ⟨hcs,hx⟩|⟨a,len,cap,m,n',V,D,Pl,hcs,_,hl,hm,hmm,hx,hV⟩
 ·
  simp only [List.cons.injEq,and_true] at hcs
  subst hcs
  exact ⟨none,0,0,[],rfl,⟨rfl,Nat.le_refl _,by unfold maxLen;omega,fun _=>rfl,fun i hi=>absurd hi (Nat.not_lt_zero _)⟩,by simp,fun i hi=>absurd hi (Nat.not_lt_zero _)⟩
 ·
  simp only [List.cons.injEq,and_true] at hcs
  subst hcs
  simp only [if_true] at hmm
  subst hmm
  subst hx
  obtain ⟨hs,hse⟩:=Sized.slice Tryz.underlying41 hz
  rw [Tryz.bytesInts] at hs
  simp only [List.length_map,List.length_range,reachBytes] at hs
  have each:∀ i,i<len→∃ x:Option Addr × Nat × Nat × List Int,V i = .slice x.1 x.2.1 x.2.2.1∧Ints W x.1 x.2.1 x.2.2.1 x.2.2.2∧x.2.2.2.length*8≤140737488351232:=by
   intro i hi
   obtain ⟨_,ht⟩:=hV i (by omega)
   obtain ⟨sa,l,c,xs,h1,h2,h3⟩:=read_ints ht (hse (D i) (List.mem_map.2 ⟨i,List.mem_range.2 hi,rfl⟩))
   exact ⟨(sa,l,c,xs),h1,h2,h3⟩
  obtain ⟨F,hF⟩:=choose_lt (α:=Option Addr × Nat × Nat × List Int) (p:=fun i x=>V i = .slice x.1 x.2.1 x.2.2.1∧Ints W x.1 x.2.1 x.2.2.1 x.2.2.2∧x.2.2.2.length*8≤140737488351232) each
  have hget:∀ i,i<len→((List.range len).map fun i=>(F i).2.2.2).getD i []=(F i).2.2.2:=by
   intro i hi
   simp [List.getD,hi]
  refine ⟨some a,len,_,(List.range len).map fun i=>(F i).2.2.2,rfl,⟨by simp,hl,hm,(fun h=>by cases h),fun i hi=>?_⟩,by simp;omega,fun i hi=>?_⟩
  ·
   obtain ⟨hc,_⟩:=hV i (by omega)
   have hc0:=(hV 0 (by omega)).1
   obtain ⟨b,off,spot⟩:=a
   have hspot:spot=none:=by simpa [Addr.add] using World.cell?_spot hc0
   subst hspot
   obtain ⟨e1,e2,_⟩:=hF i hi
   refine ⟨b,off,(F i).1,(F i).2.1,(F i).2.2.1,rfl,?_,?_⟩
   ·
    rw [add_plain'] at hc
    rw [hc,e1]
   · rw [hget i hi];exact e2
  ·
   have hi':i<len:=by simpa using hi
   rw [hget i hi']
   exact (hF i hi').2.2
theorem wf_bounds {x:Int}(h:(Lit.int .i64 x).wf=true):-9223372036854775808≤x∧x≤9223372036854775807:=by
 have h1:IntKind.i64.min=-9223372036854775808:=rfl
 have h2:IntKind.i64.max=9223372036854775807:=rfl
 simp only [Lit.wf,Bool.and_eq_true,decide_eq_true_eq] at h
 omega
theorem read_int {n:Nat}{v:Value}{y:DataW H × List MemPlace}(h:DataW.trod enc Tryz.prog W 0 (fun _=>true) true n 3 [v]=some y) :
  ∃ x,v = .int .i64 x∧-9223372036854775808≤x∧x≤9223372036854775807:=by
 obtain ⟨x,e,_,hw⟩:=DataW.trod_int Tryz.underlying3 h
 simp only [List.cons.injEq,and_true] at e
 exact ⟨x,e,wf_bounds hw⟩
theorem read_cfg {n:Nat}{cs:List Value}{y:DataW H × List MemPlace}(h:DataW.trod enc Tryz.prog W 0 (fun _=>true) true n 43 cs=some y)(hz:Sized Tryz.prog 43 y.1) :
  ∃ c s,cs=cfgL c s∧CfgAt W c s∧CfR c:=by
 obtain ⟨xs,m,_,hy,hlen,hxl,hf⟩:=DataW.trod_struct Tryz.underlying43 h
 rw [Tryz.cellsCfg] at hlen
 have hxl':xs.length=13:=hxl
 match cs,hlen,xs,hxl' with
 | [c0,c1,c2,c3,c4,c5,c6,c7,c8,c9,c10,c11,c12],_,[y0,y1,y2,y3,y4,y5,y6,y7,y8,y9,y10,y11,y12],_=>
  have t0:=hf 0 _ rfl
  have t1:=hf 1 _ rfl
  have t2:=hf 2 _ rfl
  have t3:=hf 3 _ rfl
  have t4:=hf 4 _ rfl
  have t5:=hf 5 _ rfl
  have t6:=hf 6 _ rfl
  have t7:=hf 7 _ rfl
  have t8:=hf 8 _ rfl
  have t9:=hf 9 _ rfl
  have t10:=hf 10 _ rfl
  have t11:=hf 11 _ rfl
  have t12:=hf 12 _ rfl
  simp only [List.getElem?_cons_zero,List.getElem?_cons_succ] at t0 t1 t2 t3 t4 t5 t6 t7 t8 t9 t10 t11 t12
  subst hy
  have z7:Sized Tryz.prog 25 y7.1:=hz.agg Tryz.underlying43 (j:=7) rfl rfl
  have z9:Sized Tryz.prog 25 y9.1:=hz.agg Tryz.underlying43 (j:=9) rfl rfl
  have z10:Sized Tryz.prog 41 y10.1:=hz.agg Tryz.underlying43 (j:=10) rfl rfl
  obtain ⟨x0,rfl,_⟩:=read_int t0
  obtain ⟨x1,rfl,_⟩:=read_int t1
  obtain ⟨x2,rfl,_⟩:=read_int t2
  obtain ⟨x3,rfl,_⟩:=read_int t3
  obtain ⟨x4,rfl,_⟩:=read_int t4
  obtain ⟨x5,rfl,_⟩:=read_int t5
  obtain ⟨x6,rfl,_⟩:=read_int t6
  obtain ⟨x8,rfl,_⟩:=read_int t8
  obtain ⟨x11,rfl,_⟩:=read_int t11
  obtain ⟨x12,rfl,_⟩:=read_int t12
  obtain ⟨wa,wl,wc,ways,rfl,h7,r7⟩:=read_ints t7 z7
  obtain ⟨sa,sl,sc,slots,rfl,h9,r9⟩:=read_ints t9 z9
  obtain ⟨ta,tl,tc,turns,rfl,h10,r10,e10⟩:=read_grid t10 z10
  exact ⟨⟨x0,x1,x2,x3,x4,x5,x6,ways,x8,slots,turns,x11,x12⟩,⟨wa,wl,wc,sa,sl,sc,ta,tl,tc⟩,rfl,⟨h7,h9,h10⟩,⟨r7,r9,r10,e10⟩⟩
end
end Go.Proofs.YtehheaedbnfidaaGreat
namespace Go.Proofs.YtehheaedbnfidaaGreat
open Go.RowKit
structure XLoc where
 g:Nat
 s:Sl
 e:ELoc
 n:NLoc
 dm:Nat
 dc:Nat
 ck:Nat
 P:Nat→Nat
 oa:Nat→Nat→Option Addr
 f:Nat→FLoc
 wa:Nat→Option Addr
 wl:Nat→Nat
 wc:Nat→Nat
 ta:Nat→Option Addr
 tl:Nat→Nat
 tc:Nat→Nat
 lab:Nat→Option (Nat × Nat)
abbrev mchL (N:Cn)(X:XLoc)(now:Int):List Value:=
 [.int .i64 N.c.cores,.int .i64 N.c.domains,.int .i64 N.c.line,.int .i64 N.c.priv,.int .i64 N.c.shared,.int .i64 N.c.near,.int .i64 N.c.sets,.slice X.s.wa X.s.wl X.s.wc,.int .i64 N.c.slot,.slice X.s.sa X.s.sl X.s.sc,.slice X.s.ta X.s.tl X.s.tc,.int .i64 N.c.quantum,.int .i64 N.c.flush,
 .int .i64 now,.int .i64 N.ln,.slice (some ⟨X.e.r,0,none⟩) N.nd X.e.rc,.slice X.e.sa N.sn X.e.sc,.slice (some ⟨X.n.r,0,none⟩) N.nc X.n.rc,.slice (some ⟨X.dm,0,none⟩) N.nd X.dc,.slice (some ⟨X.ck,0,none⟩) N.nc N.nc]
def domV (N:Cn)(X:XLoc)(d i:Nat):Value:=
 if i=0 then .slice (some ⟨X.P d,0,none⟩) N.nc N.nc else if i=1 then .slice (some ⟨(X.f d).r,0,none⟩) N.ns (X.f d).rc else if i=2 then .slice (X.wa d) (X.wl d) (X.wc d) else .slice (X.ta d) (X.tl d) (X.tc d)
def prgV (X:XLoc)(m:Mh)(d k i:Nat):Value:=if i=0 then .slice (X.oa d k) (m.ops d k).length (m.ops d k).length else .int .i64 (m.dn d k)
def wkV (k:Wk)(i:Nat):Value:=if i=0 then .bool k.busy else if i=1 then .int .i64 k.dom else .int .i64 k.issue
abbrev opL (o:OpT):List Value:=[.int .i64 o.1,.int .i64 o.2.1,.int .i64 o.2.2]
abbrev eventL (e:Ev):List Value:=[.int .i64 e.core,.int .i64 e.index,.int .i64 e.value,.int .i64 e.fault,.int .i64 e.issue,.int .i64 e.done]
def QM (w:World)(sa:Option Addr)(len cap:Nat)(q:List Int):Prop:=
 len=q.length∧((sa=none∧cap=0∧q=[])∨∃ (g off:Nat) (cur:List Value),sa=some ⟨g,off,none⟩∧Row w g cur 3∧len≤cap∧cap≤maxLen∧off+cap≤cur.length∧∀ i,i<len→cur[off+i]? = some (.int .i64 (q.getD i 0)))
def CfgB (s:Sl)(w:World)(b:Nat):Prop:=
 (∃ off,s.wa=some ⟨b,off,none⟩)∨(∃ off,s.sa=some ⟨b,off,none⟩)∨(∃ off,s.ta=some ⟨b,off,none⟩)∨
 ∃ (i tb toff off il ic:Nat),i<s.tl∧s.ta=some ⟨tb,toff,none⟩∧w.cell? ⟨tb,toff+i,none⟩=some (.slice (some ⟨b,off,none⟩) il ic)
theorem CfgAt.same {w w':World}{c:Cf}{s:Sl}(h:CfgAt w c s)(hs:∀ b,CfgB s w b→w'.heap[b]? = w.heap[b]?):CfgAt w' c s∧∀ b,CfgB s w' b→CfgB s w b:=by
 have hc:∀ b off i,s.ta=some ⟨b,off,none⟩→w'.cell? ⟨b,off+i,none⟩=w.cell? ⟨b,off+i,none⟩:=fun b off i e=>by
  simp only [World.cell?];rw [hs b (Or.inr (Or.inr (Or.inl ⟨off,e⟩)))]
 refine ⟨⟨h.ways.same fun b off e=>hs b (Or.inl ⟨off,e⟩),h.slots.same fun b off e=>hs b (Or.inr (Or.inl ⟨off,e⟩)),⟨h.turns.hlen,h.turns.hle,h.turns.hmax,h.turns.hnil,fun i hi=>?_⟩⟩,?_⟩
 ·
  obtain ⟨b,off,ia,il,ic,h1,h2,h3⟩:=h.turns.hat i hi
  refine ⟨b,off,ia,il,ic,h1,(hc b off i h1).trans h2,h3.same fun b2 off2 e2=>hs b2 (Or.inr (Or.inr (Or.inr ⟨i,b,off,off2,il,ic,hi,h1,by rw [h2,e2]⟩)))⟩
 ·
  rintro b (h1 | h1 | h1 | ⟨i,tb,toff,off,il,ic,h1,h2,h3⟩)
  · exact Or.inl h1
  · exact Or.inr (Or.inl h1)
  · exact Or.inr (Or.inr (Or.inl h1))
  · exact Or.inr (Or.inr (Or.inr ⟨i,tb,toff,off,il,ic,h1,h2,by rw [← hc tb toff i h2];exact h3⟩))
structure Labs (w:World)(N:Cn)(X:XLoc):Prop where
 lt:∀ b,X.lab b≠none→b<w.heap.size
 g:X.lab X.g=some (0,0)
 cf:∀ b,CfgB X.s w b→X.lab b=some (1,0)
 er:X.lab X.e.r=some (2,0)
 eo:∀ b,X.e.own N.nd b→X.lab b=some (3,0)
 nr:X.lab X.n.r=some (4,0)
 no:∀ b,X.n.own N.nc b→X.lab b=some (5,0)
 dm:X.lab X.dm=some (6,0)
 ck:X.lab X.ck=some (7,0)
 P:∀ d,d<N.nd→X.lab (X.P d)=some (8,d)
 O:∀ d k,d<N.nd→k<N.nc→∀ b off,X.oa d k=some ⟨b,off,none⟩→X.lab b=some (9,0)
 fo:∀ d,d<N.nd→∀ b,(X.f d).own N.ns b→X.lab b=some (10,d)
 fi:∀ d,d<N.nd→∀ b,(X.f d).ints N.ns b→X.lab b=some (11,d)
 wt:∀ d,d<N.nd→∀ b off,X.wa d=some ⟨b,off,none⟩→X.lab b=some (12,d)
 tr:∀ d,d<N.nd→∀ b off,X.ta d=some ⟨b,off,none⟩→X.lab b=some (13,d)
structure MachM (w:World)(N:Cn)(X:XLoc)(m:Mh):Prop where
 nok:N=cnOf N.c
 right:chk N.c=0
 now0:0≤m.now
 now1:m.now≤10000
 row:Row w X.g (mchL N X m.now) 100
 cfg:CfgAt w N.c X.s
 mem:MemM w N.nd N.pv N.sn X.e m.own m.sh
 near:NearM w N.nc N.nn X.n m.nr
 dom:Cells w X.dm (N.nd*4) 144 (fun i=>domV N X (i / 4) (i%4))
 dcap:N.nd≤X.dc∧X.dc≤maxLen
 prg:∀ d,d<N.nd→Cells w (X.P d) (N.nc*2) 161 (fun i=>prgV X m d (i / 2) (i%2))
 ops:∀ d k,d<N.nd→k<N.nc→(m.ops d k=[]∧X.oa d k=none)∨∃ gO,X.oa d k=some ⟨gO,0,none⟩∧Row w gO ((m.ops d k).flatMap opL) 69
 far:∀ d,d<N.nd→FarM w N.ns (N.wn d) (X.f d) (m.blk d) (m.tch d)
 wait:∀ d,d<N.nd→QM w (X.wa d) (X.wl d) (X.wc d) (m.wt d)
 trc:∀ d,d<N.nd→X.tl d=(m.tr d).length∧w.ownsRow 0 58 6 (.slice (X.ta d) (X.tl d) (X.tc d)) (m.tr d).length ((m.tr d).flatMap eventL)
 wks:Cells w X.ck (N.nc*3) 182 (fun i=>wkV (m.wk (i / 3)) (i%3))
 labs:Labs w N X
theorem QM.same {w w':World}{sa:Option Addr}{len cap:Nat}{q:List Int}(h:QM w sa len cap q)(hs:∀ b off,sa=some ⟨b,off,none⟩→w'.heap[b]? = w.heap[b]?):QM w' sa len cap q:=by
 obtain ⟨h1,h2⟩:=h
 refine ⟨h1,?_⟩
 rcases h2 with h2|⟨g,off,cur,a1,a2,r⟩
 · exact Or.inl h2
 · exact Or.inr ⟨g,off,cur,a1,a2.same (hs g off a1),r⟩
structure Kin (w':World)(N:Cn)(X:XLoc)(m:Mh)(K:Nat × Nat→Prop):Prop where
 row:¬K (0,0)→Row w' X.g (mchL N X m.now) 100
 cfg:¬K (1,0)→CfgAt w' N.c X.s∧∀ b,CfgB X.s w' b→X.lab b=some (1,0)
 mem:¬K (2,0)→¬K (3,0)→MemM w' N.nd N.pv N.sn X.e m.own m.sh
 near:¬K (4,0)→¬K (5,0)→NearM w' N.nc N.nn X.n m.nr
 dom:¬K (6,0)→Cells w' X.dm (N.nd*4) 144 (fun i=>domV N X (i / 4) (i%4))
 wks:¬K (7,0)→Cells w' X.ck (N.nc*3) 182 (fun i=>wkV (m.wk (i / 3)) (i%3))
 prg:∀ d,d<N.nd→¬K (8,d)→Cells w' (X.P d) (N.nc*2) 161 (fun i=>prgV X m d (i / 2) (i%2))
 ops:¬K (9,0)→∀ d k,d<N.nd→k<N.nc→(m.ops d k=[]∧X.oa d k=none)∨∃ gO,X.oa d k=some ⟨gO,0,none⟩∧Row w' gO ((m.ops d k).flatMap opL) 69
 far:∀ d,d<N.nd→¬K (10,d)→¬K (11,d)→FarM w' N.ns (N.wn d) (X.f d) (m.blk d) (m.tch d)
 wait:∀ d,d<N.nd→¬K (12,d)→QM w' (X.wa d) (X.wl d) (X.wc d) (m.wt d)
 trc:∀ d,d<N.nd→¬K (13,d)→X.tl d=(m.tr d).length∧w'.ownsRow 0 58 6 (.slice (X.ta d) (X.tl d) (X.tc d)) (m.tr d).length ((m.tr d).flatMap eventL)
theorem MachM.kin {w w':World}{N:Cn}{X:XLoc}{m:Mh}(h:MachM w N X m)(K:Nat × Nat→Prop)(hs:∀ b l,X.lab b=some l→¬K l→w'.heap[b]? = w.heap[b]?):Kin w' N X m K:=by
 have L:=h.labs
 refine ⟨fun k=>h.row.same (hs _ _ L.g k),fun k=>?_,fun k2 k3=>h.mem.same (hs _ _ L.er k2) (fun b _ hb=>hs b _ (L.eo b hb) k3),fun k4 k5=>h.near.same (hs _ _ L.nr k4) (fun j hj=>hs _ _ (L.no _ ⟨j,hj,rfl⟩) k5),fun k=>h.dom.same (hs _ _ L.dm k),fun k=>h.wks.same (hs _ _ L.ck k),fun d hd k=>(h.prg d hd).same (hs _ _ (L.P d hd) k),fun k d j hd hj=>?_,fun d hd k1 k2=>(h.far d hd).same (fun b hb=>hs b _ (L.fo d hd b hb) k1) (fun b hb=>hs b _ (L.fi d hd b hb) k2),fun d hd k=>(h.wait d hd).same (fun b off e=>hs b _ (L.wt d hd b off e) k),fun d hd k=>⟨(h.trc d hd).1,?_⟩⟩
 ·
  have:=h.cfg.same (w':=w') fun b hb=>hs b _ (L.cf b hb) k
  exact ⟨this.1,fun b hb=>L.cf b (this.2 b hb)⟩
 ·
  rcases h.ops d j hd hj with h1 | ⟨gO,h1,h2⟩
  · exact Or.inl h1
  · exact Or.inr ⟨gO,h1,h2.same (hs _ _ (L.O d j hd hj gO 0 h1) k)⟩
 ·
  refine owns_same (h.trc d hd).2 fun g hg=>?_
  have h2:=(h.trc d hd).2.2
  rcases h2 with ⟨h3,_⟩|⟨g',cap',cur,hv,hg',hh,_⟩
  · rw [h3] at hg;simp [Value.ownBlock] at hg
  ·
   simp only [Value.slice.injEq] at hv
   rw [hv.1] at hg
   simp [Value.ownBlock] at hg
   subst hg
   exact hs g' _ (L.tr d hd g' 0 hv.1) k
theorem Labs.grow {w w':World}{N:Cn}{X:XLoc}(L:Labs w N X)(hz:w.heap.size≤w'.heap.size)(hc:∀ b,CfgB X.s w' b→X.lab b=some (1,0)):Labs w' N X:=
 ⟨fun b hb=>Nat.lt_of_lt_of_le (L.lt b hb) hz,L.g,hc,L.er,L.eo,L.nr,L.no,L.dm,L.ck,L.P,L.O,L.fo,L.fi,L.wt,L.tr⟩
theorem MachM.below {w w':World}{N:Cn}{X:XLoc}{m:Mh}{n:Nat}(h:MachM w N X m)(hb:Below n w w')(hn:w.heap.size≤n):MachM w' N X m:=by
 have k:=h.kin (w':=w') (fun _=>False) (fun b l hl _=>hb.block b (Nat.lt_of_lt_of_le (h.labs.lt b (by rw [hl];simp)) hn))
 have kc:=k.cfg (fun h=>h)
 exact ⟨h.nok,h.right,h.now0,h.now1,k.row (fun h=>h),kc.1,k.mem (fun h=>h) (fun h=>h),k.near (fun h=>h) (fun h=>h),k.dom (fun h=>h),h.dcap,fun d hd=>k.prg d hd (fun h=>h),k.ops (fun h=>h),fun d hd=>k.far d hd (fun h=>h) (fun h=>h),fun d hd=>k.wait d hd (fun h=>h),fun d hd=>k.trc d hd (fun h=>h),k.wks (fun h=>h),h.labs.grow hb.size kc.2⟩
theorem MachM.kinT {w w':World}{N:Cn}{X:XLoc}{m:Mh}{F:Nat→Prop}(h:MachM w N X m)(hT:Touch F w w')(l0:Nat × Nat)(hF:∀ b,F b→X.lab b=some l0):Kin w' N X m (fun l=>l=l0):=
 h.kin _ fun b l hl hk=>hT.block b (h.labs.lt b (by rw [hl];simp)) (fun hb=>hk (by have:=hF b hb;rw [hl] at this;exact Option.some.inj this))
theorem MachM.setNear {w w':World}{N:Cn}{X:XLoc}{m:Mh}{nr':Nat→Nat→Cp}(h:MachM w N X m)(hN:NearM w' N.nc N.nn X.n nr')(hT:Touch (X.n.own N.nc) w w'):MachM w' N X { m with nr:=nr' }:=by
 have k:=h.kinT hT (5,0) h.labs.no
 have kc:=k.cfg (by simp)
 exact ⟨h.nok,h.right,h.now0,h.now1,k.row (by simp),kc.1,k.mem (by simp) (by simp),hN,k.dom (by simp),h.dcap,fun d hd=>k.prg d hd (by simp),k.ops (by simp),fun d hd=>k.far d hd (by simp) (by simp),fun d hd=>k.wait d hd (by simp),fun d hd=>k.trc d hd (by simp),k.wks (by simp),h.labs.grow hT.size kc.2⟩
theorem MachM.setMem {w w':World}{N:Cn}{X:XLoc}{m:Mh}{own':Nat→Nat→Int}{sh':Nat→Int}(h:MachM w N X m)(hM:MemM w' N.nd N.pv N.sn X.e own' sh')(hT:Touch (X.e.own N.nd) w w'):MachM w' N X { m with own:=own',sh:=sh' }:=by
 have k:=h.kinT hT (3,0) h.labs.eo
 have kc:=k.cfg (by simp)
 exact ⟨h.nok,h.right,h.now0,h.now1,k.row (by simp),kc.1,hM,k.near (by simp) (by simp),k.dom (by simp),h.dcap,fun d hd=>k.prg d hd (by simp),k.ops (by simp),fun d hd=>k.far d hd (by simp) (by simp),fun d hd=>k.wait d hd (by simp),fun d hd=>k.trc d hd (by simp),k.wks (by simp),h.labs.grow hT.size kc.2⟩
theorem MachM.setFar {w w':World}{N:Cn}{X:XLoc}{m:Mh}{d:Nat}{blk':Nat→Nat→Bk}(h:MachM w N X m)(hd:d<N.nd)(hF:FarM w' N.ns (N.wn d) (X.f d) blk' (m.tch d))(hT:Touch ((X.f d).own N.ns) w w'):MachM w' N X { m with blk:=up1 m.blk d blk' }:=by
 have k:=h.kinT hT (10,d) (h.labs.fo d hd)
 have kc:=k.cfg (by simp)
 refine ⟨h.nok,h.right,h.now0,h.now1,k.row (by simp),kc.1,k.mem (by simp) (by simp),k.near (by simp) (by simp),k.dom (by simp),h.dcap,fun d hd=>k.prg d hd (by simp),k.ops (by simp),fun e he=>?_,fun d hd=>k.wait d hd (by simp),fun d hd=>k.trc d hd (by simp),k.wks (by simp),h.labs.grow hT.size kc.2⟩
 show FarM w' N.ns (N.wn e) (X.f e) (up1 m.blk d blk' e) (m.tch e)
 by_cases e2:e=d
 · subst e2;rw [up1_at];exact hF
 ·
  have:=k.far e he (by simpa using e2) (by simp)
  simpa [up1,e2] using this
def XLoc.touch (X:XLoc)(d q gg len cap:Nat):XLoc:={ X with f:=up1 X.f d ((X.f d).touched q gg len cap),lab:=fun b=>if b=gg then some (11,d) else X.lab b }
theorem MachM.setTouch {w w':World}{N:Cn}{X:XLoc}{m:Mh}{d q gg cap:Nat}{l:List Int}(h:MachM w N X m)(hd:d<N.nd)(hq:q<N.ns)(hg:w.heap.size≤gg)(hg2:gg<w'.heap.size)
  (hF:FarM w' N.ns (N.wn d) ((X.f d).touched q gg l.length cap) (m.blk d) (up1 (m.tch d) q l)) (hT:Touch ((X.f d).own N.ns) w w'):MachM w' N (X.touch d q gg l.length cap) { m with tch:=up2 m.tch d q l }:=by
 have k:=h.kinT hT (10,d) (h.labs.fo d hd)
 have kc:=k.cfg (by simp)
 have hn:∀ b l,X.lab b=some l→b≠gg:=fun b l hl e=>by
  have:=h.labs.lt b (by rw [hl];simp)
  omega
 have hl:∀ b l,X.lab b=some l→(X.touch d q gg l.1 cap).lab b=some l:=fun b l hl=>by
  simp only [XLoc.touch]
  rw [if_neg (hn b l hl)];exact hl
 have hl2:∀ b l2,X.lab b=some l2→(if b=gg then some (11,d) else X.lab b)=some l2:=fun b l2 e=>by rw [if_neg (hn b l2 e)];exact e
 have hrb:((X.f d).touched q gg l.length cap).r=(X.f d).r∧((X.f d).touched q gg l.length cap).b=(X.f d).b∧((X.f d).touched q gg l.length cap).rc=(X.f d).rc:=⟨rfl,rfl,rfl⟩
 refine ⟨h.nok,h.right,h.now0,h.now1,k.row (by simp),kc.1,k.mem (by simp) (by simp),k.near (by simp) (by simp),?_,h.dcap,fun d hd=>k.prg d hd (by simp),k.ops (by simp),fun e he=>?_,fun d hd=>k.wait d hd (by simp),fun d hd=>k.trc d hd (by simp),k.wks (by simp),?_⟩
 ·
  refine (k.dom (by simp)).congr fun i _=>?_
  unfold domV XLoc.touch
  by_cases e:i / 4=d
  · simp [e,up1,FLoc.touched]
  · simp [e,up1]
 ·
  show FarM w' N.ns (N.wn e) (up1 X.f d ((X.f d).touched q gg l.length cap) e) (m.blk e) (up2 m.tch d q l e)
  by_cases e2:e=d
  ·
   subst e2
   have:up2 m.tch e q l e=up1 (m.tch e) q l:=by funext s;simp [up2,up1]
   rw [up1_at,this];exact hF
  ·
   have:=k.far e he (by simpa using e2) (by simp)
   have h3:up2 m.tch d q l e=m.tch e:=by funext s;simp [up2,e2]
   rw [h3]
   simpa [up1,e2] using this
 ·
  refine ⟨fun b hb=>?_,hl2 _ _ h.labs.g,fun b hb=>hl2 _ _ (kc.2 b hb),hl2 _ _ h.labs.er,fun b hb=>hl2 _ _ (h.labs.eo b hb),hl2 _ _ h.labs.nr,fun b hb=>hl2 _ _ (h.labs.no b hb),hl2 _ _ h.labs.dm,hl2 _ _ h.labs.ck,fun e he=>hl2 _ _ (h.labs.P e he),fun e j he hj b off hb=>hl2 _ _ (h.labs.O e j he hj b off hb),fun e he b hb=>hl2 _ _ (h.labs.fo e he b ?_),fun e he b hb=>?_,fun e he b off hb=>hl2 _ _ (h.labs.wt e he b off hb),fun e he b off hb=>hl2 _ _ (h.labs.tr e he b off hb)⟩
  ·
   by_cases e:b=gg
   · subst e;exact hg2
   ·
    simp only [XLoc.touch,e,if_false] at hb
    exact Nat.lt_of_lt_of_le (h.labs.lt b hb) hT.size
  ·
   have hb':(up1 X.f d ((X.f d).touched q gg l.length cap) e).own N.ns b:=hb
   by_cases e2:e=d
   · subst e2;rw [up1_at] at hb';exact hb'
   · simpa [up1,e2] using hb'
  ·
   have hb':(up1 X.f d ((X.f d).touched q gg l.length cap) e).ints N.ns b:=hb
   show (if b=gg then some (11,d) else X.lab b)=some (11,e)
   by_cases e2:e=d
   ·
    subst e2
    rw [up1_at] at hb'
    obtain ⟨s,off,h1,h2⟩:=hb'
    by_cases e3:s=q
    ·
     subst e3
     simp only [FLoc.touched,up1,if_true,Option.some.injEq,Addr.mk.injEq] at h2
     rw [if_pos h2.1.symm]
    ·
     simp only [FLoc.touched,up1,e3,if_false] at h2
     exact hl2 _ _ (h.labs.fi e he b ⟨s,off,h1,h2⟩)
   ·
    have:(X.f e).ints N.ns b:=by simpa [up1,e2] using hb'
    exact hl2 _ _ (h.labs.fi e he b this)
theorem MachM.setNow {w:World}{N:Cn}{X:XLoc}{m:Mh}(h:MachM w N X m)(t:Int)(t0:0≤t)(t1:t≤10000):MachM (w.setCell ⟨X.g,13,none⟩ (.int .i64 t)) N X { m with now:=t }∧Touch (fun b=>b=X.g) w (w.setCell ⟨X.g,13,none⟩ (.int .i64 t)):=by
 have hT:Touch (fun b=>b=X.g) w (w.setCell ⟨X.g,13,none⟩ (.int .i64 t)):=Touch.setCell _ _ _ _ rfl
 have k:=h.kinT hT (0,0) (fun b hb=>by subst hb;exact h.labs.g)
 have kc:=k.cfg (by simp)
 exact ⟨⟨h.nok,h.right,t0,t1,h.row.setCell 13 _,kc.1,k.mem (by simp) (by simp),k.near (by simp) (by simp),k.dom (by simp),h.dcap,fun d hd=>k.prg d hd (by simp),k.ops (by simp),fun d hd=>k.far d hd (by simp) (by simp),fun d hd=>k.wait d hd (by simp),fun d hd=>k.trc d hd (by simp),k.wks (by simp),h.labs.grow hT.size kc.2⟩,hT⟩
theorem MachM.setDone {w:World}{N:Cn}{X:XLoc}{m:Mh}(h:MachM w N X m){d:Nat}(hd:d<N.nd)(k n:Nat):MachM (w.setCell ⟨X.P d,k*2+1,none⟩ (.int .i64 n)) N X { m with dn:=up2 m.dn d k n }:=by
 have hT:Touch (fun b=>b=X.P d) w (w.setCell ⟨X.P d,k*2+1,none⟩ (.int .i64 n)):=Touch.setCell _ _ _ _ rfl
 have kk:=h.kinT hT (8,d) (fun b hb=>by subst hb;exact h.labs.P d hd)
 have kc:=kk.cfg (by simp)
 refine ⟨h.nok,h.right,h.now0,h.now1,kk.row (by simp),kc.1,kk.mem (by simp) (by simp),kk.near (by simp) (by simp),kk.dom (by simp),h.dcap,fun e he=>?_,kk.ops (by simp),fun d hd=>kk.far d hd (by simp) (by simp),fun d hd=>kk.wait d hd (by simp),fun d hd=>kk.trc d hd (by simp),kk.wks (by simp),h.labs.grow hT.size kc.2⟩
 by_cases e2:e=d
 ·
  subst e2
  refine ((h.prg e he).set _ _).congr fun i _=>?_
  unfold prgV up2
  by_cases e3:i=k*2+1
  ·
   subst e3
   simp [show (k*2+1) / 2=k by omega,show (k*2+1)%2=1 by omega]
  ·
   by_cases e4:i%2=0
   · simp [e3,e4]
   ·
    have:i / 2≠k:=by omega
    simp [e3,e4,this]
 ·
  refine (kk.prg e he (by simpa using e2)).congr fun i _=>?_
  unfold prgV up2
  simp [e2]
theorem MachM.setWk {w w':World}{N:Cn}{X:XLoc}{m:Mh}{wk':Nat→Wk}(h:MachM w N X m)(hT:Touch (fun b=>b=X.ck) w w')(hc:Cells w' X.ck (N.nc*3) 182 (fun i=>wkV (wk' (i / 3)) (i%3))):MachM w' N X { m with wk:=wk' }:=by
 have k:=h.kinT hT (7,0) (fun b hb=>by subst hb;exact h.labs.ck)
 have kc:=k.cfg (by simp)
 exact ⟨h.nok,h.right,h.now0,h.now1,k.row (by simp),kc.1,k.mem (by simp) (by simp),k.near (by simp) (by simp),k.dom (by simp),h.dcap,fun d hd=>k.prg d hd (by simp),k.ops (by simp),fun d hd=>k.far d hd (by simp) (by simp),fun d hd=>k.wait d hd (by simp),fun d hd=>k.trc d hd (by simp),hc,h.labs.grow hT.size kc.2⟩
theorem wk_at {w:World}{g n:Nat}{f:Nat→Wk}(h:Cells w g (n*3) 182 (fun i=>wkV (f (i / 3)) (i%3))){p:Nat}(hp:p<n) :
  w.cell? ⟨g,p*3,none⟩=some (.bool (f p).busy)∧w.cell? ⟨g,p*3+1,none⟩=some (.int .i64 (f p).dom)∧w.cell? ⟨g,p*3+2,none⟩=some (.int .i64 (f p).issue):=by
 refine ⟨?_,?_,?_⟩
 · rw [h.cell (by omega),show p*3 / 3=p by omega,show p*3%3=0 by omega];rfl
 · rw [h.cell (by omega),show (p*3+1) / 3=p by omega,show (p*3+1)%3=1 by omega];rfl
 · rw [h.cell (by omega),show (p*3+2) / 3=p by omega,show (p*3+2)%3=2 by omega];rfl
theorem wk_set {w:World}{g n:Nat}{f:Nat→Wk}(h:Cells w g (n*3) 182 (fun i=>wkV (f (i / 3)) (i%3)))(p:Nat)(b:Wk) :
  Cells (((w.setCell ⟨g,p*3,none⟩ (.bool b.busy)).setCell ⟨g,p*3+1,none⟩ (.int .i64 b.dom)).setCell ⟨g,p*3+2,none⟩ (.int .i64 b.issue)) g (n*3) 182 (fun i=>wkV (up1 f p b (i / 3)) (i%3)):=by
 refine (((h.set _ _).set _ _).set _ _).congr fun i hi=>?_
 unfold up1 wkV
 by_cases e1:i / 3=p
 ·
  have:i=p*3∨i=p*3+1∨i=p*3+2:=by omega
  rcases this with e2|e2|e2
  · subst e2;simp [show p*3 / 3=p by omega]
  · subst e2;simp [show (p*3+1) / 3=p by omega,show (p*3+1)%3=1 by omega]
  · subst e2;simp [show (p*3+2) / 3=p by omega,show (p*3+2)%3=2 by omega]
 ·
  have f1:i≠p*3:=by omega
  have f2:i≠p*3+1:=by omega
  have f3:i≠p*3+2:=by omega
  simp [e1,f1,f2,f3]
theorem wk_free {w:World}{g n:Nat}{f:Nat→Wk}(h:Cells w g (n*3) 182 (fun i=>wkV (f (i / 3)) (i%3)))(p:Nat) :
  Cells (w.setCell ⟨g,p*3,none⟩ (.bool false)) g (n*3) 182 (fun i=>wkV (up1 f p ⟨false,(f p).dom,(f p).issue⟩ (i / 3)) (i%3)):=by
 refine (h.set _ _).congr fun i hi=>?_
 unfold up1 wkV
 by_cases e1:i / 3=p
 ·
  by_cases e2:i=p*3
  · subst e2;simp [show p*3 / 3=p by omega]
  ·
   have:i%3≠0:=by omega
   simp [e1,e2,this]
 ·
  have f1:i≠p*3:=by omega
  simp [e1,f1]
theorem dom_at {w:World}{N:Cn}{X:XLoc}{m:Mh}(h:MachM w N X m){d:Nat}(hd:d<N.nd) :
  w.cell? ⟨X.dm,d*4,none⟩=some (.slice (some ⟨X.P d,0,none⟩) N.nc N.nc)∧w.cell? ⟨X.dm,d*4+1,none⟩=some (.slice (some ⟨(X.f d).r,0,none⟩) N.ns (X.f d).rc)∧w.cell? ⟨X.dm,d*4+2,none⟩=some (.slice (X.wa d) (X.wl d) (X.wc d))∧w.cell? ⟨X.dm,d*4+3,none⟩=some (.slice (X.ta d) (X.tl d) (X.tc d)):=by
 refine ⟨?_,?_,?_,?_⟩
 · rw [h.dom.cell (by omega),show d*4 / 4=d by omega,show d*4%4=0 by omega];rfl
 · rw [h.dom.cell (by omega),show (d*4+1) / 4=d by omega,show (d*4+1)%4=1 by omega];rfl
 · rw [h.dom.cell (by omega),show (d*4+2) / 4=d by omega,show (d*4+2)%4=2 by omega];rfl
 · rw [h.dom.cell (by omega),show (d*4+3) / 4=d by omega,show (d*4+3)%4=3 by omega];rfl
theorem prg_at {w:World}{N:Cn}{X:XLoc}{m:Mh}(h:MachM w N X m){d k:Nat}(hd:d<N.nd)(hk:k<N.nc) :
  w.cell? ⟨X.P d,k*2,none⟩=some (.slice (X.oa d k) (m.ops d k).length (m.ops d k).length)∧w.cell? ⟨X.P d,k*2+1,none⟩=some (.int .i64 (m.dn d k)):=by
 refine ⟨?_,?_⟩
 · rw [(h.prg d hd).cell (by omega),show k*2 / 2=k by omega,show k*2%2=0 by omega];rfl
 · rw [(h.prg d hd).cell (by omega),show (k*2+1) / 2=k by omega,show (k*2+1)%2=1 by omega];rfl
def XLoc.waits (X:XLoc)(d gg off len cap:Nat):XLoc:={ X with wa:=up1 X.wa d (some ⟨gg,off,none⟩),wl:=up1 X.wl d len,wc:=up1 X.wc d cap,lab:=fun b=>if b=gg then some (12,d) else X.lab b }
def XLoc.traces (X:XLoc)(d gg len cap:Nat):XLoc:={ X with ta:=up1 X.ta d (some ⟨gg,0,none⟩),tl:=up1 X.tl d len,tc:=up1 X.tc d cap,lab:=fun b=>if b=gg then some (13,d) else X.lab b }
theorem MachM.setWait {w w1:World}{N:Cn}{X:XLoc}{m:Mh}{d gg off len cap:Nat}{q':List Int}(h:MachM w N X m)(hd:d<N.nd)(hT:Touch (fun b=>∃ o,X.wa d=some ⟨b,o,none⟩) w w1)(hQ:QM w1 (some ⟨gg,off,none⟩) len cap q')(hg:X.lab gg=some (12,d)∨w.heap.size≤gg)(hg2:gg<w1.heap.size) :
  MachM (w1.setCell ⟨X.dm,d*4+2,none⟩ (.slice (some ⟨gg,off,none⟩) len cap)) N (X.waits d gg off len cap) { m with wt:=up1 m.wt d q' }:=by
 have hT2:Touch (fun b=>b=X.dm∨∃ o,X.wa d=some ⟨b,o,none⟩) w (w1.setCell ⟨X.dm,d*4+2,none⟩ (.slice (some ⟨gg,off,none⟩) len cap)):=(hT.mono (fun _ hx=>Or.inr hx)).trans (Touch.setCell _ _ _ _ (Or.inl rfl))
 have k:=h.kin (w':=w1.setCell ⟨X.dm,d*4+2,none⟩ (.slice (some ⟨gg,off,none⟩) len cap)) (fun l=>l=(6,0)∨l=(12,d)) fun b l hl hk=>hT2.block b (h.labs.lt b (by rw [hl];simp)) (fun hb=>hk (by
  rcases hb with hb|⟨o,hb⟩
  · subst hb;rw [h.labs.dm] at hl;exact Or.inl (Option.some.inj hl).symm
  · rw [h.labs.wt d hd b o hb] at hl;exact Or.inr (Option.some.inj hl).symm))
 have kc:=k.cfg (by simp)
 have hn:∀ b l,X.lab b=some l→l≠(12,d)→b≠gg:=fun b l hl hne e=>by
  subst e
  rcases hg with hg|hg
  · rw [hg] at hl;exact hne (Option.some.inj hl).symm
  ·
   have:=h.labs.lt b (by rw [hl];simp)
   omega
 have hl2:∀ b l2,X.lab b=some l2→l2≠(12,d)→(if b=gg then some (12,d) else X.lab b)=some l2:=fun b l2 e hne=>by rw [if_neg (hn b l2 e hne)];exact e
 have hdm:X.dm≠gg:=hn X.dm _ h.labs.dm (by simp)
 have hwd:∀ b o,X.wa d=some ⟨b,o,none⟩→b≠X.dm:=fun b o hb e=>by subst e;have:=h.labs.wt d hd _ o hb;rw [h.labs.dm] at this;simp at this
 refine ⟨h.nok,h.right,h.now0,h.now1,k.row (by simp),kc.1,k.mem (by simp) (by simp),k.near (by simp) (by simp),?_,h.dcap,fun e he=>k.prg e he (by simp),k.ops (by simp),fun e he=>k.far e he (by simp) (by simp),fun e he=>?_,fun e he=>k.trc e he (by simp),k.wks (by simp),?_⟩
 ·
  have hd1:Cells w1 X.dm (N.nd*4) 144 (fun i=>domV N X (i / 4) (i%4)):=h.dom.touch hT (fun ⟨o,ho⟩=>hwd _ o ho rfl)
  refine (hd1.set _ _).congr fun i _=>?_
  unfold domV XLoc.waits up1
  by_cases e:i=d*4+2
  ·
   subst e
   simp [show (d*4+2) / 4=d by omega,show (d*4+2)%4=2 by omega]
  ·
   by_cases e2:i / 4=d
   ·
    have:i%4≠2:=by omega
    simp [e,this]
   · simp [e,e2]
 ·
  show QM _ (up1 X.wa d (some ⟨gg,off,none⟩) e) (up1 X.wl d len e) (up1 X.wc d cap e) (up1 m.wt d q' e)
  by_cases e2:e=d
  ·
   subst e2
   rw [up1_at,up1_at,up1_at,up1_at]
   refine hQ.same fun b o hb=>Below.heap_setCell _ _ _ _ ?_
   simp only [Option.some.injEq,Addr.mk.injEq] at hb
   intro e3
   have:b=X.dm:=e3
   exact hdm (this.symm.trans hb.1.symm)
  ·
   have:=k.wait e he (by simp [e2])
   simpa [up1,e2] using this
 ·
  refine ⟨fun b hb=>?_,hl2 _ _ h.labs.g (by simp),fun b hb=>hl2 _ _ (kc.2 b hb) (by simp),hl2 _ _ h.labs.er (by simp),fun b hb=>hl2 _ _ (h.labs.eo b hb) (by simp),hl2 _ _ h.labs.nr (by simp),fun b hb=>hl2 _ _ (h.labs.no b hb) (by simp),hl2 _ _ h.labs.dm (by simp),hl2 _ _ h.labs.ck (by simp),fun e he=>hl2 _ _ (h.labs.P e he) (by simp),fun e j he hj b off hb=>hl2 _ _ (h.labs.O e j he hj b off hb) (by simp),fun e he b hb=>hl2 _ _ (h.labs.fo e he b hb) (by simp),fun e he b hb=>hl2 _ _ (h.labs.fi e he b hb) (by simp),fun e he b o hb=>?_,fun e he b off hb=>hl2 _ _ (h.labs.tr e he b off hb) (by simp)⟩
  ·
   have hz:(w1.setCell ⟨X.dm,d*4+2,none⟩ (.slice (some ⟨gg,off,none⟩) len cap)).heap.size=w1.heap.size:=by simp [World.setCell]
   rw [hz]
   by_cases e:b=gg
   · subst e;exact hg2
   ·
    simp only [XLoc.waits,e,if_false] at hb
    exact Nat.lt_of_lt_of_le (h.labs.lt b hb) hT.size
  ·
   have hb':up1 X.wa d (some ⟨gg,off,none⟩) e=some ⟨b,o,none⟩:=hb
   show (if b=gg then some (12,d) else X.lab b)=some (12,e)
   by_cases e2:e=d
   ·
    subst e2
    rw [up1_at] at hb'
    simp only [Option.some.injEq,Addr.mk.injEq] at hb'
    rw [if_pos hb'.1.symm]
   ·
    have h3:X.wa e=some ⟨b,o,none⟩:=by simpa [up1,e2] using hb'
    exact hl2 _ _ (h.labs.wt e he b o h3) (by simp [e2])
theorem MachM.setTrace {w w1:World}{N:Cn}{X:XLoc}{m:Mh}{d gg cap:Nat}{l':List Ev}(h:MachM w N X m)(hd:d<N.nd)(hT:Touch (fun b=>∃ o,X.ta d=some ⟨b,o,none⟩) w w1)(hQ:w1.ownsRow 0 58 6 (.slice (some ⟨gg,0,none⟩) l'.length cap) l'.length (l'.flatMap eventL))(hg:X.lab gg=some (13,d)∨w.heap.size≤gg)(hg2:gg<w1.heap.size) :
  MachM (w1.setCell ⟨X.dm,d*4+3,none⟩ (.slice (some ⟨gg,0,none⟩) l'.length cap)) N (X.traces d gg l'.length cap) { m with tr:=up1 m.tr d l' }:=by
 have hT2:Touch (fun b=>b=X.dm∨∃ o,X.ta d=some ⟨b,o,none⟩) w (w1.setCell ⟨X.dm,d*4+3,none⟩ (.slice (some ⟨gg,0,none⟩) l'.length cap)):=(hT.mono (fun _ hx=>Or.inr hx)).trans (Touch.setCell _ _ _ _ (Or.inl rfl))
 have k:=h.kin (w':=w1.setCell ⟨X.dm,d*4+3,none⟩ (.slice (some ⟨gg,0,none⟩) l'.length cap)) (fun l=>l=(6,0)∨l=(13,d)) fun b l hl hk=>hT2.block b (h.labs.lt b (by rw [hl];simp)) (fun hb=>hk (by
  rcases hb with hb|⟨o,hb⟩
  · subst hb;rw [h.labs.dm] at hl;exact Or.inl (Option.some.inj hl).symm
  · rw [h.labs.tr d hd b o hb] at hl;exact Or.inr (Option.some.inj hl).symm))
 have kc:=k.cfg (by simp)
 have hn:∀ b l,X.lab b=some l→l≠(13,d)→b≠gg:=fun b l hl hne e=>by
  subst e
  rcases hg with hg|hg
  · rw [hg] at hl;exact hne (Option.some.inj hl).symm
  ·
   have:=h.labs.lt b (by rw [hl];simp)
   omega
 have hl2:∀ b l2,X.lab b=some l2→l2≠(13,d)→(if b=gg then some (13,d) else X.lab b)=some l2:=fun b l2 e hne=>by rw [if_neg (hn b l2 e hne)];exact e
 have hdm:X.dm≠gg:=hn X.dm _ h.labs.dm (by simp)
 have hwd:∀ b o,X.ta d=some ⟨b,o,none⟩→b≠X.dm:=fun b o hb e=>by subst e;have:=h.labs.tr d hd _ o hb;rw [h.labs.dm] at this;simp at this
 refine ⟨h.nok,h.right,h.now0,h.now1,k.row (by simp),kc.1,k.mem (by simp) (by simp),k.near (by simp) (by simp),?_,h.dcap,fun e he=>k.prg e he (by simp),k.ops (by simp),fun e he=>k.far e he (by simp) (by simp),fun e he=>k.wait e he (by simp),fun e he=>?_,k.wks (by simp),?_⟩
 ·
  have hd1:Cells w1 X.dm (N.nd*4) 144 (fun i=>domV N X (i / 4) (i%4)):=h.dom.touch hT (fun ⟨o,ho⟩=>hwd _ o ho rfl)
  refine (hd1.set _ _).congr fun i _=>?_
  unfold domV XLoc.traces up1
  by_cases e:i=d*4+3
  ·
   subst e
   simp [show (d*4+3) / 4=d by omega,show (d*4+3)%4=3 by omega]
  ·
   by_cases e2:i / 4=d
   ·
    have:i%4=0∨i%4=1∨i%4=2:=by omega
    rcases this with h1|h1|h1 <;> simp [e,h1]
   · simp [e,e2]
 ·
  show up1 X.tl d l'.length e=(up1 m.tr d l' e).length∧World.ownsRow _ 0 58 6 (.slice (up1 X.ta d (some ⟨gg,0,none⟩) e) (up1 X.tl d l'.length e) (up1 X.tc d cap e)) (up1 m.tr d l' e).length ((up1 m.tr d l' e).flatMap eventL)
  by_cases e2:e=d
  ·
   subst e2
   rw [up1_at,up1_at,up1_at,up1_at]
   refine ⟨rfl,owns_same hQ fun b hb=>Below.heap_setCell _ _ _ _ ?_⟩
   simp [Value.ownBlock] at hb
   intro e3
   have:b=X.dm:=e3
   exact hdm (this.symm.trans hb.symm)
  ·
   have:=k.trc e he (by simp [e2])
   simpa [up1,e2] using this
 ·
  refine ⟨fun b hb=>?_,hl2 _ _ h.labs.g (by simp),fun b hb=>hl2 _ _ (kc.2 b hb) (by simp),hl2 _ _ h.labs.er (by simp),fun b hb=>hl2 _ _ (h.labs.eo b hb) (by simp),hl2 _ _ h.labs.nr (by simp),fun b hb=>hl2 _ _ (h.labs.no b hb) (by simp),hl2 _ _ h.labs.dm (by simp),hl2 _ _ h.labs.ck (by simp),fun e he=>hl2 _ _ (h.labs.P e he) (by simp),fun e j he hj b off hb=>hl2 _ _ (h.labs.O e j he hj b off hb) (by simp),fun e he b hb=>hl2 _ _ (h.labs.fo e he b hb) (by simp),fun e he b hb=>hl2 _ _ (h.labs.fi e he b hb) (by simp),fun e he b off hb=>hl2 _ _ (h.labs.wt e he b off hb) (by simp),fun e he b o hb=>?_⟩
  ·
   have hz:(w1.setCell ⟨X.dm,d*4+3,none⟩ (.slice (some ⟨gg,0,none⟩) l'.length cap)).heap.size=w1.heap.size:=by simp [World.setCell]
   rw [hz]
   by_cases e:b=gg
   · subst e;exact hg2
   ·
    simp only [XLoc.traces,e,if_false] at hb
    exact Nat.lt_of_lt_of_le (h.labs.lt b hb) hT.size
  ·
   have hb':up1 X.ta d (some ⟨gg,0,none⟩) e=some ⟨b,o,none⟩:=hb
   show (if b=gg then some (13,d) else X.lab b)=some (13,e)
   by_cases e2:e=d
   ·
    subst e2
    rw [up1_at] at hb'
    simp only [Option.some.injEq,Addr.mk.injEq] at hb'
    rw [if_pos hb'.1.symm]
   ·
    have h3:X.ta e=some ⟨b,o,none⟩:=by simpa [up1,e2] using hb'
    exact hl2 _ _ (h.labs.tr e he b o h3) (by simp [e2])
abbrev opArr (o:OpT):Array Value:=#[.int .i64 o.1,.int .i64 o.2.1,.int .i64 o.2.2]
def XLoc.mine (X:XLoc)(b:Nat):Prop:=X.lab b≠none
structure Goes (w w':World)(X X':XLoc):Prop where
 g:X'.g=X.g
 tch:Touch X.mine w w'
 lab:∀ b,b<w.heap.size→X'.mine b→X.mine b
theorem Goes.refl (w:World)(X:XLoc):Goes w w X X:=⟨rfl,Touch.refl _ _,fun _ _ h=>h⟩
theorem Goes.trans {a b c:World}{X Y Z:XLoc}(h:Goes a b X Y)(k:Goes b c Y Z):Goes a c X Z:=
 ⟨k.g.trans h.g,⟨k.tch.os.trans h.tch.os,k.tch.tape.trans h.tch.tape,k.tch.output.trans h.tch.output,Nat.le_trans h.tch.size k.tch.size,fun i hi hf=>(k.tch.block i (Nat.lt_of_lt_of_le hi h.tch.size) (fun hx=>hf (h.lab i hi hx))).trans (h.tch.block i hi hf)⟩,fun i hi hx=>h.lab i hi (k.lab i (Nat.lt_of_lt_of_le hi h.tch.size) hx)⟩
theorem Goes.of_below {w w':World}{X:XLoc}(hb:Below w.heap.size w w'):Goes w w' X X:=⟨rfl,Touch.of_below hb (Nat.le_refl _),fun _ _ h=>h⟩
theorem Goes.of_touch {w w':World}{X:XLoc}{F:Nat→Prop}{l:Nat × Nat}(hT:Touch F w w')(hF:∀ b,F b→X.lab b=some l):Goes w w' X X:=⟨rfl,hT.mono fun b hb=>by unfold XLoc.mine;rw [hF b hb];simp,fun _ _ h=>h⟩
theorem MachM.nums {w:World}{N:Cn}{X:XLoc}{m:Mh}(h:MachM w N X m):(N.nc:Int)=N.c.cores∧(N.nd:Int)=N.c.domains∧(N.nn:Int)=N.c.near∧(N.ns:Int)=N.c.sets∧(N.ln:Int)=N.c.line∧(N.pv:Int)=N.c.priv∧(N.sn:Int)=N.c.shared∧N.nc≤3∧0<N.nc∧N.nd≤4∧0<N.nd∧(N.ln=1∨N.ln=2∨N.ln=4)∧N.pv≤64∧N.sn≤32∧0<N.pv:=by
 have sb:=shape_bounds (chk_zero h.right).1
 have e:=h.nok
 have e1:N.nc=N.c.cores.toNat:=by rw [e];rfl
 have e2:N.nd=N.c.domains.toNat:=by rw [e];rfl
 have e3:N.nn=N.c.near.toNat:=by rw [e];rfl
 have e4:N.ns=N.c.sets.toNat:=by rw [e];rfl
 have e5:N.ln=N.c.line.toNat:=by rw [e];rfl
 have e6:N.pv=N.c.priv.toNat:=by rw [e];rfl
 have e7:N.sn=N.c.shared.toNat:=by rw [e];rfl
 omega
set_option maxHeartbeats 1600000 in
theorem kfault_any (N:Cn)(X:XLoc)(m:Mh)(o:OpT)(w:World)(h:MachM w N X m) :
  Calls Tryz.prog 169 #[.pointer (some ⟨X.g,0,none⟩),.agg (opArr o)] w fun e w'=>e = .returned (.int .i64 (faultF N.c o))∧Below w.heap.size w w':=by
 obtain ⟨n1,n2,n3,n4,n5,n6,n7,n8,n9,n10,n11,n12,n13,n14,n15⟩:=h.nums
 have c3:w.cell? ⟨X.g,3,none⟩=some (.int .i64 N.c.priv):=by rw [h.row.cell];rfl
 have c4:w.cell? ⟨X.g,4,none⟩=some (.int .i64 N.c.shared):=by rw [h.row.cell];rfl
 have lg:=h.row.lt
 obtain ⟨ok,oa,ov⟩:=o
 have p0:0≤N.c.priv:=by omega
 have p1:N.c.priv≤64:=by omega
 have s0:0≤N.c.shared:=by omega
 have s1:N.c.shared≤32:=by omega
 have wps:IntKind.i64.wrap (N.c.priv+N.c.shared)=N.c.priv+N.c.shared:=by rw [IntKind.wrap_i64];omega
 have HF:Hid (faultF N.c (ok,oa,ov)=if oa<0∨N.c.priv+N.c.shared≤oa then 1 else if ok=1∧N.c.priv≤oa then 2 else 0):=rfl
 generalize N.c.priv=pv at *
 generalize N.c.shared=sn at *
 clear h n1 n2 n3 n4 n5 n6 n7 n8 n9 n10 n11 n12 n13 n14 n15
 have HB:Hid (Below w.heap.size w (w.alloc (.cells (opArr (ok,oa,ov)) 69))):=(Below.refl _ _).alloc (Nat.le_refl _) _
 by_cases a1:oa<0
 ·
  have HR:Hid _:=HF.out
  rw [if_pos (Or.inl a1)] at HR
  go_enter Tryz.func169,Tryz.ntmps169
  go_wp2_with fail
  go_quiet (fail)
  go_wp2
  go_ret
  exact ⟨ret_int HR.out.symm,Go.below_drewN HB.out _⟩
 by_cases a2:pv+sn≤oa
 ·
  have HR:Hid _:=HF.out
  rw [if_pos (Or.inr a2)] at HR
  go_enter Tryz.func169,Tryz.ntmps169
  go_wp2_with fail
  go_quiet (fail)
  go_wp2
  go_ret
  exact ⟨ret_int HR.out.symm,Go.below_drewN HB.out _⟩
 by_cases a3:ok=1
 ·
  have a3b:(ok==1)=true:=by simp [a3]
  by_cases a4:pv≤oa
  ·
   have HR:Hid _:=HF.out
   rw [if_neg (by omega),if_pos ⟨a3,a4⟩] at HR
   clear a3
   go_enter Tryz.func169,Tryz.ntmps169
   go_wp2_with fail
   go_quiet (fail)
   go_wp2_with fail
   go_quiet (fail)
   go_wp2
   go_ret
   exact ⟨ret_int HR.out.symm,Go.below_drewN (Go.below_drewN HB.out _) _⟩
  ·
   have HR:Hid _:=HF.out
   rw [if_neg (by omega),if_neg (by omega)] at HR
   clear a3
   go_enter Tryz.func169,Tryz.ntmps169
   go_wp2_with fail
   go_quiet (fail)
   go_wp2_with fail
   go_quiet (fail)
   go_wp2
   go_ret
   exact ⟨ret_int HR.out.symm,Go.below_drewN (Go.below_drewN HB.out _) _⟩
 ·
  have a3b:(ok==1)=false:=by simp [a3]
  have HR:Hid _:=HF.out
  rw [if_neg (by omega),if_neg (by omega)] at HR
  go_enter Tryz.func169,Tryz.ntmps169
  go_wp2_with fail
  go_quiet (fail)
  go_wp2_with fail
  go_quiet (fail)
  go_wp2
  go_ret
  exact ⟨ret_int HR.out.symm,Go.below_drewN (Go.below_drewN HB.out _) _⟩
set_option maxHeartbeats 1600000 in
theorem kline_any (N:Cn)(X:XLoc)(m:Mh)(o:OpT)(x:Nat)(w:World)(h:MachM w N X m)(h0:0≤o.2.1)(h1:o.2.1≤1000)(hx:Hid (x=(o.2.1 / (N.ln:Int)).toNat)) :
  Calls Tryz.prog 149 #[.pointer (some ⟨X.g,0,none⟩),.agg (opArr o)] w fun e w'=>e = .returned (.int .i64 x)∧Below w.heap.size w w':=by
 obtain ⟨n1,n2,n3,n4,n5,n6,n7,n8,n9,n10,n11,n12,n13,n14,n15⟩:=h.nums
 have c2:w.cell? ⟨X.g,2,none⟩=some (.int .i64 N.ln):=by rw [h.row.cell,n5];rfl
 have lg:=h.row.lt
 obtain ⟨ok,oa,ov⟩:=o
 dsimp only at *
 have q0:0≤oa / (N.ln:Int):=Int.ediv_nonneg h0 (by omega)
 have q1:oa / (N.ln:Int)≤oa:=Int.ediv_le_self _ h0
 have wq:IntKind.i64.wrap (oa / (N.ln:Int))=oa / (N.ln:Int):=by rw [IntKind.wrap_i64];omega
 have l0:(0:Int)<(N.ln:Int):=by omega
 have lz:((N.ln:Int)==0)=false:=by simp;omega
 have HX:Hid ((x:Int)=oa / (N.ln:Int)):=by have:=hx.out;unfold Hid;omega
 have HB:Hid (Below w.heap.size w (w.alloc (.cells (opArr (ok,oa,ov)) 69))):=(Below.refl _ _).alloc (Nat.le_refl _) _
 generalize N.ln=ln at *
 clear h n1 n2 n3 n4 n5 n6 n7 n8 n9 n10 n11 n13 n14 n15 hx
 go_enter Tryz.func149,Tryz.ntmps149
 go_wp2_with fail
 go_quiet (fail)
 go_wp2
 go_ret
 exact ⟨ret_int HX.out.symm,Go.below_drewN HB.out _⟩
def sufficesB (o:OpT)(s:Int):Bool:=if o.1=0 then decide (s≠0) else decide (s=2∨s=3)
set_option maxHeartbeats 1600000 in
theorem ksuffices_any (o:OpT)(s:Int)(w:World) :
  Calls Tryz.prog 171 #[.agg (opArr o),.int .i64 s] w fun e w'=>e = .returned (.bool (sufficesB o s))∧Below w.heap.size w w':=by
 obtain ⟨ok,oa,ov⟩:=o
 have HB:Hid (Below w.heap.size w (w.alloc (.cells (opArr (ok,oa,ov)) 69))):=(Below.refl _ _).alloc (Nat.le_refl _) _
 by_cases a1:ok=0
 ·
  have a1b:(ok==0)=true:=by simp [a1]
  have HR:Hid (sufficesB (ok,oa,ov) s=(s != 0)):=by
   unfold Hid sufficesB
   by_cases e:s=0 <;> simp [a1,e]
  clear a1
  go_enter Tryz.func171,Tryz.ntmps171
  go_wp2
  go_ret
  exact ⟨ret_bool HR.out.symm,HB.out⟩
 ·
  have a1b:(ok==0)=false:=by simp [a1]
  have HR:Hid (sufficesB (ok,oa,ov) s=(s==2 || s==3)):=by
   unfold Hid sufficesB
   by_cases e:s=2 <;> by_cases e3:s=3 <;> simp [a1,e,e3]
  go_enter Tryz.func171,Tryz.ntmps171
  go_wp2
  all_goals go_ret
  all_goals exact ⟨ret_bool (by rw [HR.out];try simp_all),HB.out⟩
theorem flat_op {l:List OpT}{i:Nat}{o:OpT}(h:l[i]? = some o):(l.flatMap opL)[i*3]? = some (.int .i64 o.1)∧(l.flatMap opL)[i*3+1]? = some (.int .i64 o.2.1)∧(l.flatMap opL)[i*3+2]? = some (.int .i64 o.2.2):=by
 have key:∀ (l:List OpT) (i:Nat),l[i]? = some o→(l.flatMap opL)[i*3]? = some (.int .i64 o.1)∧(l.flatMap opL)[i*3+1]? = some (.int .i64 o.2.1)∧(l.flatMap opL)[i*3+2]? = some (.int .i64 o.2.2):=by
  intro l
  induction l with
  | nil=>intro i h;simp at h
  | cons x xs ih=>
   intro i h
   cases i with
   | zero=>
    simp only [List.getElem?_cons_zero,Option.some.injEq] at h
    subst h
    exact ⟨rfl,rfl,rfl⟩
   | succ i=>
    rw [List.getElem?_cons_succ] at h
    have:=ih i h
    rw [List.flatMap_cons,show (i+1)*3=(i*3)+1+1+1 by omega,show (i*3)+1+1+1+1=(i*3+1)+1+1+1 by omega,show (i*3)+1+1+1+2=(i*3+2)+1+1+1 by omega]
    exact this
 exact key l i h
abbrev opZ:OpT:=(0,0,0)
set_option maxHeartbeats 1600000 in
theorem knext_any (N:Cn)(X:XLoc)(m:Mh)(d k:Nat)(w:World)(h:MachM w N X m)(hd:d<N.nd)(hk:k<N.nc)(hl:(m.ops d k).length≤64)(hn:m.dn d k≤64) :
  Calls Tryz.prog 148 #[.pointer (some ⟨X.g,0,none⟩),.int .i64 d,.int .i64 k] w fun e w'=>e = .returned (.tuple #[.agg (opArr ((m.next d k).getD opZ)),.bool (m.next d k).isSome])∧Below w.heap.size w w':=by
 obtain ⟨n1,n2,n3,n4,n5,n6,n7,n8,n9,n10,n11,n12,n13,n14,n15⟩:=h.nums
 have c18:w.cell? ⟨X.g,18,none⟩=some (.slice (some ⟨X.dm,0,none⟩) N.nd X.dc):=by rw [h.row.cell];rfl
 obtain ⟨d0,_,_,_⟩:=dom_at h hd
 clear n1 n2 n3 n4 n5 n6 n7
 obtain ⟨p0,p1⟩:=prg_at h hd hk
 have lg:=h.row.lt
 have ld:=h.dom.lt
 have lp:=(h.prg d hd).lt
 have HN:Hid (m.next d k=(m.ops d k)[m.dn d k]?):=rfl
 have hops:=h.ops d k hd hk
 have HL:Hid _:=hl
 by_cases a1:m.dn d k<(m.ops d k).length
 ·
  have hs:=List.getElem?_eq_getElem a1
  obtain ⟨o,ho⟩:∃ o,(m.ops d k)[m.dn d k]=o:=⟨_,rfl⟩
  rw [ho] at hs
  rcases hops with ⟨e1,_⟩|⟨gO,e1,e2⟩
  · rw [e1] at a1;simp at a1
  obtain ⟨f0,f1,f2⟩:=flat_op hs
  have r0:=e2.cell (m.dn d k*3)
  have r1:=e2.cell (m.dn d k*3+1)
  have r2:=e2.cell (m.dn d k*3+2)
  rw [f0] at r0
  rw [f1] at r1
  rw [f2] at r2
  rw [e1] at p0
  have HO:Hid ((m.next d k).getD opZ=o):=by unfold Hid;rw [HN.out,hs];rfl
  have HI:Hid ((m.next d k).isSome=true):=by unfold Hid;rw [HN.out,hs];rfl
  have lO:=e2.lt
  obtain ⟨ok,oa,ov⟩:=o
  dsimp only at *
  clear ho
  generalize m.dn d k=dn at *
  generalize (m.ops d k).length=len at *
  clear h hs hl f0 f1 f2 e2 e1
  go_enter Tryz.func148,Tryz.ntmps148
  go_wp2
  refine bodyPost_ret (v:=.tuple #[.agg (opArr (ok,oa,ov)),.bool true]) (by simp [results,Tryz.results148,go_sem]) rfl ⟨by rw [HO.out,HI.out],?_⟩
  exact ((Below.refl _ _).alloc (Nat.le_refl _) _).alloc (by simp) _
 ·
  have HO:Hid ((m.next d k).getD opZ=opZ):=by unfold Hid;rw [HN.out,List.getElem?_eq_none (by omega)];rfl
  have HI:Hid ((m.next d k).isSome=false):=by unfold Hid;rw [HN.out,List.getElem?_eq_none (by omega)];rfl
  clear hops
  generalize m.dn d k=dn at *
  generalize (m.ops d k).length=len at *
  clear h hl
  go_enter Tryz.func148,Tryz.ntmps148
  go_wp2
  refine bodyPost_ret (v:=.tuple #[.agg (opArr opZ),.bool false]) (by simp [results,Tryz.results148,go_sem]) rfl ⟨by rw [HO.out,HI.out],?_⟩
  exact ((Below.refl _ _).alloc (Nat.le_refl _) _).alloc (by simp) _
structure Ctx (w0 w:World)(base:Nat)(X:SLoc)(L:RLoc)(M:RDat)(S:So):Prop where
 solo:SoloM w base X S
 below:Below base w0 w
 keep:∀ w',Below base w0 w'→RefM w' L M∧CfgAt w' M.c M.s
 gr:X.gr=L.gr
 d:X.d<L.nd
 n:X.n=M.c.cores.toNat
theorem Ctx.base_le {w0 w:World}{base:Nat}{X:SLoc}{L:RLoc}{M:RDat}{S:So}(h:Ctx w0 w base X L M S):base≤w.heap.size:=by
 have:=h.solo.bs
 have:=h.solo.row.lt
 omega
theorem Ctx.ref {w0 w:World}{base:Nat}{X:SLoc}{L:RLoc}{M:RDat}{S:So}(h:Ctx w0 w base X L M S):RefM w L M:=(h.keep w h.below).1
theorem Ctx.cfg {w0 w:World}{base:Nat}{X:SLoc}{L:RLoc}{M:RDat}{S:So}(h:Ctx w0 w base X L M S):CfgAt w M.c M.s:=(h.keep w h.below).2
theorem Ctx.ok {w0 w:World}{base:Nat}{X:SLoc}{L:RLoc}{M:RDat}{S:So}(h:Ctx w0 w base X L M S):chk M.c=0:=h.ref.right
theorem Ctx.sor {w0 w:World}{base:Nat}{X:SLoc}{L:RLoc}{M:RDat}{S:So}(h:Ctx w0 w base X L M S):SoR w X M.c M.s L M.T:=
 ⟨h.solo.row,by rw [h.gr];exact h.ref.row,h.ok⟩
theorem Ctx.reads {w0 w w':World}{base:Nat}{X:SLoc}{L:RLoc}{M:RDat}{S:So}(h:Ctx w0 w base X L M S)(hb:Below w.heap.size w w'):Ctx w0 w' base X L M S:=
 ⟨h.solo.below hb (Nat.le_refl _),h.below.trans (hb.mono h.base_le),h.keep,h.gr,h.d,h.n⟩
theorem Ctx.writes {w0 w w':World}{base:Nat}{X X':SLoc}{L:RLoc}{M:RDat}{S S':So}(h:Ctx w0 w base X L M S)(hs:SoloM w' base X' S')(hb:Below base w w')(h1:X'.gr=X.gr)(h2:X'.d=X.d)(h3:X'.n=X.n):Ctx w0 w' base X' L M S':=
 ⟨hs,h.below.trans hb,h.keep,by rw [h1];exact h.gr,by rw [h2];exact h.d,by rw [h3];exact h.n⟩
set_option maxHeartbeats 3200000 in
theorem ropens_any (w0:World)(base:Nat)(X:SLoc)(L:RLoc)(M:RDat)(S:So)(k:Nat)(t:Int)(w:World)(h:Ctx w0 w base X L M S)(hk:k<M.c.cores.toNat)(t0:0≤t)(t1:t≤20000) :
  Calls Tryz.prog 125 #[.pointer (some ⟨X.gs,0,none⟩),.int .i64 k,.int .i64 t] w fun e w'=>e = .returned (.int .i64 (opensZ M.c k X.d t))∧Below w.heap.size w w':=by
 have R:=right_of h.ok
 have hrow:=grid_row R (i:=k) (by have:=R.tl;omega)
 have hg:=h.cfg.turns
 obtain ⟨tb,toff,ia,il,ic,hta,hc,hints⟩:=hg.hat k (by have:=hg.hlen;have:=R.tl;omega)
 have hlen:=hints.hlen
 have HZ:Hid (opensZ M.c k X.d t=opensF M.c k X.d (il+1) t):=by unfold Hid opensZ rowOf;rw [hlen]
 have il4:il≤4:=by omega
 have HR:Hid _:=R
 have q1:=R.q1
 have q2:=R.q2
 have w0':=R.w0
 have f1:=R.f1
 have y1:0<M.c.quantum:=by omega
 have y0:¬M.c.quantum=0:=by omega
 have c0:w.cell? ⟨X.gs,0,none⟩=some (.pointer (some ⟨L.gr,0,none⟩)):=by rw [h.solo.row.cell,← h.gr];rfl
 have m10:w.cell? ⟨L.gr,10,none⟩=some (.slice M.s.ta M.s.tl M.s.tc):=by rw [h.ref.row.cell];rfl
 have HIL:Hid _:=hlen
 have hk2:(k:Int)<M.c.cores:=by have:=R.c1;omega
 have tll:k<M.s.tl:=by have:=hg.hlen;have:=R.tl;omega
 have tlm:M.s.tl≤3:=by have:=hg.hlen;have:=R.tl;have:=R.c2;omega
 have tle:=hg.hle
 clear hlen hrow hg
 obtain ⟨mc,ms,mpr,mow,mcm,mT⟩:=M
 obtain ⟨wa,wl,wc,sa,sl,sc,ta,tl,tcp⟩:=ms
 dsimp only at *
 subst hta
 go_enter Tryz.func125,Tryz.ntmps125
 go_wp2_with fail
 go_loopw [7,8] (fun u i wr=>∃ (j:Nat) (v:Int),j≤il+1∧i = .int .i64 j∧u = .int .i64 v∧0≤v∧v≤20000+2000*(j:Int)∧opensF mc k X.d (il+1) t=opensF mc k X.d (il+1-j) v∧Below w.heap.size w wr) (fun _ i _=>(il+1-intOf i).toNat)
 case atStart=>exact ⟨0,t,by omega,rfl,rfl,t0,by omega,by simp,Below.refl _ _⟩
 case round=>
  obtain ⟨j,v,hj,rfl,rfl,v0,v1,hf,hb⟩:=hrel
  have HF:Hid _:=hf
  have hx:=h.reads hb
  have cr0:wr.cell? ⟨X.gs,0,none⟩=some (.pointer (some ⟨L.gr,0,none⟩)):=by rw [hx.solo.row.cell,← hx.gr];rfl
  have cr1:wr.cell? ⟨X.gs,1,none⟩=some (.int .i64 X.d):=by rw [hx.solo.row.cell];rfl
  have mr:=row_q hx.ref.row
  have tc:wr.cell? ⟨tb,toff+k,none⟩=some (.slice ia il ic):=by
   rw [hb.cell (p:=⟨tb,toff+k,none⟩) (cell_lt hc)];exact hc
  clear hf
  have mr10:=mr 10
  have mr11:=mr 11
  simp only [List.size_toArray,List.length_cons,List.length_nil,Nat.reduceAdd,Nat.reduceLT,getElem?_pos,List.getElem_toArray,List.getElem_cons_succ,List.getElem_cons_zero] at mr10 mr11
  by_cases hlt:(j:Int)≤(il:Int)
  ·
   have HU:Hid (opensF mc k X.d (il+1-j) v=if openB mc k X.d v=true then v else opensF mc k X.d (il+1-(j+1)) ((v / mc.quantum+1)*mc.quantum)):=by
    unfold Hid
    rw [show il+1-j=(il+1-(j+1))+1 by omega,opensF]
   have HO:=ropen_any mc ⟨wa,wl,wc,sa,sl,sc,some ⟨tb,toff,none⟩,tl,tcp⟩ k X.d v
   cases ho:openB mc k X.d v with
   | true=>
    rw [ho] at HO
    go_wp2_with fail
    go_region_with (go_at_call 81;refine (HO _ hx.cfg.drew HR.out hk2 v0 (by omega)).mono ?_;rintro e w1 ⟨rfl,hb1⟩;have hb2:=below_step hb.drew hb1 rfl)
    all_goals go_wp2
    all_goals go_ret
    all_goals exact ⟨ret_int (by rw [HZ.out,HF.out,HU.out,if_pos ho]),hb2⟩
   | false=>
    rw [ho] at HO
    have e1:=Int.mul_ediv_add_emod v mc.quantum
    have s0:=Int.emod_nonneg v (show mc.quantum≠0 by omega)
    rw [Int.mul_comm] at e1
    have z0:0≤v / mc.quantum:=Int.ediv_nonneg v0 (by omega)
    have z1:v / mc.quantum≤v:=Int.ediv_le_self _ v0
    have z2:0≤v / mc.quantum*mc.quantum:=Int.mul_nonneg z0 (by omega)
    have z3:(v / mc.quantum+1)*mc.quantum=v / mc.quantum*mc.quantum+mc.quantum:=by rw [Int.add_mul,Int.one_mul]
    have b0:0≤(v / mc.quantum+1)*mc.quantum:=by omega
    have b1:(v / mc.quantum+1)*mc.quantum≤v+2000:=by omega
    have hw1:IntKind.i64.wrap (v / mc.quantum+1)=v / mc.quantum+1:=by rw [IntKind.wrap_i64];omega
    have hw2:IntKind.i64.wrap ((v / mc.quantum+1)*mc.quantum)=(v / mc.quantum+1)*mc.quantum:=by rw [IntKind.wrap_i64];omega
    clear e1 s0 z2 z3
    go_wp2_with fail
    go_region_with (go_at_call 81;refine (HO _ hx.cfg.drew HR.out hk2 v0 (by omega)).mono ?_;rintro e w1 ⟨rfl,hb1⟩;have hb2:=below_step hb.drew hb1 rfl)
    all_goals
     have hx2:=h.reads hb2
     have cs0:w1.cell? ⟨X.gs,0,none⟩=some (.pointer (some ⟨L.gr,0,none⟩)):=by rw [hx2.solo.row.cell,← hx2.gr];rfl
     have ms11:w1.cell? ⟨L.gr,11,none⟩=some (.int .i64 mc.quantum):=by rw [hx2.ref.row.cell];rfl
     clear cr0 cr1 mr tc mr10 mr11
    all_goals
     go_wp2_with fail
     go_quiet (fail)
     go_wp2
     go_roundw
     case rel=>exact ⟨j+1,(v / mc.quantum+1)*mc.quantum,by omega,by go_num,by first | rfl | go_num,by omega,by omega,by rw [HF.out,HU.out,if_neg (by rw [ho];simp)],Go.below_drewN hb2 _⟩
     case measure=>simp [intOf];omega
  ·
   have ej:il+1-j=0:=by omega
   go_wp2
   go_ret
   exact ⟨ret_int (by rw [HZ.out,HF.out,ej];rfl),hb⟩
theorem play_start {w:World}{L:RLoc}{M:RDat}{d n gn gf gb gh:Nat}(h:RefM w L M)(hc:CfgAt w M.c M.s)(hd:d<L.nd)(hn:n=M.c.cores.toNat)
  (h1:w.heap.size≤gn∧gn<w.heap.size+4) (h2:w.heap.size≤gf∧gf<w.heap.size+4) (h3:w.heap.size≤gb∧gb<w.heap.size+4) (h4:w.heap.size≤gh∧gh<w.heap.size+4)
  (hx:gn≠gf∧gn≠gb∧gn≠gh∧gf≠gb∧gf≠gh∧gb≠gh) :
  Ctx w (((((w.alloc (.cells (List.replicate n (Value.int .i64 0)).toArray 3)).alloc (.cells (List.replicate n (Value.int .i64 0)).toArray 3)).alloc (.cells (List.replicate n (Value.int .i64 0)).toArray 3)).alloc (.cells (List.replicate n (Value.int .i64 0)).toArray 3)).alloc (.cells (soloL ⟨w.heap.size+4,L.gr,d,none,0,0,none,0,0,gn,gf,gb,gh,n,none,0,0⟩).toArray 126)).drew
   w.heap.size ⟨w.heap.size+4,L.gr,d,none,0,0,none,0,0,gn,gf,gb,gh,n,none,0,0⟩ L M (So.start n):=by
 obtain ⟨Z,hZ⟩:∃ Z,Obj.cells (List.replicate n (Value.int .i64 0)).toArray 3=Z:=⟨_,rfl⟩
 rw [hZ]
 have b0:Below w.heap.size w (w.alloc Z):=(Below.refl _ _).alloc (Nat.le_refl _) _
 have b1:Below w.heap.size w ((w.alloc Z).alloc Z):=b0.alloc b0.size _
 have b2:Below w.heap.size w (((w.alloc Z).alloc Z).alloc Z):=b1.alloc b1.size _
 have b3:Below w.heap.size w ((((w.alloc Z).alloc Z).alloc Z).alloc Z):=b2.alloc b2.size _
 have q0:Row (w.alloc Z) w.heap.size (List.replicate n (Value.int .i64 0)) 3:=by rw [← hZ];exact heap_alloc_new w _
 have q1:Row ((w.alloc Z).alloc Z) (w.heap.size+1) (List.replicate n (Value.int .i64 0)) 3:=by
  have e:(w.alloc Z).heap.size=w.heap.size+1:=by simp
  rw [← e]
  conv=>arg 1;arg 2;rw [← hZ]
  exact heap_alloc_new (w.alloc Z) _
 have q2:Row (((w.alloc Z).alloc Z).alloc Z) (w.heap.size+2) (List.replicate n (Value.int .i64 0)) 3:=by
  have e:((w.alloc Z).alloc Z).heap.size=w.heap.size+2:=by simp
  rw [← e]
  conv=>arg 1;arg 2;rw [← hZ]
  exact heap_alloc_new ((w.alloc Z).alloc Z) _
 have q3:Row ((((w.alloc Z).alloc Z).alloc Z).alloc Z) (w.heap.size+3) (List.replicate n (Value.int .i64 0)) 3:=by
  have e:(((w.alloc Z).alloc Z).alloc Z).heap.size=w.heap.size+3:=by simp
  rw [← e]
  conv=>arg 1;arg 2;rw [← hZ]
  exact heap_alloc_new (((w.alloc Z).alloc Z).alloc Z) _
 have e4:((((w.alloc Z).alloc Z).alloc Z).alloc Z).heap.size=w.heap.size+4:=by simp
 have rr:∀ g,w.heap.size≤g→g<w.heap.size+4→Row ((((w.alloc Z).alloc Z).alloc Z).alloc Z) g (List.replicate n (Value.int .i64 0)) 3:=fun g g1 g2=>by
  have:g=w.heap.size∨g=w.heap.size+1∨g=w.heap.size+2∨g=w.heap.size+3:=by omega
  rcases this with rfl|rfl|rfl|rfl
  · exact Row.alloc (Row.alloc (Row.alloc q0 _) _) _
  · exact Row.alloc (Row.alloc q1 _) _
  · exact Row.alloc q2 _
  · exact q3
 generalize (((w.alloc Z).alloc Z).alloc Z).alloc Z=W at *
 have hm:(List.replicate n (0:Int)).map (Value.int .i64)=List.replicate n (.int .i64 0):=by simp
 have r4:Row (W.alloc (.cells (soloL ⟨w.heap.size+4,L.gr,d,none,0,0,none,0,0,gn,gf,gb,gh,n,none,0,0⟩).toArray 126)) (w.heap.size+4) (soloL ⟨w.heap.size+4,L.gr,d,none,0,0,none,0,0,gn,gf,gb,gh,n,none,0,0⟩) 126:=by
  rw [← e4]
  exact heap_alloc_new W _
 have hb4:=(b3.alloc b3.size (.cells (soloL ⟨w.heap.size+4,L.gr,d,none,0,0,none,0,0,gn,gf,gb,gh,n,none,0,0⟩).toArray 126)).drew
 refine ⟨⟨r4,by show w.heap.size≤w.heap.size+4;omega,World.ownsRow_nil _ _ _ _,rfl,World.ownsRow_nil _ _ _ _,rfl,?_,by simp [So.start],h1.1,?_,by simp [So.start],h2.1,?_,by simp [So.start],h3.1,?_,by simp [So.start],h4.1,hx,⟨rfl,Or.inl ⟨rfl,rfl,rfl⟩⟩⟩,hb4,fun w' hw=>⟨h.below hw (Nat.le_refl _),hc.below hw (Nat.le_refl _)⟩,rfl,hd,hn⟩
 ·
  show Row _ gn ((List.replicate n (0:Int)).map (Value.int .i64)) 3
  rw [hm];exact Row.alloc (rr gn h1.1 h1.2) _
 ·
  show Row _ gf ((List.replicate n (0:Int)).map (Value.int .i64)) 3
  rw [hm];exact Row.alloc (rr gf h2.1 h2.2) _
 ·
  show Row _ gb ((List.replicate n (0:Int)).map (Value.int .i64)) 3
  rw [hm];exact Row.alloc (rr gb h3.1 h3.2) _
 ·
  show Row _ gh ((List.replicate n (0:Int)).map (Value.int .i64)) 3
  rw [hm];exact Row.alloc (rr gh h4.1 h4.2) _
end Go.Proofs.YtehheaedbnfidaaGreat
