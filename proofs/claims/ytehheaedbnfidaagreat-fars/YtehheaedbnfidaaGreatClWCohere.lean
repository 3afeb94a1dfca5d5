import Derived.Test.YtehheaedbnfidaaGreatClWPairD
set_option maxRecDepth 100000
namespace Go.Proofs.YtehheaedbnfidaaGreat
theorem mem_more {P:Ent→Prop}{e:Ent}{L:List Ent}(h:∀ x∈L,P x)(he:P e):∀ x∈e::L,P x:=fun x hx=>by
 rcases List.mem_cons.1 hx with q|q
 · subst q;exact he
 · exact h x q
theorem fault_line {c:Cf}(hc:chk c=0){o:OpT}(h:faultF c o=0):0≤o.2.1∧o.2.1<c.priv+c.shared∧o.2.1 / c.line*c.line≤o.2.1∧(o.1=1→o.2.1<c.priv):=by
 have hl:0<c.line:=by
  have:=(nm_of hc).ln
  have:=(nm_of hc).l0
  omega
 unfold faultF at h
 by_cases g:o.2.1<0∨c.priv+c.shared≤o.2.1
 · rw [if_pos g] at h;omega
 ·
  rw [if_neg g] at h
  have hm:=Int.ediv_mul_le o.2.1 (show c.line≠0 by omega)
  refine ⟨by omega,by omega,hm,fun q=>?_⟩
  by_cases g2:o.1=1∧c.priv≤o.2.1
  · rw [if_pos g2] at h;omega
  · omega
def CpOk (N:Cn)(p:Nat)(c:Cp):Prop:=c=cpE∨∃ d x:Nat,d<N.nd∧c.dom=d∧c.line=x∧x%N.nn=p∧(c.st=1∨c.st=2∨c.st=3)
def PlOk (N:Cn)(nr:Nat→Nat→Cp):Prop:=∀ k p,CpOk N p (nr k p)
theorem PlOk.put {N:Cn}{nr:Nat→Nat→Cp}(h:PlOk N nr){d:Nat}(hd:d<N.nd)(k x:Nat){s:Int}(hs:s=1∨s=2∨s=3):PlOk N (putN N.nn nr k d x s):=fun j p=>by
 unfold putN up2
 split
 · next q=>exact Or.inr ⟨d,x,hd,rfl,rfl,q.2.symm,hs⟩
 · exact h j p
theorem PlOk.drop {N:Cn}{nr:Nat→Nat→Cp}(h:PlOk N nr)(p:Nat→Bool)(d:Int)(x:Nat):PlOk N (dropAllN p N.nn nr d x):=fun j q=>by
 unfold dropAllN
 split
 · exact Or.inl rfl
 · exact h j q
theorem PlOk.share {N:Cn}{nr:Nat→Nat→Cp}(h:PlOk N nr)(p:Nat→Bool){d:Nat}(hd:d<N.nd)(x:Nat):PlOk N (shareAllN p N.nn nr d x):=fun j q=>by
 unfold shareAllN
 split
 · next g=>exact Or.inr ⟨d,x,hd,rfl,rfl,g.2.1.symm,Or.inl rfl⟩
 · exact h j q
theorem perform_nr (N:Cn)(m:Mh)(d:Nat)(o:OpT):(m.perform N d o).nr=m.nr:=by
 unfold Mh.perform
 simp only
 split <;> rfl
theorem endFault_nr (N:Cn)(m:Mh)(k:Nat):(m.endFault N k).nr=m.nr:=by
 unfold Mh.endFault
 split
 · rfl
 · split <;> rfl
theorem PlOk.begin {N:Cn}{m:Mh}(h:PlOk N m.nr){d:Nat}(hd:d<N.nd)(k:Nat)(o:OpT):PlOk N (m.begin N d k o).nr:=by
 unfold Mh.begin
 simp only
 split
 · exact h
 ·
  split
  · exact h
  ·
   show PlOk N (Mh.perform N _ d o).nr
   rw [perform_nr]
   split
   · exact h.put hd _ _ (Or.inr (Or.inr rfl))
   · exact h
theorem PlOk.step {N:Cn}{m:Mh}(hN:Nm N.c N)(h:PlOk N m.nr){k:Nat}(hk:k<N.nc)(served:Int):PlOk N (m.step N served k).nr:=by
 unfold Mh.step
 split
 · rw [endFault_nr];exact h
 ·
  split
  · exact h
  ·
   split
   · exact h
   ·
    next ho=>
    have ho':openB N.c k (turnZ N.c k m.now) m.now=true:=by simpa using ho
    have hr:=lturn_range hN.right (by have:=hN.nc;omega) ho'
    have hnd:=hN.nd
    split
    · exact h
    · exact h.begin (by omega) _ _
theorem PlOk.hand {N:Cn}{m:Mh}(h:PlOk N m.nr){d:Nat}(hd:d<N.nd)(k:Nat)(o:OpT):PlOk N (m.hand N d k o).nr:=by
 unfold Mh.hand
 simp only
 split
 · exact (h.drop _ _ _).put hd _ _ (Or.inr (Or.inr rfl))
 ·
  refine (h.share _ hd _).put hd _ _ ?_
  split
  · exact Or.inl rfl
  · exact Or.inr (Or.inl rfl)
theorem PlOk.fetch {N:Cn}{m:Mh}(h:PlOk N m.nr)(d x:Nat):PlOk N (m.fetch N d x).nr:=by
 unfold Mh.fetch
 simp only
 split
 ·
  show PlOk N (ite _ _ _:Mh).nr
  split
  · exact h
  · exact h.drop _ _ _
 ·
  show PlOk N (ite _ _ _:Mh).nr
  split
  · exact h
  · exact h.drop _ _ _
theorem PlOk.serve {N:Cn}{m:Mh}(h:PlOk N m.nr){d:Nat}(hd:d<N.nd):PlOk N (m.serve N d).1.nr:=by
 unfold Mh.serve
 split
 · exact h
 ·
  simp only
  split
  · exact h
  ·
   split
   · exact h.fetch _ _
   ·
    show PlOk N (Mh.perform N _ d _).nr
    rw [perform_nr]
    refine PlOk.hand ?_ hd _ _
    exact h
theorem PlOk.service {N:Cn}{m:Mh}(hN:Nm N.c N)(h:PlOk N m.nr):PlOk N (m.service N).1.nr:=by
 unfold Mh.service
 split
 · exact h
 ·
  next g=>
  have hnd:=hN.nd
  refine h.serve ?_
  rcases lserved_range hN.right m.now with q|q <;> omega
theorem PlOk.steps {N:Cn}(hN:Nm N.c N)(served:Int):∀ (n:Nat) {m:Mh},n≤N.nc→PlOk N m.nr→PlOk N (Mh.steps N served n m).nr
 | 0,_,_,h=>h
 | n+1,_,hn,h=>(PlOk.steps hN served n (by omega) h).step hN (by omega) served
theorem PlOk.cycle {N:Cn}{m:Mh}(hN:Nm N.c N)(h:PlOk N m.nr):PlOk N (m.cycle N).nr:=by
 unfold Mh.cycle
 simp only
 refine PlOk.steps hN _ _ (Nat.le_refl _) (PlOk.service hN ?_)
 split
 · exact fun _ _=>Or.inl rfl
 · exact h
theorem PlOk.runs {N:Cn}{m:Mh}(hN:Nm N.c N)(h:PlOk N m.nr):∀ T,PlOk N (Mh.runs N T m).nr
 | 0=>h
 | T+1=>(PlOk.runs hN h T).cycle hN
theorem turn_bd {c:Cf}(h:chk c=0){k:Nat}{t:Int}(hk:(k:Int)<c.cores):-1≤turnZ c k t∧turnZ c k t<c.domains:=by
 have R:=right_of h
 have hi:k<c.turns.length:=by have:=R.tl;omega
 have hrow:=grid_row R hi
 have e:c.turns.getD k []=c.turns[k]:=by simp [List.getD,hi]
 have hl:=R.each _ (List.getElem_mem hi)
 rw [← e] at hl
 unfold turnZ rowOf
 obtain ⟨j,hj,hjl⟩:=mod_nat (a:=t / c.quantum) (n:=(c.turns.getD k []).length) (by omega)
 rw [hj,Int.toNat_natCast]
 unfold listB at hl
 simp only [Bool.and_eq_true,List.all_eq_true] at hl
 have hm:∀ (l:List Int) (j:Nat),j<l.length→l.getD j 0∈l:=fun l j hj=>by
  rw [List.getD_eq_getElem?_getD,List.getElem?_eq_getElem hj]
  exact List.getElem_mem hj
 have hm:=hm _ j hjl
 have:=hl.2 _ hm
 rw [within_iff] at this
 omega
def StoL (c:Cf)(L:List Ent):Prop:=∀ e∈L,e.what=4→e.addr<c.priv
theorem StoL.not4 {c:Cf}{L:List Ent}(h:StoL c L){e:Ent}(hw:e.what≠4):StoL c (e::L):=mem_more h (fun q=>absurd q hw)
theorem StoL.more {c:Cf}{L:List Ent}(h:StoL c L){e:Ent}(ha:e.addr<c.priv):StoL c (e::L):=mem_more h (fun _=>ha)
theorem sto_service {M:MDat}{d:Nat}{S:So}{B:Nat}{t:Int}(hc:chk M.c=0)(hs:SoOk M d S B)(h:StoL M.c S.log):StoL M.c (So.service M d S t).log:=by
 unfold So.service
 by_cases c1:servesB M.c d t=true
 ·
  rw [if_pos c1]
  cases hq:S.queue with
  | nil=>
   have:So.serve M d S t=S:=by unfold So.serve;rw [hq]
   rw [this];exact h
  | cons q r=>
   obtain ⟨k,rfl,hk,hk1⟩:=hs.qu q (by rw [hq];exact List.mem_cons_self ..)
   have hf0:=hs.w1 k hk hk1
   rcases ho:opAt M d k S with ⟨okd,oad,ovl⟩
   rw [ho] at hf0
   obtain ⟨f1,f2,f3,f4⟩:=fault_line hc hf0
   simp only at f1 f2 f3 f4
   by_cases hw1:0≤whereF (oad / M.c.line) S.log
   ·
    by_cases hkd:okd=1
    ·
     subst hkd
     rw [serve_store hq ho rfl hw1]
     show StoL _ (_::_::S.log)
     exact StoL.more (h.not4 (by show (3:Int)≠4;decide)) (f4 rfl)
    ·
     rw [serve_load hq ho hkd rfl hw1]
     show StoL _ (_::S.log)
     exact h.not4 (by show (3:Int)≠4;decide)
   ·
    obtain ⟨way,hcw⟩:∃ way,chosenF M.c (M.c.ways.count (d:Int)) (oad / M.c.line%M.c.sets) S.log=way:=⟨_,rfl⟩
    obtain ⟨y,hy⟩:∃ y,liesF M.c (oad / M.c.line%M.c.sets) way S.log=y:=⟨_,rfl⟩
    by_cases h0:0≤y
    ·
     cases hm:markedF y S.log with
     | true=>
      rw [serve_gone hq ho rfl hw1 hcw hy h0 hm]
      show StoL _ (_::S.log)
      exact h.not4 (by show (2:Int)≠4;decide)
     | false=>
      rw [serve_both hq ho rfl hw1 hcw hy h0 hm]
      show StoL _ (_::_::S.log)
      exact StoL.not4 (h.not4 (by show (2:Int)≠4;decide)) (by show (1:Int)≠4;decide)
    ·
     rw [serve_fill hq ho rfl hw1 hcw hy h0]
     show StoL _ (_::S.log)
     exact h.not4 (by show (1:Int)≠4;decide)
 · rw [if_neg c1];exact h
theorem sto_works {M:MDat}{d k:Nat}{S:So}{t:Int}(hc:chk M.c=0)(h:StoL M.c S.log):StoL M.c (So.works M d k S t).log:=by
 unfold So.works
 split
 · exact h
 ·
  split
  · exact h
  ·
   unfold So.begin
   by_cases d1:faultF M.c (opAt M d k S)≠0
   · simp only [if_pos d1];exact h
   ·
    simp only [if_neg d1]
    have d1':faultF M.c (opAt M d k S)=0:=Classical.byContradiction d1
    obtain ⟨f1,f2,f3,f4⟩:=fault_line hc d1'
    by_cases d2:stateF M.c k ((opAt M d k S).2.1 / M.c.line) t false S.log=0∨((opAt M d k S).1=1∧stateF M.c k ((opAt M d k S).2.1 / M.c.line) t false S.log=1)
    · simp only [if_pos d2];exact h
    ·
     simp only [if_neg d2]
     by_cases d3:(opAt M d k S).1=1
     ·
      simp only [if_pos d3]
      show StoL _ (_::S.log)
      exact h.more (f4 d3)
     · simp only [if_neg d3];exact h
theorem sto_worksAll {M:MDat}{d:Nat}{t:Int}(hc:chk M.c=0):∀ (n j:Nat) {S:So},StoL M.c S.log→StoL M.c (So.worksAll M d t n j S).log
 | 0,_,_,h=>h
 | n+1,j,S,h=>by
  unfold So.worksAll
  exact sto_worksAll hc n (j+1) (sto_works hc h)
theorem sto_upto {M:MDat}{d:Nat}(hc:chk M.c=0):∀ T:Nat,T≤10000→StoL M.c (So.upto M d T).log
 | 0,_=>fun e he=>by simp [So.upto,So.start] at he
 | t+1,h=>sto_worksAll hc _ _ (sto_service hc (SoOk.upto (M:=M) (d:=d) hc t (by omega)) (sto_upto hc t (by omega)))
theorem word_shared {c:Cf}{a i:Int}(ha:c.priv≤a):∀ {L:List Ent},StoL c L→wordF a i L=i
 | [],_=>rfl
 | e::r,h=>by
  have ih:=word_shared (i:=i) ha (L:=r) (fun x hx=>h x (List.mem_cons_of_mem _ hx))
  have h0:=h e (List.mem_cons_self ..)
  unfold wordF
  rw [if_neg (by
   simp only [Bool.and_eq_true,beq_iff_eq]
   rintro ⟨q1,q2⟩
   have:=h0 q1
   omega)]
  exact ih
theorem memory_shared {c:Cf}{x a i:Int}(ha:c.priv≤a):∀ {L:List Ent},StoL c L→memoryF x a i L=i
 | [],_=>rfl
 | e::r,h=>by
  have hr:StoL c r:=fun x hx=>h x (List.mem_cons_of_mem _ hx)
  unfold memoryF
  split
  · exact word_shared ha hr
  · exact memory_shared ha hr
theorem placesR {M:RDat}{m:Mh}(h:PairD M m)(hz:chk M.c=0):PlOk (cnOf M.c) m.nr:=by
 rw [h.run]
 exact PlOk.runs (N:=cnOf M.c) (nm_of hz) (fun _ _=>Or.inl rfl) _
theorem placeR {M:RDat}{m:Mh}(h:PairD M m)(hz:chk M.c=0)(hT0:0≤M.T)(hT:M.T≤10000){k:Nat}(hk:k<M.c.cores.toNat)(p:Nat) :
  m.nr k p=cpE∨∃ d y:Nat,(d:Int)<M.c.domains∧m.nr k p=⟨d,y,stateF M.c k y (M.T-1) false (So.upto M.toM d M.T.toNat).log⟩∧y%M.c.near.toNat=p∧stateF M.c k y (M.T-1) false (So.upto M.toM d M.T.toNat).log≠0∧1≤M.T∧turnZ M.c k (M.T-1)=d∧y<((M.c.priv+M.c.shared) / M.c.line).toNat:=by
 have R:=right_of hz
 have hN:=nm_of hz
 rcases placesR h hz k p with q|⟨d,y,h1,h2,h3,h4,h5⟩
 · exact Or.inl q
 ·
  right
  have hd:(d:Int)<M.c.domains:=by have:=hN.nd;omega
  have L:=(linksR h hz hT).log d h1
  have et:(M.T.toNat:Int)-1=M.T-1:=by omega
  rw [et] at L
  have hst:stateN (cnOf M.c).nn m.nr k d y=(m.nr k p).st:=by
   unfold stateN
   rw [h4,if_pos ⟨h2,h3⟩]
  have hs:stateF M.c k y (M.T-1) false (So.upto M.toM d M.T.toNat).log=(m.nr k p).st:=(L.near k y hk).symm.trans hst
  have hne:stateF M.c k y (M.T-1) false (So.upto M.toM d M.T.toNat).log≠0:=by rw [hs];omega
  obtain ⟨e,he,hw,hc,hl,hfl⟩:=state_entry hne
  obtain ⟨v,_,_,_,hvf,hvl,_⟩:=logev_upto (M:=M.toM) (d:=d) hz M.T.toNat (by omega) e he hw
  have hvl':(opOf M.toM d v).2.1 / M.c.line=y:=by
   have:lineF M.toM d v=(opOf M.toM d v).2.1 / M.c.line:=rfl
   rw [← this,hvl,hl]
  obtain ⟨f1,f2,f3,_⟩:=fault_line hz hvf
  have f2':(opOf M.toM d v).2.1<M.c.priv+M.c.shared:=f2
  have het:=(SoOk.upto (M:=M.toM) (d:=d) hz M.T.toNat (by omega)).log e he
  have hte0:=het.t0
  have hte1:=(L.lt e he).1
  have hl0:0<M.c.line:=by
   have:=hN.ln
   have:=hN.l0
   omega
  have hyl:(y:Int)<(M.c.priv+M.c.shared) / M.c.line:=by
   obtain ⟨q,hq⟩:=hN.ds
   have e1:=hN.pv
   have e2:=hN.sn
   have e3:=hN.ln
   have hqq:M.c.priv+M.c.shared=(q:Int)*M.c.line:=by
    rw [← e1,← e2,← e3,← Int.natCast_add,hq,Int.natCast_mul]
   rw [hqq,Int.mul_ediv_cancel _ (show M.c.line≠0 by omega)]
   rw [← hvl']
   exact (Int.ediv_lt_iff_lt_mul hl0).2 (by rw [← hqq];exact f2')
  refine ⟨d,y,hd,?_,h4,hne,by omega,?_,by omega⟩
  ·
   rw [hs]
   rcases hc:m.nr k p with ⟨a,b,c⟩
   rw [hc] at h2 h3
   simp only at h2 h3
   rw [h2,h3]
  · exact Classical.byContradiction fun q=>hne (L.lt.away R q y)
def NearF (c:Cf)(k:Nat)(t:Int)(d:Nat)(L:List Ent)(n:Nat)(A:Nat→Cp):Prop:=
 ∀ p,p<c.near.toNat→(A p=cpE∧∀ y:Nat,y<n→y%c.near.toNat=p→stateF c k y t false L=0)∨∃ y:Nat,y<n∧y%c.near.toNat=p∧stateF c k y t false L≠0∧A p=⟨d,y,stateF c k y t false L⟩
theorem NearF.start (c:Cf)(k:Nat)(t:Int)(d:Nat)(L:List Ent):NearF c k t d L 0 (fun _=>cpE):=fun p _=>Or.inl ⟨rfl,fun y hy=>by omega⟩
theorem NearF.none {c:Cf}{k:Nat}{t:Int}{d:Nat}{L:List Ent}{n:Nat}{A:Nat→Cp}(h:NearF c k t d L n A)(hs:stateF c k n t false L=0):NearF c k t d L (n+1) A:=fun p hp=>by
 rcases h p hp with ⟨h1,h2⟩|⟨y,h1,h2⟩
 ·
  refine Or.inl ⟨h1,fun y hy hm=>?_⟩
  by_cases e:y=n
  · subst e;exact hs
  · exact h2 y (by omega) hm
 · exact Or.inr ⟨y,by omega,h2⟩
theorem NearF.one {c:Cf}{k:Nat}{t:Int}{d:Nat}{L:List Ent}{n:Nat}{A:Nat→Cp}(h:NearF c k t d L n A)(hs:stateF c k n t false L≠0):NearF c k t d L (n+1) (up1 A (n%c.near.toNat) ⟨d,n,stateF c k n t false L⟩):=fun p hp=>by
 by_cases e:p=n%c.near.toNat
 ·
  subst e
  exact Or.inr ⟨n,by omega,rfl,hs,up1_same ..⟩
 ·
  rw [up1_other _ _ e]
  rcases h p hp with ⟨h1,h2⟩|⟨y,h1,h2⟩
  ·
   refine Or.inl ⟨h1,fun y hy hm=>?_⟩
   by_cases e2:y=n
   · subst e2;exact absurd hm.symm e
   · exact h2 y (by omega) hm
  · exact Or.inr ⟨y,by omega,h2⟩
theorem nearR {M:RDat}{m:Mh}(h:PairD M m)(hz:chk M.c=0)(hT0:0≤M.T)(hT:M.T≤10000){k d:Nat}(hk:k<M.c.cores.toNat)(hd:turnZ M.c k (M.T-1)=d)(hdd:(d:Int)<M.c.domains){A:Nat→Cp}(hA:NearF M.c k (M.T-1) d (So.upto M.toM d M.T.toNat).log ((M.c.priv+M.c.shared) / M.c.line).toNat A){p:Nat}(hp:p<M.c.near.toNat):A p=m.nr k p:=by
 have hN:=nm_of hz
 rcases hA p hp with ⟨h1,h2⟩|⟨y,h1,h2,h3,h4⟩
 ·
  rw [h1]
  rcases placeR h hz hT0 hT hk p with q|⟨d',y,g1,g2,g3,g4,g5,g6,g7⟩
  · exact q.symm
  ·
   have ed:d'=d:=by omega
   subst ed
   exact absurd (h2 y g7 g3) g4
 ·
  rw [h4]
  have L:=(linksR h hz hT).log d (by have:=hN.nd;omega)
  have et:(M.T.toNat:Int)-1=M.T-1:=by omega
  rw [et] at L
  have hs:=L.near k y hk
  unfold stateN at hs
  rw [show y%(cnOf M.c).nn=p from h2] at hs
  by_cases g:(m.nr k p).dom=(d:Int)∧(m.nr k p).line=(y:Int)
  ·
   rw [if_pos g] at hs
   rw [← show (m.nr k p).st=stateF M.c k y (M.T-1) false (So.upto M.toM d M.T.toNat).log from hs]
   rcases hc:m.nr k p with ⟨a,b,c⟩
   rw [hc] at g
   simp only at g
   rw [g.1,g.2]
  ·
   rw [if_neg g] at hs
   exact absurd hs.symm h3
theorem nearR_none {M:RDat}{m:Mh}(h:PairD M m)(hz:chk M.c=0)(hT0:0≤M.T)(hT:M.T≤10000){k:Nat}(hk:k<M.c.cores.toNat)(hd:M.T=0∨turnZ M.c k (M.T-1)<0)(p:Nat):m.nr k p=cpE:=by
 rcases placeR h hz hT0 hT hk p with q|⟨d',y,g1,g2,g3,g4,g5,g6,g7⟩
 · exact q
 · omega
theorem farR {M:RDat}{m:Mh}(h:PairD M m)(hz:chk M.c=0)(hT:M.T≤10000){d:Nat}(hd:(d:Int)<M.c.domains){s j:Nat}(hs:s<M.c.sets.toNat)(hj:j<M.c.ways.count (d:Int)) :
  (m.blk d s j).line=liesF M.c s j (So.upto M.toM d M.T.toNat).log∧(m.blk d s j).mkd=if 0≤liesF M.c s j (So.upto M.toM d M.T.toNat).log then markedF (liesF M.c s j (So.upto M.toM d M.T.toNat).log) (So.upto M.toM d M.T.toNat).log else false:=by
 have hN:=nm_of hz
 have L:=(linksR h hz hT).log d (by have:=hN.nd;omega)
 have hlo:=L.far.low s j hs hj
 have hln:(m.blk d s j).line=liesF M.c s j (So.upto M.toM d M.T.toNat).log:=L.far.line s j hs hj
 refine ⟨hln,?_⟩
 rw [← hln]
 by_cases g:0≤(m.blk d s j).line
 ·
  rw [if_pos g]
  exact L.far.mkd s j hs hj g
 ·
  rw [if_neg g]
  exact L.emp s j hs hj (by omega)
theorem memR {M:RDat}{m:Mh}(h:PairD M m)(hz:chk M.c=0)(hT:M.T≤10000){d:Nat}(hd:(d:Int)<M.c.domains){a:Nat}(ha:(a:Int)<M.c.priv+M.c.shared) :
  wordM M.c.priv.toNat M.c.shared.toNat (m.own d) m.sh a=memoryF ((a:Int) / M.c.line) a (firstF0 M.toM d a) (So.upto M.toM d M.T.toNat).log:=by
 have hN:=nm_of hz
 have L:=(linksR h hz hT).log d (by have:=hN.nd;omega)
 have e1:=hN.pv
 have e2:=hN.sn
 have e3:=hN.ln
 have e4:(cnOf M.c).pv=M.c.priv.toNat:=rfl
 have e5:(cnOf M.c).sn=M.c.shared.toNat:=rfl
 have hdv:((a:Int) / M.c.line)=((a / (cnOf M.c).ln:Nat):Int):=by rw [← e3,Int.natCast_ediv]
 unfold wordM
 by_cases g:a<M.c.priv.toNat
 ·
  rw [if_pos g,hdv]
  exact L.mem.mem a g
 ·
  rw [if_neg g,if_pos (by omega)]
  rw [memory_shared (c:=M.c) (by omega) (sto_upto (M:=M.toM) (d:=d) hz M.T.toNat (by omega))]
  exact L.sh a (by omega) (by omega)
end Go.Proofs.YtehheaedbnfidaaGreat
namespace Go.Proofs.YtehheaedbnfidaaGreat
open Go.RowKit
theorem flatR (f:Nat→List Value)(z:Nat)(hf:∀ i,(f i).length=z):∀ n:Nat,((List.range n).flatMap f).length=n*z∧∀ i j,i<n→j<z→((List.range n).flatMap f)[i*z+j]? = (f i)[j]?
 | 0=>⟨by simp,fun i j hi=>by omega⟩
 | n+1=>by
  obtain ⟨h1,h2⟩:=flatR f z hf n
  rw [List.range_succ,List.flatMap_append]
  have e:[n].flatMap f=f n:=by simp
  rw [e]
  refine ⟨by rw [List.length_append,h1,hf,Nat.succ_mul],fun i j hi hj=>?_⟩
  by_cases c:i<n
  ·
   have hlt:i*z+j<n*z:=by
    have:(i+1)*z≤n*z:=Nat.mul_le_mul_right _ c
    rw [Nat.succ_mul] at this
    omega
   rw [List.getElem?_append_left (by rw [h1];exact hlt),h2 i j c hj]
  ·
   have ei:i=n:=by omega
   subst ei
   rw [List.getElem?_append_right (by rw [h1];omega),h1,show i*z+j-i*z=j by omega]
def cpsL (f:Nat→Cp)(n:Nat):List Value:=(List.range n).flatMap fun p=>cpL (f p)
theorem cps_len (f:Nat→Cp)(n:Nat):(cpsL f n).length=n*3:=(flatR (fun p=>cpL (f p)) 3 (fun _=>rfl) n).1
theorem cps_at (f:Nat→Cp){n p j:Nat}(hp:p<n)(hj:j<3):(cpsL f n)[p*3+j]? = (cpL (f p))[j]? := (flatR (fun p=>cpL (f p)) 3 (fun _=>rfl) n).2 p j hp hj
theorem cps_cell (f:Nat→Cp){n i:Nat}{v:Value}(h:(cpsL f n)[i]? = some v):i<n*3∧cpV (f (i / 3)) (i%3)=v:=by
 have hlt:i<n*3:=by rw [← cps_len f n];exact (List.getElem?_eq_some_iff.1 h).1
 refine ⟨hlt,?_⟩
 have e:i=i / 3*3+i%3:=by omega
 have hm:i%3<3:=by omega
 rw [e,cps_at f (by omega) hm] at h
 have:i%3=0∨i%3=1∨i%3=2:=by omega
 rcases this with q|q|q <;> rw [q] at h ⊢ <;> simpa [cpL,cpV] using h
theorem cps_one (f:Nat→Cp)(n:Nat):∀ v∈cpsL f n,v.oneCell'=true:=fun v hv=>by
 unfold cpsL at hv
 rw [List.mem_flatMap] at hv
 obtain ⟨a,_,h2⟩:=hv
 simp [cpL] at h2
 rcases h2 with e|e|e <;> subst e <;> rfl
set_option maxHeartbeats 1600000 in
theorem ncopies_any (nc nn:Nat)(X:NLoc)(nr:Nat→Nat→Cp)(g o k:Nat)(w:World)(h:NearM w nc nn X nr)(hp:w.cell? ⟨g,o,none⟩=some (.slice (some ⟨X.r,0,none⟩) nc X.rc))(hk:k<nc) :
  Calls Tryz.prog 121 #[.pointer (some ⟨g,o,none⟩),.int .i64 k] w fun e w'=>e = .returned (.slice (some ⟨w.heap.size,0,none⟩) nn nn)∧w'=w.alloc (.cells (cpsL (nr k) nn).toArray 62):=by
 obtain ⟨i0,hi0,hz0,hz1,hz2⟩:=info_parts Tryz.infoCopy
 have c1:=h.row.cell hk
 have n0:=h.n0
 have n1:=h.n1
 have c3:=h.c1
 have rc1:=h.rcap.1
 have rc2:=h.rcap.2
 have bc1:=(h.bcap k hk).1
 have bc2:=(h.bcap k hk).2
 have lr:=h.row.lt
 have lg:=cell_lt hp
 have hcp:=run_copy_made (P:=Tryz.prog) w 60 60 3 62 3 Tryz.underlying60 (by rw [hi0];simp [hz1]) (some ⟨X.b k,0,none⟩) nn nn (X.bc k) (#[.int .i64 0,.int .i64 0,.int .i64 0]) 62 (cpsL (nr k) nn) (cps_len _ _) (fun h0=>⟨⟨X.b k,0,none⟩,rfl,fun j v hj=>by
  obtain ⟨q1,q2⟩:=cps_cell (nr k) hj
  rw [add_plain',Nat.zero_add,(h.cel k hk).cell q1,q2]⟩) (cps_one _ _)
 unfold maxLen at rc2 bc2
 clear h
 go_enter Tryz.func121,Tryz.ntmps121
 go_wp2_with (at_make;refine wpList_make_exact _ rfl _ _ 60 rfl 62 i0 _ Tryz.underlying60 hi0 hz0 .i64 .i64 _ _ nn rfl rfl (by simp) (by simp) (by rw [hz2];omega) (by unfold maxLen;omega) ?_;rw [hz1])
 go_ret
 exact ⟨rfl,rfl⟩
def bksL (f:Nat→Nat→Bk)(wn:Nat)(n:Nat):List Value:=(List.range n).flatMap fun i=>[.int .i64 (f (i / wn) (i%wn)).line,.bool (f (i / wn) (i%wn)).mkd]
theorem bks_succ (f:Nat→Nat→Bk)(wn n:Nat):bksL f wn (n+1)=bksL f wn n++[.int .i64 (f (n / wn) (n%wn)).line,.bool (f (n / wn) (n%wn)).mkd]:=by
 unfold bksL
 rw [List.range_succ,List.flatMap_append]
 simp
theorem bks_at (f:Nat→Nat→Bk)(wn:Nat){n i:Nat}(hi:i<n):(bksL f wn n)[i*2]? = some (.int .i64 (f (i / wn) (i%wn)).line)∧(bksL f wn n)[i*2+1]? = some (.bool (f (i / wn) (i%wn)).mkd):=by
 have:=(flatR (fun i=>[.int .i64 (f (i / wn) (i%wn)).line,.bool (f (i / wn) (i%wn)).mkd]) 2 (fun _=>rfl) n).2 i
 exact ⟨this 0 hi (by omega),this 1 hi (by omega)⟩
theorem Tryz.infoBlkA:(Tryz.prog.info? 66).map (fun i=>(i.zero,i.size,i.bytes))=some (some (.agg #[.int .i64 0,.bool false]),2,16):=by kernel_rfl
set_option maxHeartbeats 3200000 in
theorem fblocks_any (ns wn:Nat)(X:FLoc)(blk:Nat→Nat→Bk)(tch:Nat→List Int)(g o:Nat)(w:World)(h:FarM w ns wn X blk tch)(hp:w.cell? ⟨g,o,none⟩=some (.slice (some ⟨X.r,0,none⟩) ns X.rc)) :
  Calls Tryz.prog 123 #[.pointer (some ⟨g,o,none⟩)] w fun e w'=>∃ la lc,e = .returned (.slice la (ns*wn) lc)∧w'.ownsRow w.heap.size 66 2 (.slice la (ns*wn) lc) (ns*wn) (bksL blk wn (ns*wn))∧Below w.heap.size w w':=by
 obtain ⟨i0,hi0,hz0,hz1,hz2⟩:=info_parts Tryz.infoBlkA
 have n1:=h.n1
 have w1:=h.w1
 have w0:=h.w0
 have rc1:=h.rcap.1
 have rc2:=h.rcap.2
 unfold maxLen at rc2
 have lr:=h.row.lt
 have lg:=cell_lt hp
 have HF:Hid _:=h
 have hnw:ns*wn≤16:=by have:=Nat.mul_le_mul n1 w1;omega
 clear h
 go_enter Tryz.func123,Tryz.ntmps123
 go_wp2_with fail
 go_loopw [3,4] (fun l u wr=>∃ (s:Nat) (la:Option Addr) (lc:Nat),s≤ns∧u = .int .i64 s∧l = .slice la (s*wn) lc∧wr.ownsRow w.heap.size 66 2 (.slice la (s*wn) lc) (s*wn) (bksL blk wn (s*wn))∧Below w.heap.size w wr) (fun _ u _=>ns-(intOf u).toNat)
 case atStart=>exact ⟨0,none,0,by omega,rfl,by rw [Nat.zero_mul],by rw [Nat.zero_mul];simp [World.ownsRow,bksL],Below.refl _ _⟩
 case round=>
  obtain ⟨s,la,lc,hs,rfl,rfl,hown,hb⟩:=hrel
  have cr:wr.cell? ⟨g,o,none⟩=some (.slice (some ⟨X.r,0,none⟩) ns X.rc):=(hb.cell (p:=⟨g,o,none⟩) lg).trans hp
  have HO:Hid _:=hown
  have HB:Hid _:=hb
  by_cases hlt:s<ns
  ·
   clear hown hb
   go_wp2_with fail
   go_loopw [3,5] (fun l u wx=>∃ (i:Nat) (la:Option Addr) (lc:Nat),i≤wn∧u = .int .i64 i∧l = .slice la (s*wn+i) lc∧wx.ownsRow w.heap.size 66 2 (.slice la (s*wn+i) lc) (s*wn+i) (bksL blk wn (s*wn+i))∧Below w.heap.size w wx) (fun _ u _=>wn-(intOf u).toNat)
   case atStart=>exact ⟨0,la,lc,by omega,rfl,rfl,HO.out,HB.out⟩
   case round=>
    obtain ⟨i,ka,kc,hi,rfl,rfl,hown,hb⟩:=hrel
    have cs0:wr.cell? ⟨X.r,s*2,none⟩=some (.slice (some ⟨X.b s,0,none⟩) wn (X.bc s)):=(hb.cell (p:=⟨X.r,s*2,none⟩) lr).trans (HF.out.setAt hlt).1
    have cr:wr.cell? ⟨g,o,none⟩=some (.slice (some ⟨X.r,0,none⟩) ns X.rc):=(hb.cell (p:=⟨g,o,none⟩) lg).trans hp
    have HO2:Hid _:=hown
    have HB2:Hid _:=hb
    have hbs:=hb.size
    have lr2:X.r<wr.heap.size:=Nat.lt_of_lt_of_le lr hbs
    have lg2:g<wr.heap.size:=Nat.lt_of_lt_of_le lg hbs
    have HRW:Hid (∀ k,(Value.slice ka (s*wn+i) kc).ownBlock=some k→w.heap.size≤k):=fun k hk=>(owns_lt hown k hk).2
    have bc1:=(HF.out.bcap s hlt).1
    have bc2:=(HF.out.bcap s hlt).2
    unfold maxLen at bc2
    by_cases hli:i<wn
    ·
     have hcel:=(HF.out.cel s hlt).below hb (Nat.le_refl _)
     obtain ⟨e0,e1,e2,e3,e4,e5⟩:=blk_at hcel hli
     have lB:=hcel.lt
     have hsn:s*wn+i<ns*wn:=by
      have:(s+1)*wn≤ns*wn:=Nat.mul_le_mul_right _ hlt
      rw [Nat.succ_mul] at this
      omega
     have LM:Hid (s*wn+i+1≤maxLen):=by unfold Hid maxLen;omega
     have L8:Hid ((s*wn+i+1)*16≤140737488355328):=by unfold Hid;omega
     clear hown hb hcel
     have hmod:(s*wn+i) / wn=s∧(s*wn+i)%wn=i:=by
      rw [Nat.mul_comm,Nat.mul_add_div (by omega),Nat.div_eq_of_lt hli,Nat.mul_add_mod,Nat.mod_eq_of_lt hli]
      omega
     have HBS:Hid (bksL blk wn (s*wn+i+1)=bksL blk wn (s*wn+i)++[.int .i64 (blk s i).line,.bool (blk s i).mkd]):=by
      unfold Hid;rw [bks_succ,hmod.1,hmod.2]
     generalize (blk s i).line=bl at *
     generalize (blk s i).mkd=bm at *
     generalize (blk s i).wd 0=b0 at *
     generalize (blk s i).wd 1=b1 at *
     generalize (blk s i).wd 2=b2 at *
     generalize (blk s i).wd 3=b3 at *
     go_wp2_with (at_builtin;refine wpList_append_lies _ rfl _ _ 64 rfl w.heap.size 66 i0 _ 2 16 Tryz.underlying64 hi0 hz0 hz1 hz2 rfl (by decide) (.slice ka (s*wn+i) kc) (s*wn+i) (bksL blk wn (s*wn+i)) rfl ?o1 ⟨wr.heap.size+1,0,none⟩ 1 1 [.int .i64 bl,.bool bm] ?o9 rfl ?o3 ?o4 (by omega) ?o5 ?o6 ?o7 _ rfl ?o8)
     case o1=>exact World.ownsRow.alloc (World.ownsRow.alloc HO2.out _) _
     case o3=>
      have hnb:=heap_alloc_new (wr.alloc (.cells #[.int .i64 bl,.bool bm,.int .i64 b0,.int .i64 b1,.int .i64 b2,.int .i64 b3] 171)) (.cells #[.int .i64 bl,.bool bm] 66)
      rw [World.size_alloc] at hnb
      exact World.news_of_block (cs:=#[.int .i64 bl,.bool bm]) (t:=66) (fr:=(0,0)) hnb
     case o4=>simp [Value.oneCell']
     case o5=>exact LM.out
     case o6=>exact L8.out
     case o7=>simp;omega
     case o9=>rfl
     case o8=>
      intro gg cap2 w4 hown4 hgrow4 hat4 hlt4
      have hb4:Below w.heap.size w w4:=below_grown ((HB2.out.alloc hbs _).alloc (by simp;omega) _) (by simp;omega) hgrow4 HRW.out
      have HB4:Hid _:=hb4
      have HO4:Hid (w4.ownsRow w.heap.size 66 2 (.slice (some ⟨gg,0,none⟩) (s*wn+(i+1)) cap2) (s*wn+(i+1)) (bksL blk wn (s*wn+(i+1)))):=by
       unfold Hid
       rw [show s*wn+(i+1)=s*wn+i+1 by omega,HBS.out]
       exact hown4
      clear hown4 hgrow4 hat4 hb4 hmod
      go_wp2_with fail
      go_roundw
      case rel=>first | exact ⟨i+1,_,cap2,by omega,by go_num,rfl,HO4.out,HB4.out⟩ | ((repeat apply Exists.intro);exact ⟨⟨i+1,_,cap2,by omega,by go_num,rfl,HO4.out,HB4.out⟩,rfl⟩)
      case measure=>simp [intOf];omega
    ·
     have ei:i=wn:=by omega
     subst ei
     have e1:s*i+i=(s+1)*i:=by rw [Nat.succ_mul]
     have HO3:Hid (wr.ownsRow w.heap.size 66 2 (.slice ka ((s+1)*i) kc) ((s+1)*i) (bksL blk i ((s+1)*i))):=by unfold Hid;rw [← e1];exact HO2.out
     clear hown hb
     go_wp2_with fail
     go_roundw
     case rel=>exact ⟨s+1,ka,kc,by omega,by go_num,by rw [e1],HO3.out,HB2.out⟩
     case measure=>simp [intOf];omega
  ·
   have es:s=ns:=by omega
   subst es
   clear hown hb
   go_wp2
   go_ret
   exact ⟨la,lc,rfl,HO.out,HB.out⟩
set_option maxHeartbeats 1600000 in
theorem knear_good (N:Cn)(X:XLoc)(m:Mh)(k:Nat)(w:World)(h:MachM w N X m)(hk:k<N.nc) :
  Calls Tryz.prog 85 #[.pointer (some ⟨X.g,0,none⟩),.int .i64 k] w fun e w'=>e = .returned (.tuple #[.slice (some ⟨w.heap.size,0,none⟩) N.nn N.nn,.int .i64 0])∧w'=w.alloc (.cells (cpsL (m.nr k) N.nn).toArray 62):=by
 obtain ⟨n1,n2,n3,n4,n5,n6,n7,n8,n9,n10,n11,n12,n13,n14,n15⟩:=h.nums
 have c0:w.cell? ⟨X.g,0,none⟩=some (.int .i64 N.nc):=by rw [n1,h.row.cell];rfl
 have c17:w.cell? ⟨X.g,17,none⟩=some (.slice (some ⟨X.n.r,0,none⟩) N.nc X.n.rc):=by rw [h.row.cell];rfl
 have hC:=ncopies_any N.nc N.nn X.n m.nr X.g 17 k w h.near c17 hk
 clear n1 n2 n3 n4 n5 n6 n7 h
 go_enter Tryz.func85,Tryz.ntmps85
 go_wp2_with fail
 refine hC.mono ?_;rintro e w1 ⟨rfl,rfl⟩
 clear hC
 go_wp2
 go_ret2
 exact ⟨rfl,rfl⟩
set_option maxHeartbeats 1600000 in
theorem knear_bad (N:Cn)(X:XLoc)(m:Mh)(k:Int)(w:World)(h:MachM w N X m)(hk:k<0∨N.c.cores≤k) :
  Calls Tryz.prog 85 #[.pointer (some ⟨X.g,0,none⟩),.int .i64 k] w fun e w'=>e = .returned (.tuple #[.slice none 0 0,.int .i64 6])∧w'=w:=by
 have c0:w.cell? ⟨X.g,0,none⟩=some (.int .i64 N.c.cores):=by rw [h.row.cell];rfl
 have cases:k<0∨(0≤k∧N.c.cores≤k):=by omega
 clear h hk
 rcases cases with b1|⟨b1,b2⟩
 all_goals
  go_enter Tryz.func85,Tryz.ntmps85
  go_wp2
  go_ret2
  exact ⟨rfl,rfl⟩
set_option maxHeartbeats 1600000 in
theorem kfar_good (N:Cn)(X:XLoc)(m:Mh)(d:Nat)(w:World)(h:MachM w N X m)(hd:d<N.nd) :
  Calls Tryz.prog 88 #[.pointer (some ⟨X.g,0,none⟩),.int .i64 d] w fun e w'=>∃ la lc,e = .returned (.tuple #[.slice la (N.ns*N.wn d) lc,.int .i64 0])∧w'.ownsRow w.heap.size 66 2 (.slice la (N.ns*N.wn d) lc) (N.ns*N.wn d) (bksL (m.blk d) (N.wn d) (N.ns*N.wn d))∧Below w.heap.size w w':=by
 obtain ⟨n1,n2,n3,n4,n5,n6,n7,n8,n9,n10,n11,n12,n13,n14,n15⟩:=h.nums
 have c18:w.cell? ⟨X.g,18,none⟩=some (.slice (some ⟨X.dm,0,none⟩) N.nd X.dc):=by rw [h.row.cell];rfl
 obtain ⟨_,d1,_,_⟩:=dom_at h hd
 have hC:=fblocks_any N.ns (N.wn d) (X.f d) (m.blk d) (m.tch d) X.dm (d*4+1) w (h.far d hd) d1
 clear n1 n2 n3 n4 n5 n6 n7 h
 go_enter Tryz.func88,Tryz.ntmps88
 go_wp2_with fail
 refine hC.mono ?_;rintro e w1 ⟨la,lc,rfl,hown,hb⟩
 have HO:Hid _:=hown
 have HB:Hid _:=hb
 clear hC hown hb
 go_wp2
 go_ret2
 exact ⟨la,lc,rfl,HO.out,HB.out⟩
set_option maxHeartbeats 1600000 in
theorem kfar_bad (N:Cn)(X:XLoc)(m:Mh)(d:Int)(w:World)(h:MachM w N X m)(hd:d<0∨N.c.domains≤d) :
  Calls Tryz.prog 88 #[.pointer (some ⟨X.g,0,none⟩),.int .i64 d] w fun e w'=>e = .returned (.tuple #[.slice none 0 0,.int .i64 6])∧w'=w:=by
 obtain ⟨n1,n2,n3,n4,n5,n6,n7,n8,n9,n10,n11,n12,n13,n14,n15⟩:=h.nums
 have c18:w.cell? ⟨X.g,18,none⟩=some (.slice (some ⟨X.dm,0,none⟩) N.nd X.dc):=by rw [h.row.cell];rfl
 have cases:d<0∨(0≤d∧(N.nd:Int)≤d):=by omega
 clear h hd n1 n2 n3 n4 n5 n6 n7
 rcases cases with b1|⟨b1,b2⟩
 all_goals
  go_enter Tryz.func88,Tryz.ntmps88
  go_wp2
  go_ret2
  exact ⟨rfl,rfl⟩
set_option maxHeartbeats 1600000 in
theorem kmemory_good (N:Cn)(X:XLoc)(m:Mh)(d a:Nat)(w:World)(h:MachM w N X m)(hd:d<N.nd)(ha:a<N.pv+N.sn) :
  Calls Tryz.prog 49 #[.pointer (some ⟨X.g,0,none⟩),.int .i64 d,.int .i64 a] w fun e w'=>e = .returned (.tuple #[.int .i64 (wordM N.pv N.sn (m.own d) m.sh a),.int .i64 0])∧Below w.heap.size w w':=by
 obtain ⟨n1,n2,n3,n4,n5,n6,n7,n8,n9,n10,n11,n12,n13,n14,n15⟩:=h.nums
 have c1:w.cell? ⟨X.g,1,none⟩=some (.int .i64 N.nd):=by rw [n2,h.row.cell];rfl
 have c3:w.cell? ⟨X.g,3,none⟩=some (.int .i64 N.pv):=by rw [n6,h.row.cell];rfl
 have c4:w.cell? ⟨X.g,4,none⟩=some (.int .i64 N.sn):=by rw [n7,h.row.cell];rfl
 have c15:w.cell? ⟨X.g,15,none⟩=some (.slice (some ⟨X.e.r,0,none⟩) N.nd X.e.rc):=by rw [h.row.cell];rfl
 have c16:w.cell? ⟨X.g,16,none⟩=some (.slice X.e.sa N.sn X.e.sc):=by rw [h.row.cell];rfl
 have hC:∀ j,Calls Tryz.prog 92 #[.pointer (some ⟨X.g,14,none⟩),.int .i64 d,.int .i64 a] (w.drewN j) fun e w'=>e = .returned (.int .i64 (wordM N.pv N.sn (m.own d) m.sh a))∧w'=w.drewN j:=fun j=>mWord_any N.nd N.pv N.sn X.e m.own m.sh X.g 14 d a (w.drewN j) (h.mem.below (Go.below_drewN (Below.refl w.heap.size w) j) (Nat.le_refl _)) c15 c16 hd (by omega)
 have hwr:IntKind.i64.wrap ((N.pv:Int)+(N.sn:Int))=(N.pv:Int)+(N.sn:Int):=by rw [IntKind.wrap_i64];omega
 have ha0:¬(a:Int)<0:=by omega
 have ha1:¬(N.pv:Int)+(N.sn:Int)≤(a:Int):=by omega
 have HC:Hid _:=hC
 clear n1 n2 n3 n4 n5 n6 n7 h hC
 go_enter Tryz.func49,Tryz.ntmps49
 go_wp2_with fail
 go_quiet (fail)
 go_wp2_with fail
 refine (HC.out _).mono ?_;rintro e w1 ⟨rfl,rfl⟩
 go_wp2
 go_ret2
 exact ⟨rfl,Go.below_drewN (Below.refl _ _) _⟩
set_option maxHeartbeats 1600000 in
theorem kmemory_bad (N:Cn)(X:XLoc)(m:Mh)(d a:Int)(w:World)(h:MachM w N X m)(hb:d<0∨N.c.domains≤d∨a<0∨N.c.priv+N.c.shared≤a) :
  Calls Tryz.prog 49 #[.pointer (some ⟨X.g,0,none⟩),.int .i64 d,.int .i64 a] w fun e w'=>e = .returned (.tuple #[.int .i64 0,.int .i64 6])∧Below w.heap.size w w':=by
 obtain ⟨n1,n2,n3,n4,n5,n6,n7,n8,n9,n10,n11,n12,n13,n14,n15⟩:=h.nums
 have c1:w.cell? ⟨X.g,1,none⟩=some (.int .i64 N.nd):=by rw [n2,h.row.cell];rfl
 have c3:w.cell? ⟨X.g,3,none⟩=some (.int .i64 N.pv):=by rw [n6,h.row.cell];rfl
 have c4:w.cell? ⟨X.g,4,none⟩=some (.int .i64 N.sn):=by rw [n7,h.row.cell];rfl
 have hwr:IntKind.i64.wrap ((N.pv:Int)+(N.sn:Int))=(N.pv:Int)+(N.sn:Int):=by rw [IntKind.wrap_i64];omega
 have cases:d<0∨(0≤d∧(N.nd:Int)≤d)∨(0≤d∧d<(N.nd:Int)∧a<0)∨(0≤d∧d<(N.nd:Int)∧¬a<0∧(N.pv:Int)+(N.sn:Int)≤a):=by omega
 clear h hb n1 n2 n3 n4 n5 n6 n7
 rcases cases with b1|⟨b1,b2⟩|⟨b1,b2,b3⟩|⟨b1,b2,b3,b4⟩
 ·
  go_enter Tryz.func49,Tryz.ntmps49
  go_wp2
  go_ret2
  exact ⟨rfl,Below.refl _ _⟩
 ·
  go_enter Tryz.func49,Tryz.ntmps49
  go_wp2
  go_ret2
  exact ⟨rfl,Below.refl _ _⟩
 ·
  go_enter Tryz.func49,Tryz.ntmps49
  go_wp2_with fail
  go_quiet (fail)
  go_wp2
  go_ret2
  exact ⟨rfl,Go.below_drewN (Below.refl _ _) _⟩
 ·
  go_enter Tryz.func49,Tryz.ntmps49
  go_wp2_with fail
  go_quiet (fail)
  go_wp2
  go_ret2
  exact ⟨rfl,Go.below_drewN (Below.refl _ _) _⟩
theorem wNear_good (N:Cn)(X:XLoc)(m:Mh)(k:Nat)(w:World)(h:MachM w N X m)(hk:k<N.nc) :
  Calls Tryz.prog 45 #[.pointer (some ⟨X.g,0,none⟩),.int .i64 k] w fun e w'=>e = .returned (.tuple #[.slice (some ⟨w.heap.size,0,none⟩) N.nn N.nn,.int .i64 0])∧w'=w.alloc (.cells (cpsL (m.nr k) N.nn).toArray 62):=by
 have hC:=knear_good N X m k w h hk
 clear h hk
 go_enter Tryz.func45,Tryz.ntmps45
 go_wp2_with fail
 refine hC.mono ?_;rintro e w1 ⟨rfl,rfl⟩
 go_wp2
 go_ret2
 exact ⟨rfl,rfl⟩
theorem wNear_bad (N:Cn)(X:XLoc)(m:Mh)(k:Int)(w:World)(h:MachM w N X m)(hk:k<0∨N.c.cores≤k) :
  Calls Tryz.prog 45 #[.pointer (some ⟨X.g,0,none⟩),.int .i64 k] w fun e w'=>e = .returned (.tuple #[.slice none 0 0,.int .i64 6])∧w'=w:=by
 have hC:=knear_bad N X m k w h hk
 clear h hk
 go_enter Tryz.func45,Tryz.ntmps45
 go_wp2_with fail
 refine hC.mono ?_;rintro e w1 ⟨rfl,rfl⟩
 go_wp2
 go_ret2
 exact ⟨rfl,rfl⟩
theorem wFar_good (N:Cn)(X:XLoc)(m:Mh)(d:Nat)(w:World)(h:MachM w N X m)(hd:d<N.nd) :
  Calls Tryz.prog 47 #[.pointer (some ⟨X.g,0,none⟩),.int .i64 d] w fun e w'=>∃ la lc,e = .returned (.tuple #[.slice la (N.ns*N.wn d) lc,.int .i64 0])∧w'.ownsRow w.heap.size 66 2 (.slice la (N.ns*N.wn d) lc) (N.ns*N.wn d) (bksL (m.blk d) (N.wn d) (N.ns*N.wn d))∧Below w.heap.size w w':=by
 have hC:=kfar_good N X m d w h hd
 clear h hd
 go_enter Tryz.func47,Tryz.ntmps47
 go_wp2_with fail
 refine hC.mono ?_;rintro e w1 ⟨la,lc,rfl,hown,hb⟩
 go_wp2
 go_ret2
 exact ⟨la,lc,rfl,hown,hb⟩
theorem wFar_bad (N:Cn)(X:XLoc)(m:Mh)(d:Int)(w:World)(h:MachM w N X m)(hd:d<0∨N.c.domains≤d) :
  Calls Tryz.prog 47 #[.pointer (some ⟨X.g,0,none⟩),.int .i64 d] w fun e w'=>e = .returned (.tuple #[.slice none 0 0,.int .i64 6])∧w'=w:=by
 have hC:=kfar_bad N X m d w h hd
 clear h hd
 go_enter Tryz.func47,Tryz.ntmps47
 go_wp2_with fail
 refine hC.mono ?_;rintro e w1 ⟨rfl,rfl⟩
 go_wp2
 go_ret2
 exact ⟨rfl,rfl⟩
theorem wMemory_good (N:Cn)(X:XLoc)(m:Mh)(d a:Nat)(w:World)(h:MachM w N X m)(hd:d<N.nd)(ha:a<N.pv+N.sn) :
  Calls Tryz.prog 19 #[.pointer (some ⟨X.g,0,none⟩),.int .i64 d,.int .i64 a] w fun e w'=>e = .returned (.tuple #[.int .i64 (wordM N.pv N.sn (m.own d) m.sh a),.int .i64 0])∧Below w.heap.size w w':=by
 have hC:=kmemory_good N X m d a w h hd ha
 clear h hd ha
 go_enter Tryz.func19,Tryz.ntmps19
 go_wp2_with fail
 refine hC.mono ?_;rintro e w1 ⟨rfl,hb1⟩
 have HB:Hid _:=hb1
 clear hC hb1
 go_wp2
 go_ret2
 exact ⟨rfl,HB.out⟩
theorem wMemory_bad (N:Cn)(X:XLoc)(m:Mh)(d a:Int)(w:World)(h:MachM w N X m)(hbd:d<0∨N.c.domains≤d∨a<0∨N.c.priv+N.c.shared≤a) :
  Calls Tryz.prog 19 #[.pointer (some ⟨X.g,0,none⟩),.int .i64 d,.int .i64 a] w fun e w'=>e = .returned (.tuple #[.int .i64 0,.int .i64 6])∧Below w.heap.size w w':=by
 have hC:=kmemory_bad N X m d a w h hbd
 clear h hbd
 go_enter Tryz.func19,Tryz.ntmps19
 go_wp2_with fail
 refine hC.mono ?_;rintro e w1 ⟨rfl,hb1⟩
 have HB:Hid _:=hb1
 clear hC hb1
 go_wp2
 go_ret2
 exact ⟨rfl,HB.out⟩
end Go.Proofs.YtehheaedbnfidaaGreat
