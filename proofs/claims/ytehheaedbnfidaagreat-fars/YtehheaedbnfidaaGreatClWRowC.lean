import Derived.Deep.RegionHeld3
import Derived.Test.YtehheaedbnfidaaGreatClWHeap
set_option maxRecDepth 100000
namespace Go.Proofs.YtehheaedbnfidaaGreat
open Go.RowKit
theorem Tryz.infoInt:(Tryz.prog.info? 3).map (fun i=>(i.zero,i.size,i.bytes))=some (some (.int .i64 0),1,8):=by kernel_rfl
theorem Tryz.infoInt1:(Tryz.prog.info? 3).map (·.size)=some 1:=by kernel_rfl
theorem made_int (n:Nat):madeCells (Value.int .i64 0).cells n=(List.replicate n (Value.int .i64 0)).toArray:=by
 apply Array.ext_getElem?
 intro i
 simp only [madeCells,Value.cells,Array.getElem?_map]
 by_cases h:i<n
 · simp [h,Nat.mod_one]
 · simp [h]
theorem Ints.src {w:World}{a:Addr}{len cap:Nat}{xs:List Int}(h:Ints w (some a) len cap xs)(o:Obj) :
  ∀ j v,(xs.map (Value.int .i64))[j]? = some v→(w.alloc o).cell? (a.add j)=some v:=by
 intro j v hj
 have hlt:j<xs.length:=by
  have:=(List.getElem?_eq_some_iff.1 hj).1
  simpa using this
 obtain ⟨b,off,h1,h2⟩:=(h.alloc o).hat j (by rw [← h.hlen];exact hlt)
 simp only [Option.some.injEq] at h1
 subst h1
 rw [add_plain',h2]
 rw [List.getElem?_map] at hj
 simp [List.getElem?_eq_getElem hlt] at hj
 simp [List.getD,List.getElem?_eq_getElem hlt,hj]
def Row (w:World)(g:Nat)(A:List Value)(t:TypeId):Prop:=w.heap[g]? = some (.cells A.toArray t (0,0))
theorem Row.cell {w:World}{g:Nat}{A:List Value}{t:TypeId}(h:Row w g A t)(i:Nat):w.cell? ⟨g,i,none⟩=A[i]? := by
 simp only [World.cell?];rw [h];simp
theorem Row.frozen {w:World}{g:Nat}{A:List Value}{t:TypeId}(h:Row w g A t)(i:Nat):w.frozen? ⟨g,i,none⟩=false:=by
 simp only [World.frozen?];rw [h];simp
theorem Row.lt {w:World}{g:Nat}{A:List Value}{t:TypeId}(h:Row w g A t):g<w.heap.size:=(Array.getElem?_eq_some_iff.1 h).1
theorem Row.below {w w':World}{g n:Nat}{A:List Value}{t:TypeId}(h:Row w g A t)(hb:Below n w w')(hg:g<n):Row w' g A t:=by
 unfold Row;rw [hb.block g hg];exact h
theorem Row.alloc {w:World}{g:Nat}{A:List Value}{t:TypeId}(h:Row w g A t)(o:Obj):Row (w.alloc o) g A t:=by
 unfold Row;rw [Below.heap_alloc w o g h.lt];exact h
theorem setRow_setCell (w:World)(g:Nat)(A:Array Value)(i:Nat)(v:Value):(w.setRow g A).setCell ⟨g,i,none⟩ v=w.setRow g (A.setIfInBounds i v):=by
 unfold World.setRow World.setCell
 congr 1
 apply Array.ext_getElem?
 intro j
 simp only [Array.getElem?_modify]
 by_cases h:g=j
 ·
  subst h
  simp only [if_true,Option.map_map]
  congr 1
  funext o
  cases o <;> rfl
 · simp [h]
theorem Row.set {w:World}{g:Nat}{A B:List Value}{t:TypeId}(h:Row w g A t):Row (w.setRow g B.toArray) g B t:=setRow_heap w g _ _ t _ h
theorem Row.setSame {w:World}{g:Nat}{A:List Value}{t:TypeId}(h:Row w g A t):w.setRow g A.toArray=w:=by
 have e:(w.setRow g A.toArray).heap=w.heap:=by
  apply Array.ext_getElem?
  intro i
  by_cases hi:i=g
  ·
   subst hi
   rw [h.set]
   exact h.symm
  · exact setRow_other w g i _ hi
 cases w
 simpa [World.setRow] using e
theorem Row.setOther {w:World}{g k:Nat}{A:List Value}{B:Array Value}{t:TypeId}(h:Row w k A t)(hk:k≠g):Row (w.setRow g B) k A t:=by
 unfold Row;rw [setRow_other w g k B hk];exact h
theorem Row.setCell {w:World}{g:Nat}{A:List Value}{t:TypeId}(h:Row w g A t)(i:Nat)(v:Value):Row (w.setCell ⟨g,i,none⟩ v) g (A.set i v) t:=by
 have e:=h.setSame
 rw [← e,setRow_setCell]
 have h2:Row (w.setRow g A.toArray) g A t:=h.set
 have:=h.set (B:=A.set i v)
 simpa using this
theorem Row.setCellOther {w:World}{g k:Nat}{A:List Value}{t:TypeId}(h:Row w k A t)(i:Nat)(v:Value)(hk:k≠g):Row (w.setCell ⟨g,i,none⟩ v) k A t:=by
 unfold Row;rw [Below.heap_setCell _ _ _ _ hk];exact h
theorem own_ne {w:World}{base:Nat}{e t:TypeId}{size:Nat}{v:Value}{n:Nat}{xs:List Value}{g:Nat}{A:List Value}(h:w.ownsRow base e size v n xs)(hr:Row w g A t)(ht:t≠e):v.ownBlock≠some g:=by
 rcases h.2 with ⟨h1,_⟩|⟨g',cap,cur,hv,_,hg,_⟩
 · subst h1;simp [Value.ownBlock]
 ·
  subst hv
  simp only [Value.ownBlock,ne_eq,Option.some.injEq]
  intro e1
  subst e1
  unfold Row at hr
  rw [hr] at hg
  simp only [Option.some.injEq,Obj.cells.injEq] at hg
  exact ht hg.2.1
theorem owns_same {w w':World}{base:Nat}{e:TypeId}{size:Nat}{v:Value}{n:Nat}{xs:List Value}(h:w.ownsRow base e size v n xs)(hs:∀ g,v.ownBlock=some g→w'.heap[g]? = w.heap[g]?):w'.ownsRow base e size v n xs:=by
 refine ⟨h.1,?_⟩
 rcases h.2 with h2|⟨g,cap,cur,hv,hg,hh,r⟩
 · exact Or.inl h2
 ·
  refine Or.inr ⟨g,cap,cur,hv,hg,?_,r⟩
  rw [hs g (by rw [hv];rfl)]
  exact hh
theorem owns_lt {w:World}{base:Nat}{e:TypeId}{size:Nat}{v:Value}{n:Nat}{xs:List Value}(h:w.ownsRow base e size v n xs):∀ g,v.ownBlock=some g→g<w.heap.size∧base≤g:=by
 intro g hg
 rcases h.2 with ⟨h1,_⟩|⟨g',cap,cur,hv,hb,hh,_⟩
 · subst h1;simp [Value.ownBlock] at hg
 ·
  subst hv
  simp only [Value.ownBlock,Option.some.injEq] at hg
  subst hg
  exact ⟨(Array.getElem?_eq_some_iff.1 hh).1,hb⟩
theorem owns_apart {w:World}{base base':Nat}{e e':TypeId}{size size':Nat}{v v':Value}{n n':Nat}{xs xs':List Value}(h:w.ownsRow base e size v n xs)(h':w.ownsRow base' e' size' v' n' xs')(ht:e≠e'):∀ g,v.ownBlock=some g→v'.ownBlock≠some g:=by
 intro g hg
 rcases h.2 with ⟨h1,_⟩|⟨g1,cap,cur,hv,hb,hh,_⟩
 · subst h1;simp [Value.ownBlock] at hg
 ·
  subst hv
  simp only [Value.ownBlock,Option.some.injEq] at hg
  subst hg
  have hr:Row w g1 cur.toList e:=by unfold Row;simpa using hh
  exact own_ne h' hr ht
theorem row_q {w:World}{g:Nat}{A:List Value}{t:TypeId}(h:Row w g A t):∀ o,w.cell? ⟨g,o,none⟩=A.toArray[o]? := by
 intro o;rw [h.cell];simp
theorem Row.same {w w':World}{g:Nat}{A:List Value}{t:TypeId}(h:Row w g A t)(hs:w'.heap[g]? = w.heap[g]?):Row w' g A t:=by
 unfold Row;rw [hs];exact h
theorem row_type {w:World}{g:Nat}{A B:List Value}{t u:TypeId}(h:Row w g A t)(k:Row w g B u):t=u:=by
 unfold Row at h k
 rw [h] at k
 simp only [Option.some.injEq,Obj.cells.injEq] at k
 exact k.2.1
structure Touch (F:Nat→Prop)(w w':World):Prop where
 os:w'.os=w.os
 tape:w'.tape=w.tape
 output:w'.output=w.output
 size:w.heap.size≤w'.heap.size
 block:∀ b,b<w.heap.size→¬F b→w'.heap[b]? = w.heap[b]?
theorem Touch.refl (F:Nat→Prop)(w:World):Touch F w w:=⟨rfl,rfl,rfl,Nat.le_refl _,fun _ _ _=>rfl⟩
theorem Touch.trans {F:Nat→Prop}{a b c:World}(h:Touch F a b)(k:Touch F b c):Touch F a c:=
 ⟨k.os.trans h.os,k.tape.trans h.tape,k.output.trans h.output,Nat.le_trans h.size k.size,fun i hi hf=>(k.block i (Nat.lt_of_lt_of_le hi h.size) hf).trans (h.block i hi hf)⟩
theorem Touch.mono {F G:Nat→Prop}{a b:World}(h:Touch F a b)(hg:∀ x,F x→G x):Touch G a b:=⟨h.os,h.tape,h.output,h.size,fun i hi hf=>h.block i hi (fun hx=>hf (hg i hx))⟩
theorem Touch.setCell {F:Nat→Prop}(w:World)(g i:Nat)(v:Value)(hg:F g):Touch F w (w.setCell ⟨g,i,none⟩ v):=
 ⟨rfl,rfl,rfl,by simp [World.setCell],fun b _ hf=>Below.heap_setCell _ _ _ _ (fun e=>by subst e;exact hf hg)⟩
theorem Touch.of_below {F:Nat→Prop}{w w':World}{n:Nat}(h:Below n w w')(hn:w.heap.size≤n):Touch F w w':=⟨h.os,h.tape,h.output,h.size,fun b hb _=>h.block b (by omega)⟩
theorem Touch.below {F:Nat→Prop}{w w':World}(h:Touch F w w')(B:Nat)(hB:B≤w.heap.size)(hF:∀ x,F x→B≤x):Below B w w':=
 ⟨h.os,h.tape,h.output,h.size,fun b hb=>h.block b (by omega) (fun hx=>by have:=hF b hx;omega)⟩
theorem Touch.drewN {F:Nat→Prop}{a w:World}(h:Touch F a w)(n:Nat):Touch F a (w.drewN n):=⟨h.os,h.tape,h.output,h.size,h.block⟩
theorem below_grown {n:Nat}{w w1 w2:World}{row:Option Nat}(h:Below n w w1)(hn:n≤w1.heap.size)(hg:w1.grownBy w2 row)(hr:∀ g,row=some g→n≤g):Below n w w2:=
 h.trans ⟨hg.os,hg.tape,hg.output,hg.size,fun k hk=>hg.block k (by omega) (fun e=>by have:=hr k e.symm;omega)⟩
def Cells (w:World)(g n:Nat)(t:TypeId)(f:Nat→Value):Prop:=∃ cur:List Value,Row w g cur t∧∀ i,i<n→cur[i]? = some (f i)
theorem Cells.cell {w:World}{g n:Nat}{t:TypeId}{f:Nat→Value}(h:Cells w g n t f){i:Nat}(hi:i<n):w.cell? ⟨g,i,none⟩=some (f i):=by
 obtain ⟨cur,h1,h2⟩:=h
 rw [h1.cell,h2 i hi]
theorem Cells.frozen {w:World}{g n:Nat}{t:TypeId}{f:Nat→Value}(h:Cells w g n t f)(i:Nat):w.frozen? ⟨g,i,none⟩=false:=by
 obtain ⟨cur,h1,h2⟩:=h
 exact h1.frozen i
theorem Cells.lt {w:World}{g n:Nat}{t:TypeId}{f:Nat→Value}(h:Cells w g n t f):g<w.heap.size:=by
 obtain ⟨cur,h1,h2⟩:=h
 exact h1.lt
theorem Cells.same {w w':World}{g n:Nat}{t:TypeId}{f:Nat→Value}(h:Cells w g n t f)(hs:w'.heap[g]? = w.heap[g]?):Cells w' g n t f:=by
 obtain ⟨cur,h1,h2⟩:=h
 exact ⟨cur,h1.same hs,h2⟩
theorem Cells.congr {w:World}{g n:Nat}{t:TypeId}{f f':Nat→Value}(h:Cells w g n t f)(hf:∀ i,i<n→f i=f' i):Cells w g n t f':=by
 obtain ⟨cur,h1,h2⟩:=h
 exact ⟨cur,h1,fun i hi=>by rw [h2 i hi,hf i hi]⟩
theorem Cells.set {w:World}{g n:Nat}{t:TypeId}{f:Nat→Value}(h:Cells w g n t f)(i:Nat)(v:Value):Cells (w.setCell ⟨g,i,none⟩ v) g n t (fun j=>if j=i then v else f j):=by
 obtain ⟨cur,h1,h2⟩:=h
 refine ⟨cur.set i v,h1.setCell i v,fun j hj=>?_⟩
 by_cases e:j=i
 ·
  subst e
  have:j<cur.length:=by
   rcases Nat.lt_or_ge j cur.length with k|k
   · exact k
   ·
    have:=h2 j hj
    rw [List.getElem?_eq_none k] at this
    simp at this
  simp [this]
 ·
  rw [List.getElem?_set_ne (Ne.symm e),h2 j hj]
  simp [e]
theorem Cells.setOther {w:World}{g k n:Nat}{t:TypeId}{f:Nat→Value}(h:Cells w g n t f)(i:Nat)(v:Value)(hk:g≠k):Cells (w.setCell ⟨k,i,none⟩ v) g n t f:=by
 obtain ⟨cur,h1,h2⟩:=h
 exact ⟨cur,h1.setCellOther i v hk,h2⟩
theorem Cells.touch {w w':World}{g n:Nat}{t:TypeId}{f:Nat→Value}{F:Nat→Prop}(h:Cells w g n t f)(ht:Touch F w w')(hf:¬F g):Cells w' g n t f:=h.same (ht.block g h.lt hf)
theorem Cells.below {w w':World}{g n m:Nat}{t:TypeId}{f:Nat→Value}(h:Cells w g n t f)(hb:Below m w w')(hm:w.heap.size≤m):Cells w' g n t f:=h.same (hb.block g (Nat.lt_of_lt_of_le h.lt hm))
theorem Cells.type {w:World}{g n m:Nat}{t t':TypeId}{f f':Nat→Value}(h:Cells w g n t f)(k:Cells w g m t' f'):t=t':=by
 obtain ⟨cur,h1,_⟩:=h
 obtain ⟨cur',k1,_⟩:=k
 exact row_type h1 k1
structure NLoc where
 r:Nat
 rc:Nat
 b:Nat→Nat
 bc:Nat→Nat
def cpV (c:Cp)(i:Nat):Value:=if i=0 then .int .i64 c.dom else if i=1 then .int .i64 c.line else .int .i64 c.st
structure NearM (w:World)(nc nn:Nat)(X:NLoc)(nr:Nat→Nat→Cp):Prop where
 row:Cells w X.r nc 60 (fun k=>.slice (some ⟨X.b k,0,none⟩) nn (X.bc k))
 cel:∀ k,k<nc→Cells w (X.b k) (nn*3) 62 (fun i=>cpV (nr k (i / 3)) (i%3))
 rcap:nc≤X.rc∧X.rc≤maxLen
 bcap:∀ k,k<nc→nn≤X.bc k∧X.bc k≤maxLen
 dis:∀ j k,j<nc→k<nc→X.b j=X.b k→j=k
 n0:0<nn
 n1:nn≤4
 c1:nc≤3
def NLoc.own (X:NLoc)(nc:Nat)(b:Nat):Prop:=∃ k,k<nc∧b=X.b k
theorem NearM.same {w w':World}{nc nn:Nat}{X:NLoc}{nr:Nat→Nat→Cp}(h:NearM w nc nn X nr)(h0:w'.heap[X.r]? = w.heap[X.r]?)(h1:∀ k,k<nc→w'.heap[X.b k]? = w.heap[X.b k]?):NearM w' nc nn X nr:=
 ⟨h.row.same h0,fun k hk=>(h.cel k hk).same (h1 k hk),h.rcap,h.bcap,h.dis,h.n0,h.n1,h.c1⟩
theorem NearM.below {w w':World}{nc nn m:Nat}{X:NLoc}{nr:Nat→Nat→Cp}(h:NearM w nc nn X nr)(hb:Below m w w')(hm:w.heap.size≤m):NearM w' nc nn X nr:=
 h.same (hb.block _ (Nat.lt_of_lt_of_le h.row.lt hm)) fun k hk=>hb.block _ (Nat.lt_of_lt_of_le (h.cel k hk).lt hm)
theorem NearM.at {w:World}{nc nn:Nat}{X:NLoc}{nr:Nat→Nat→Cp}(h:NearM w nc nn X nr){k p:Nat}(hk:k<nc)(hp:p<nn) :
  w.cell? ⟨X.b k,p*3,none⟩=some (.int .i64 (nr k p).dom)∧w.cell? ⟨X.b k,p*3+1,none⟩=some (.int .i64 (nr k p).line)∧w.cell? ⟨X.b k,p*3+2,none⟩=some (.int .i64 (nr k p).st):=by
 have hc:=h.cel k hk
 refine ⟨?_,?_,?_⟩
 · rw [hc.cell (by omega),show p*3 / 3=p by omega,show p*3%3=0 by omega];rfl
 · rw [hc.cell (by omega),show (p*3+1) / 3=p by omega,show (p*3+1)%3=1 by omega];rfl
 · rw [hc.cell (by omega),show (p*3+2) / 3=p by omega,show (p*3+2)%3=2 by omega];rfl
set_option maxHeartbeats 1600000 in
theorem nplace_any (nc nn:Nat)(X:NLoc)(nr:Nat→Nat→Cp)(g o k x p:Nat)(w:World)(h:NearM w nc nn X nr)(hp:w.cell? ⟨g,o,none⟩=some (.slice (some ⟨X.r,0,none⟩) nc X.rc))(hk:k<nc)(hx:x≤1000000)(hpx:Hid (p=x%nn)) :
  Calls Tryz.prog 173 #[.pointer (some ⟨g,o,none⟩),.int .i64 k,.int .i64 x] w fun e w'=>e = .returned (.int .i64 p)∧w'=w:=by
 have c1:=h.row.cell hk
 have n0:=h.n0
 have n1:=h.n1
 have c3:=h.c1
 have HE:Hid ((p:Int)=(x:Int)%(nn:Int)):=by have:=hpx.out;unfold Hid;omega
 go_enter Tryz.func173,Tryz.ntmps173
 go_wp2
 go_ret
 exact ⟨ret_int HE.out.symm,rfl⟩
set_option maxHeartbeats 3200000 in
theorem nstate_any (nc nn:Nat)(X:NLoc)(nr:Nat→Nat→Cp)(g o k x:Nat)(d:Int)(w:World)(h:NearM w nc nn X nr)(hp:w.cell? ⟨g,o,none⟩=some (.slice (some ⟨X.r,0,none⟩) nc X.rc))(hk:k<nc)(hx:x≤1000000) :
  Calls Tryz.prog 170 #[.pointer (some ⟨g,o,none⟩),.int .i64 k,.int .i64 d,.int .i64 x] w fun e w'=>e = .returned (.int .i64 (stateN nn nr k d x))∧Below w.heap.size w w':=by
 have n0:=h.n0
 obtain ⟨p,hq⟩:∃ p,p=x%nn:=⟨_,rfl⟩
 have HQ:Hid _:=hq
 have hpl:p<nn:=hq ▸ Nat.mod_lt _ n0
 have c1:=h.row.cell hk
 obtain ⟨e1,e2,e3⟩:=h.at hk hpl
 have c3:=h.c1
 have HP:Hid _:=hp
 have n4:=h.n1
 have HS:Hid (stateN nn nr k d x=if (nr k p).dom=d∧(nr k p).line=x then (nr k p).st else 0):=by unfold stateN Hid;rw [hq]
 clear hq
 by_cases b1:(nr k p).dom=d
 ·
  by_cases b2:(nr k p).line=x
  ·
   have HE:Hid _:=show stateN nn nr k d x=(nr k p).st by rw [HS.out,if_pos ⟨b1,b2⟩]
   rw [b1] at e1
   rw [b2] at e2
   clear b1 b2
   go_enter Tryz.func170,Tryz.ntmps170
   go_wp2_with (go_at_call 173;refine (nplace_any nc nn X nr g o k x p _ h HP.out hk hx HQ).mono ?_;rintro e w' ⟨rfl,rfl⟩)
   go_ret
   exact ⟨ret_int HE.out.symm,(Below.refl _ _).alloc (Nat.le_refl _) _⟩
  ·
   have HE:Hid _:=show stateN nn nr k d x=0 by rw [HS.out,if_neg (fun hh=>b2 hh.2)]
   rw [b1] at e1
   clear b1
   go_enter Tryz.func170,Tryz.ntmps170
   go_wp2_with (go_at_call 173;refine (nplace_any nc nn X nr g o k x p _ h HP.out hk hx HQ).mono ?_;rintro e w' ⟨rfl,rfl⟩)
   go_ret
   exact ⟨ret_int HE.out.symm,(Below.refl _ _).alloc (Nat.le_refl _) _⟩
 ·
  have HE:Hid _:=show stateN nn nr k d x=0 by rw [HS.out,if_neg (fun hh=>b1 hh.1)]
  go_enter Tryz.func170,Tryz.ntmps170
  go_wp2_with (go_at_call 173;refine (nplace_any nc nn X nr g o k x p _ h HP.out hk hx HQ).mono ?_;rintro e w' ⟨rfl,rfl⟩)
  go_ret
  exact ⟨ret_int HE.out.symm,(Below.refl _ _).alloc (Nat.le_refl _) _⟩
theorem NearM.put {w:World}{nc nn:Nat}{X:NLoc}{nr:Nat→Nat→Cp}(h:NearM w nc nn X nr){k p:Nat}(hk:k<nc)(c:Cp) :
  NearM (((w.setCell ⟨X.b k,p*3,none⟩ (.int .i64 c.dom)).setCell ⟨X.b k,p*3+1,none⟩ (.int .i64 c.line)).setCell ⟨X.b k,p*3+2,none⟩ (.int .i64 c.st)) nc nn X (up2 nr k p c)
  ∧Touch (X.own nc) w (((w.setCell ⟨X.b k,p*3,none⟩ (.int .i64 c.dom)).setCell ⟨X.b k,p*3+1,none⟩ (.int .i64 c.line)).setCell ⟨X.b k,p*3+2,none⟩ (.int .i64 c.st)):=by
 have hr:X.r≠X.b k:=fun e=>absurd ((e ▸ h.row).type (h.cel k hk)) (by decide)
 refine ⟨⟨((h.row.setOther _ _ hr).setOther _ _ hr).setOther _ _ hr,fun j hj=>?_,h.rcap,h.bcap,h.dis,h.n0,h.n1,h.c1⟩,((Touch.setCell _ _ _ _ ⟨k,hk,rfl⟩).trans (Touch.setCell _ _ _ _ ⟨k,hk,rfl⟩)).trans (Touch.setCell _ _ _ _ ⟨k,hk,rfl⟩)⟩
 by_cases e:j=k
 ·
  subst e
  refine ((((h.cel j hj).set _ _).set _ _).set _ _).congr fun i hi=>?_
  unfold up2 cpV
  by_cases e1:i / 3=p
  ·
   have:i=p*3∨i=p*3+1∨i=p*3+2:=by omega
   rcases this with e2|e2|e2
   · subst e2;simp [show p*3 / 3=p by omega]
   · subst e2;simp [show (p*3+1) / 3=p by omega,show (p*3+1)%3=1 by omega]
   · subst e2;simp [show (p*3+2) / 3=p by omega,show (p*3+2)%3=2 by omega]
  ·
   have f1:i≠p*3:=by omega
   have f2:i≠p*3+1:=by omega
   have f3:i≠p*3+2:=by omega
   simp [e1,f1,f2,f3]
 ·
  have hb:X.b j≠X.b k:=fun hh=>e (h.dis j k hj hk hh)
  refine ((((h.cel j hj).setOther _ _ hb).setOther _ _ hb).setOther _ _ hb).congr fun i hi=>?_
  unfold up2
  simp [e]
set_option maxHeartbeats 3200000 in
theorem nput_any (nc nn:Nat)(X:NLoc)(nr:Nat→Nat→Cp)(g o k x:Nat)(d s:Int)(w:World)(h:NearM w nc nn X nr)(hp:w.cell? ⟨g,o,none⟩=some (.slice (some ⟨X.r,0,none⟩) nc X.rc))(hk:k<nc)(hx:x≤1000000) :
  Calls Tryz.prog 167 #[.pointer (some ⟨g,o,none⟩),.int .i64 k,.int .i64 d,.int .i64 x,.int .i64 s] w fun e w'=>e = .returned (.tuple #[])∧NearM w' nc nn X (putN nn nr k d x s)∧Touch (X.own nc) w w':=by
 have n0:=h.n0
 obtain ⟨p,hq⟩:∃ p,p=x%nn:=⟨_,rfl⟩
 have HQ:Hid _:=hq
 have hpl:p<nn:=hq ▸ Nat.mod_lt _ n0
 have c1:=h.row.cell hk
 obtain ⟨e1,e2,e3⟩:=h.at hk hpl
 have c3:=h.c1
 have HP:Hid _:=hp
 have HN:Hid _:=h.put (p:=p) hk ⟨d,x,s⟩
 have f1:=(h.cel k hk).frozen (p*3)
 have f2:=(h.cel k hk).frozen (p*3+1)
 have f3:=(h.cel k hk).frozen (p*3+2)
 have n4:=h.n1
 clear hq
 go_enter Tryz.func167,Tryz.ntmps167
 go_wp2_with (go_at_call 173;refine (nplace_any nc nn X nr g o k x p _ h HP.out hk hx HQ).mono ?_;rintro e w' ⟨rfl,rfl⟩)
 refine bodyPost_end (results_none rfl _ _ _) rfl ?_
 exact ⟨rfl,by unfold putN;rw [← HQ.out];exact HN.out.1,HN.out.2⟩
set_option maxHeartbeats 1600000 in
theorem nempty_any (w:World) :
  Calls Tryz.prog 138 #[] w fun e w'=>e = .returned (.agg #[.int .i64 (-1),.int .i64 (-1),.int .i64 0])∧w'=w.alloc (.cells #[.int .i64 (-1),.int .i64 (-1),.int .i64 0] 62):=by
 go_enter Tryz.func138,Tryz.ntmps138
 go_wp2
 refine bodyPost_ret (v:=.agg #[.int .i64 (-1),.int .i64 (-1),.int .i64 0]) (by simp [results,Tryz.results138,go_sem,alloc_cell]) rfl ⟨rfl,rfl⟩
set_option maxHeartbeats 3200000 in
theorem ndrop_any (nc nn:Nat)(X:NLoc)(nr:Nat→Nat→Cp)(g o k x:Nat)(d:Int)(w:World)(h:NearM w nc nn X nr)(hp:w.cell? ⟨g,o,none⟩=some (.slice (some ⟨X.r,0,none⟩) nc X.rc))(hk:k<nc)(hx:x≤1000000) :
  Calls Tryz.prog 172 #[.pointer (some ⟨g,o,none⟩),.int .i64 k,.int .i64 d,.int .i64 x] w fun e w'=>e = .returned (.tuple #[])∧NearM w' nc nn X (dropN nn nr k d x)∧Touch (X.own nc) w w':=by
 have n0:=h.n0
 obtain ⟨p,hq⟩:∃ p,p=x%nn:=⟨_,rfl⟩
 have HQ:Hid _:=hq
 have hpl:p<nn:=hq ▸ Nat.mod_lt _ n0
 have hg:g<w.heap.size:=cell_lt hp
 have n4:=h.n1
 have c3:=h.c1
 clear hq
 by_cases hs:stateN nn nr k d x=0
 ·
  have HD:Hid _:=show dropN nn nr k d x=nr by unfold dropN;rw [if_pos hs]
  go_enter Tryz.func172,Tryz.ntmps172
  go_wp2_with (first
   | (go_at_call 170;refine (nstate_any nc nn X nr g o k x d _ h hp hk hx).mono ?_;rintro e w1 ⟨rfl,hb1⟩;rw [hs];have h1:=h.below hb1 (Nat.le_refl _);have hp1:=(hb1.cell (p:=⟨g,o,none⟩) hg).trans hp;have HT:Hid _:=Touch.of_below (F:=X.own nc) hb1 (Nat.le_refl _))
   | (go_at_call 173;refine (nplace_any nc nn X nr g o k x p _ h1 hp1 hk hx HQ).mono ?_;rintro e w' ⟨rfl,rfl⟩))
  refine bodyPost_ret (results_none rfl _ _ _) rfl ?_
  exact ⟨rfl,by rw [HD.out];exact h1,HT.out⟩
 ·
  have HD:Hid _:=show dropN nn nr k d x=up2 nr k p cpE by unfold dropN;rw [if_neg hs,HQ.out]
  have hsb:(stateN nn nr k d x==0)=false:=by simp [hs]
  go_enter Tryz.func172,Tryz.ntmps172
  go_wp2_with (first
   | (go_at_call 170;refine (nstate_any nc nn X nr g o k x d _ h hp hk hx).mono ?_;rintro e w1 ⟨rfl,hb1⟩;have h1:=h.below hb1 (Nat.le_refl _);have hp1:=(hb1.cell (p:=⟨g,o,none⟩) hg).trans hp;have HT:Hid _:=Touch.of_below (F:=X.own nc) hb1 (Nat.le_refl _))
   | (go_at_call 173;refine (nplace_any nc nn X nr g o k x p _ h1 hp1 hk hx HQ).mono ?_;rintro e w' ⟨rfl,rfl⟩))
  rename World=>W
  have c1:=h1.row.cell hk
  obtain ⟨e1,e2,e3⟩:=h1.at hk hpl
  have f1:=(h1.cel k hk).frozen (p*3)
  have f2:=(h1.cel k hk).frozen (p*3+1)
  have f3:=(h1.cel k hk).frozen (p*3+2)
  have l0:g<W.heap.size:=cell_lt hp1
  have l1:=h1.row.lt
  have l2:=(h1.cel k hk).lt
  have HW:Hid _:=h1
  clear h1
  go_region_with (go_at_call 138;refine (nempty_any _).mono ?_;rintro e w2 ⟨rfl,rfl⟩)
  all_goals go_wp2
  all_goals refine bodyPost_end (results_none rfl _ _ _) rfl ?_
  all_goals
   have hP:=HW.out.put (p:=p) hk cpE
   refine ⟨rfl,?_,?_⟩
   ·
    rw [HD.out]
    exact hP.1.below (((Below.refl _ _).alloc (Nat.le_refl _) _).drew) (Nat.le_refl _)
   · exact (HT.out.trans hP.2).trans (Touch.of_below (((Below.refl _ _).alloc (Nat.le_refl _) _).drew) (Nat.le_refl _))
end Go.Proofs.YtehheaedbnfidaaGreat
