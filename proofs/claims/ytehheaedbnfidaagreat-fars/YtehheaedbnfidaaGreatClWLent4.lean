import Derived.Deep.RegionLaw
import Derived.Deep.AppendLies
import Derived.Test.YtehheaedbnfidaaGreatClWLent
set_option maxRecDepth 100000
namespace Go.Proofs.YtehheaedbnfidaaGreat
open Go.RowKit
def LentI (w:World)(sa:Option Addr)(xs:List Int)(va:Option Addr)(vl vc g:Nat):Prop:=
 (sa=none∧va=none∧vl=0∧vc=0)∨(sa≠none∧va=some ⟨g,0,none⟩∧vl=xs.length∧vc=xs.length+8∧Row w g (lentL xs 8) 3)
theorem LentI.same {w w':World}{sa:Option Addr}{xs:List Int}{va:Option Addr}{vl vc g:Nat}(h:LentI w sa xs va vl vc g)(hg:w'.heap[g]? = w.heap[g]?):LentI w' sa xs va vl vc g:=by
 rcases h with h|⟨h1,h2,h3,h4,h5⟩
 · exact Or.inl h
 · exact Or.inr ⟨h1,h2,h3,h4,by unfold Row;rw [hg];exact h5⟩
theorem LentI.below {w w':World}{sa:Option Addr}{xs:List Int}{va:Option Addr}{vl vc g n:Nat}(h:LentI w sa xs va vl vc g)(hb:Below n w w')(hn:w.heap.size≤n):LentI w' sa xs va vl vc g:=by
 rcases h with h|⟨h1,h2,h3,h4,h5⟩
 · exact Or.inl h
 · exact Or.inr ⟨h1,h2,h3,h4,h5.below hb (Nat.lt_of_lt_of_le h5.lt hn)⟩
theorem Ints.nil {w:World}{len cap:Nat}{xs:List Int}(h:Ints w none len cap xs):len=0∧cap=0∧xs=[]:=by
 have h1:=h.hnil rfl
 have h2:=h.hle
 have h3:=h.hlen
 refine ⟨by omega,h1,List.eq_nil_of_length_eq_zero (by omega)⟩
theorem LentI.ints {w w0:World}{sa:Option Addr}{len cap:Nat}{xs:List Int}{va:Option Addr}{vl vc g:Nat}(h:LentI w sa xs va vl vc g)(h0:Ints w0 sa len cap xs)(hr:len*8≤140737488351232):Ints w va vl vc xs:=by
 rcases h with ⟨rfl,rfl,rfl,rfl⟩|⟨h1,rfl,rfl,rfl,h5⟩
 ·
  obtain ⟨e1,e2,e3⟩:=h0.nil
  subst e3
  exact ⟨rfl,by omega,by unfold maxLen;omega,fun _=>rfl,fun i hi=>absurd hi (Nat.not_lt_zero _)⟩
 ·
  have hl:=h0.hlen
  refine ⟨rfl,by omega,by unfold maxLen;omega,(fun h=>by cases h),fun i hi=>⟨g,0,rfl,?_⟩⟩
  rw [Nat.zero_add,h5.cell,lent_get rfl hi]
theorem lentInts_any (sa:Option Addr)(len cap:Nat)(xs:List Int)(w:World)(h:Ints w sa len cap xs)(hr:len*8≤140737488351232) :
  Calls Tryz.prog 25 #[.slice sa len cap] w fun e w'=>∃ va vl vc,e = .returned (.slice va vl vc)∧LentI w' sa xs va vl vc w.heap.size∧Below w.heap.size w w'∧w'.heap.size≤w.heap.size+1:=by
 cases sa with
 | none=>
  obtain ⟨rfl,rfl,rfl⟩:=h.nil
  refine (lentInts_none w).mono ?_
  rintro e w' ⟨rfl,rfl⟩
  exact ⟨none,0,0,rfl,Or.inl ⟨rfl,rfl,rfl,rfl⟩,Below.refl _ _,by omega⟩
 | some a=>
  refine (lentInts_some a len cap xs w h hr).mono ?_
  rintro e w' ⟨rfl,rfl⟩
  refine ⟨_,_,_,rfl,Or.inr ⟨by simp,rfl,h.hlen.symm,by rw [h.hlen],heap_alloc_new w _⟩,(Below.refl _ _).alloc (Nat.le_refl _) _,by simp⟩
theorem wholeInts_any (sa:Option Addr)(len cap:Nat)(xs:List Int)(va:Option Addr)(vl vc g:Nat)(w:World)(h:Ints w sa len cap xs)(hr:len*8≤140737488351232)(hl:LentI w sa xs va vl vc g) :
  Calls Tryz.prog 28 #[.slice va vl vc,.slice sa len cap] w fun e w'=>e = .returned (.bool true)∧w'=w:=by
 rcases hl with ⟨rfl,rfl,rfl,rfl⟩|⟨h1,rfl,rfl,rfl,h5⟩
 ·
  obtain ⟨rfl,rfl,rfl⟩:=h.nil
  exact wholeInts_none none 0 0 w
 ·
  cases sa with
  | none=>exact absurd rfl h1
  | some a=>
   have e:=h.hlen
   subst e
   exact wholeInts_some g a _ cap xs w h hr h5
def Room (w:World)(va:Option Addr)(vl vc g:Nat):Prop:=
 (va=none∧vl=0∧vc=0)∨(va=some ⟨g,0,none⟩∧vc=vl+8∧∃ A:List Value,A.length=vl+8∧Row w g A 3)
theorem LentI.room {w:World}{sa:Option Addr}{xs:List Int}{va:Option Addr}{vl vc g:Nat}(h:LentI w sa xs va vl vc g):Room w va vl vc g:=by
 rcases h with ⟨_,h2,h3,h4⟩|⟨_,h2,h3,h4,h5⟩
 · exact Or.inl ⟨h2,h3,h4⟩
 · exact Or.inr ⟨h2,by rw [h4,h3],_,by rw [h3];exact lentL_len xs 8 (Nat.le_refl _),h5⟩
def Shaped (w w':World):Prop:=∀ k (A:List Value) t,Row w k A t→∃ B:List Value,B.length=A.length∧Row w' k B t
theorem Shaped.refl (w:World):Shaped w w:=fun _ A _ h=>⟨A,rfl,h⟩
theorem Shaped.trans {a b c:World}(h:Shaped a b)(k:Shaped b c):Shaped a c:=fun i A t hA=>by
 obtain ⟨B,e1,h1⟩:=h i A t hA
 obtain ⟨C,e2,h2⟩:=k i B t h1
 exact ⟨C,by rw [e2,e1],h2⟩
theorem Shaped.below {w w':World}(hb:Below w.heap.size w w'):Shaped w w':=fun _ A _ h=>⟨A,rfl,h.below hb h.lt⟩
theorem Shaped.setRow {w:World}{g:Nat}{A B:List Value}{t:TypeId}(h:Row w g A t)(hl:B.length=A.length):Shaped w (w.setRow g B.toArray):=fun k C t' hC=>by
 by_cases e:k=g
 ·
  subst e
  have e2:A=C∧t=t':=by
   have h1:=h
   unfold Row at h1 hC
   rw [h1] at hC
   simp only [Option.some.injEq,Obj.cells.injEq,and_true] at hC
   exact ⟨by simpa using hC.1,hC.2⟩
  exact ⟨B,by rw [hl,e2.1],by rw [← e2.2];exact h.set⟩
 · exact ⟨C,rfl,hC.setOther e⟩
theorem Room.shaped {w w':World}{va:Option Addr}{vl vc g:Nat}(h:Room w va vl vc g)(hs:Shaped w w'):Room w' va vl vc g:=by
 rcases h with h|⟨h1,h2,A,hA,hr⟩
 · exact Or.inl h
 ·
  obtain ⟨B,e,hB⟩:=hs _ _ _ hr
  exact Or.inr ⟨h1,h2,B,by rw [e,hA],hB⟩
theorem spoilInts_any (va:Option Addr)(vl vc g lo:Nat)(v:Int)(w:World)(hr:vl*8≤140737488351232)(h:Room w va vl vc g)(hlo:lo≤g) :
  Calls Tryz.prog 74 #[.slice va vl vc,.int .i64 v] w fun e w'=>e = .returned (.tuple #[])∧Below lo w w'∧Shaped w w'∧(∀ k,(va≠none→k≠g)→w'.heap[k]? = w.heap[k]?)∧Ints w' va vl vc (List.replicate vl v):=by
 rcases h with ⟨rfl,rfl,rfl⟩|⟨rfl,rfl,A,hA,hrow⟩
 ·
  refine (spoilInts_none v w).mono ?_
  rintro e w' ⟨rfl,rfl⟩
  exact ⟨rfl,Below.refl _ _,Shaped.refl _,fun _ _=>rfl,rfl,by omega,by unfold maxLen;omega,fun _=>rfl,fun i hi=>absurd hi (Nat.not_lt_zero _)⟩
 ·
  refine (spoilInts_some g vl A v w hr hA hrow).mono ?_
  rintro e w' ⟨rfl,rfl⟩
  have hs:Row (w.setRow g (List.replicate (vl+8) (Value.int .i64 v)).toArray) g (List.replicate (vl+8) (Value.int .i64 v)) 3:=hrow.set
  refine ⟨rfl,below_setRow (Below.refl _ _) hlo _,Shaped.setRow hrow (by simp [hA]),fun k hk=>setRow_other w g k _ (hk (by simp)),by simp,by omega,by unfold maxLen;omega,(fun h=>by cases h),fun i hi=>⟨g,0,rfl,?_⟩⟩
  rw [Nat.zero_add,hs.cell]
  simp only [List.getElem?_replicate]
  rw [if_pos (by omega)]
  simp [List.getD,hi]
end Go.Proofs.YtehheaedbnfidaaGreat
namespace Go.Proofs.YtehheaedbnfidaaGreat
open Go.RowKit
attribute [local go_sem] Tryz.nilInts Tryz.nilGrid
structure LSt (w wr:World)(c:Cf)(s1:Sl):Prop where
 below:Below w.heap.size w wr
 box:Row wr w.heap.size (cfgL c s1) 43
 res:∃ s2 c2,Row wr (w.heap.size+1) (cfgL c2 s2) 43
def cf0:Cf:=⟨0,0,0,0,0,0,0,[],0,[],[],0,0⟩
def sl0:Sl:=⟨none,0,0,none,0,0,none,0,0⟩
theorem LSt.start (w:World)(c:Cf)(s:Sl):LSt w ((w.alloc (.cells (cfgA c s) 43)).alloc (.cells (cfgA cf0 sl0) 43)) c s:=by
 refine ⟨((Below.refl _ _).alloc (Nat.le_refl _) _).alloc (by simp) _,?_,⟨sl0,cf0,?_⟩⟩
 ·
  have:Row (w.alloc (.cells (cfgA c s) 43)) w.heap.size (cfgL c s) 43:=heap_alloc_new w _
  exact this.alloc _
 ·
  have:=heap_alloc_new (w.alloc (.cells (cfgA c s) 43)) (.cells (cfgA cf0 sl0) 43)
  rw [World.size_alloc] at this
  exact this
theorem LSt.call {w wr wr':World}{c:Cf}{s1:Sl}{n:Nat}(h:LSt w wr c s1)(hb:Below n wr wr')(hn:n=wr.heap.size):LSt w wr' c s1:=by
 subst hn
 refine ⟨below_step h.below hb rfl,h.box.below hb h.box.lt,?_⟩
 obtain ⟨s2,c2,hr⟩:=h.res
 exact ⟨s2,c2,hr.below hb hr.lt⟩
theorem LSt.alloc {w wr:World}{c:Cf}{s1:Sl}(h:LSt w wr c s1)(o:Obj):LSt w (wr.alloc o) c s1:=
 h.call ((Below.refl _ _).alloc (Nat.le_refl _) o) rfl
theorem LSt.other {w wr:World}{c:Cf}{s1:Sl}(h:LSt w wr c s1)(g i:Nat)(v:Value)(hg:w.heap.size+1<g):LSt w (wr.setCell ⟨g,i,none⟩ v) c s1:=by
 refine ⟨h.below.setCell (by simp;omega) _,h.box.setCellOther _ _ (by omega),?_⟩
 obtain ⟨s2,c2,hr⟩:=h.res
 exact ⟨s2,c2,hr.setCellOther _ _ (by omega)⟩
theorem LSt.set7 {w wr:World}{c:Cf}{s1:Sl}(h:LSt w wr c s1)(a:Option Addr)(l k:Nat):LSt w (wr.setCell ⟨w.heap.size,7,none⟩ (.slice a l k)) c { s1 with wa:=a,wl:=l,wc:=k }:=by
 refine ⟨h.below.setCell (Nat.le_refl _) _,h.box.setCell 7 _,?_⟩
 obtain ⟨s2,c2,hr⟩:=h.res
 exact ⟨s2,c2,hr.setCellOther _ _ (by omega)⟩
theorem LSt.set9 {w wr:World}{c:Cf}{s1:Sl}(h:LSt w wr c s1)(a:Option Addr)(l k:Nat):LSt w (wr.setCell ⟨w.heap.size,9,none⟩ (.slice a l k)) c { s1 with sa:=a,sl:=l,sc:=k }:=by
 refine ⟨h.below.setCell (Nat.le_refl _) _,h.box.setCell 9 _,?_⟩
 obtain ⟨s2,c2,hr⟩:=h.res
 exact ⟨s2,c2,hr.setCellOther _ _ (by omega)⟩
theorem LSt.facts {w wr:World}{c:Cf}{s1:Sl}(h:LSt w wr c s1) :
  (∀ o,wr.cell? ⟨w.heap.size,o,none⟩=(cfgA c s1)[o]?)∧(∀ o,wr.frozen? ⟨w.heap.size,o,none⟩=false)∧
  ∃ s2 c2,(∀ o,wr.cell? ⟨w.heap.size+1,o,none⟩=(cfgA c2 s2)[o]?)∧(∀ o,wr.frozen? ⟨w.heap.size+1,o,none⟩=false):=by
 refine ⟨fun o=>by rw [h.box.cell];simp,fun o=>h.box.frozen o,?_⟩
 obtain ⟨s2,c2,hr⟩:=h.res
 exact ⟨s2,c2,fun o=>by rw [hr.cell];simp,fun o=>hr.frozen o⟩
structure LentW (w:World)(lo:Nat)(c:Cf)(s s1:Sl):Prop where
 ways:∃ g,lo≤g∧LentI w s.wa c.ways s1.wa s1.wl s1.wc g
 slots:∃ g,lo≤g∧LentI w s.sa c.slots s1.sa s1.sl s1.sc g
set_option maxHeartbeats 1000000 in
theorem lent_nil (c:Cf)(s:Sl)(w:World)(h:CfgAt w c s)(hc:CfR c)(hn:s.ta=none) :
  Calls Tryz.prog 29 #[cfgV c s] w fun e w'=>∃ s1,e = .returned (.tuple #[cfgV c s1,.slice none 0 0])∧Below w.heap.size w w'∧LentW w' w.heap.size c s s1∧s1.ta=none∧s1.tl=0∧s1.tc=0:=by
 obtain ⟨wa,wl,wc,sa,sl,sc,ta,tl,tc⟩:=s
 subst hn
 obtain rfl:tc=0:=h.turns.hnil rfl
 obtain rfl:tl=0:=Nat.eq_zero_of_le_zero h.turns.hle
 have k0:=LSt.start w c ⟨wa,wl,wc,sa,sl,sc,none,0,0⟩
 have r1:=hc.ways
 rw [h.ways.hlen] at r1
 have r2:=hc.slots
 rw [h.slots.hlen] at r2
 go_enter Tryz.func29,Tryz.ntmps29
 go_wp2_with fail
 refine (lentInts_any wa wl wc c.ways _ (h.ways.below k0.below (Nat.le_refl _)) r1).mono ?_
 rintro e w1 ⟨va,vl,vc,rfl,l1,hb1,hz1⟩
 have k1:=k0.call hb1 rfl
 obtain ⟨q1,f1,s2,c2,q2,f2⟩:=k1.facts
 go_wp2_with fail
 have k2:=k1.set7 va vl vc
 have l2:LentI (w1.setCell ⟨w.heap.size,7,none⟩ (.slice va vl vc)) wa c.ways va vl vc (w.heap.size+2):=by
  simp only [World.size_alloc] at l1
  exact l1.same (Below.heap_setCell _ _ _ _ (by simp;omega))
 have hz2:w.heap.size+2≤(w1.setCell ⟨w.heap.size,7,none⟩ (.slice va vl vc)).heap.size:=by
  have:=hb1.size
  simp only [World.size_alloc] at this
  simpa [World.setCell] using this
 clear q1 f1 q2 f2 hb1 hz1 l1 k0 k1
 generalize w1.setCell ⟨w.heap.size,7,none⟩ (.slice va vl vc)=w2 at *
 clear w1 s2 c2
 refine (lentInts_any sa sl sc c.slots _ (h.slots.below k2.below (Nat.le_refl _)) r2).mono ?_
 rintro e w3 ⟨ua,ul,uc,rfl,l3,hb3,hz3⟩
 have k3:=k2.call hb3 rfl
 obtain ⟨q1,f1,s2,c2,q2,f2⟩:=k3.facts
 go_wp2
 have l2':=l2.below hb3 (Nat.le_refl _)
 refine bodyPost_ret (v:=.tuple #[cfgV c ⟨va,vl,vc,ua,ul,uc,none,0,0⟩,.slice none 0 0]) (by simp [results,Tryz.results29,go_sem,q2]) rfl ⟨⟨va,vl,vc,ua,ul,uc,none,0,0⟩,rfl,?_,⟨⟨w.heap.size+2,by omega,l2'.same ?_⟩,⟨w2.heap.size,by omega,l3.same ?_⟩⟩,rfl,rfl,rfl⟩
 ·
  iterate 14 refine Below.setCell ?_ (by simp) _
  exact k3.below
 ·
  iterate 14 rw [Below.heap_setCell]
  all_goals (simp only [];omega)
 ·
  iterate 14 rw [Below.heap_setCell]
  all_goals (simp only [];omega)
end Go.Proofs.YtehheaedbnfidaaGreat
namespace Go.Proofs.YtehheaedbnfidaaGreat
open Go.RowKit
structure St where
 k:Int
 a:Int
 b:Int
 c:Int
 d:Int
abbrev opA (o:St):Array Value:=#[.int .i64 o.k,.int .i64 o.a,.int .i64 o.b,.int .i64 o.c,.int .i64 o.d]
abbrev opV (o:St):Value:=.agg (opA o)
def opsL (os:List (Int × Int × Int)):List Value:=os.flatMap fun p=>[.int .i64 p.1,.int .i64 p.2.1,.int .i64 p.2.2]
structure Own where
 ca:Option Addr
 cl:Nat
 cc:Nat
 ta:Option Addr
 tl:Nat
 tc:Nat
 oa:Option Addr
 ol:Nat
 oc:Nat
abbrev ownL (o:Own)(m e p b:Value):List Value:=[.slice o.ca o.cl o.cc,.slice o.ta o.tl o.tc,.slice o.oa o.ol o.oc,m,e,p,b]
structure WSt (w:World)(gw base:Nat)(o:Own)(m e p b:Value)(ts:List Int)(os:List (Int × Int × Int)):Prop where
 row:Row w gw (ownL o m e p b) 34
 hb:base≤gw
 tou:w.ownsRow base 3 1 (.slice o.ta o.tl o.tc) ts.length (ts.map (Value.int .i64))
 ops:w.ownsRow base 69 3 (.slice o.oa o.ol o.oc) os.length (opsL os)
theorem Tryz.infoOp:(Tryz.prog.info? 69).map (fun i=>(i.zero,i.size,i.bytes))=some (some (.agg #[.int .i64 0,.int .i64 0,.int .i64 0]),3,24):=by kernel_rfl
theorem WSt.below {w w':World}{gw base n:Nat}{o:Own}{m e p b:Value}{ts:List Int}{os:List (Int × Int × Int)}(h:WSt w gw base o m e p b ts os)(hb:Below n w w')(hn:n=w.heap.size):WSt w' gw base o m e p b ts os:=by
 subst hn
 exact ⟨h.row.below hb h.row.lt,h.hb,owns_same h.tou fun g hg=>hb.block g (owns_lt h.tou g hg).1,owns_same h.ops fun g hg=>hb.block g (owns_lt h.ops g hg).1⟩
def KeepO (w w':World):Prop:=∀ g A,Row w g A 36→Row w' g A 36
theorem KeepO.refl (w:World):KeepO w w:=fun _ _ h=>h
theorem KeepO.trans {a b c:World}(h:KeepO a b)(k:KeepO b c):KeepO a c:=fun g A hg=>k g A (h g A hg)
theorem KeepO.below {w w':World}{n:Nat}(hb:Below n w w')(hn:n=w.heap.size):KeepO w w':=fun _ _ h=>h.below hb (by rw [hn];exact h.lt)
theorem KeepO.setCell {w:World}{g:Nat}{B:List Value}{t:TypeId}(h:Row w g B t)(ht:t≠36)(i:Nat)(v:Value):KeepO w (w.setCell ⟨g,i,none⟩ v):=fun k A hA=>by
 refine hA.setCellOther _ _ ?_
 intro e
 subst e
 unfold Row at h hA
 rw [h] at hA
 simp only [Option.some.injEq,Obj.cells.injEq] at hA
 exact ht hA.2.1
theorem KeepO.grown {w w':World}{base:Nat}{e:TypeId}{size:Nat}{v:Value}{n:Nat}{xs:List Value}(h:w.ownsRow base e size v n xs)(ht:36≠e)(hg:w.grownBy w' v.ownBlock):KeepO w w':=fun k A hA=>by
 unfold Row
 rw [hg.block k hA.lt (fun he=>own_ne h hA ht he.symm)]
 exact hA
theorem WSt.touch {W X w1:World}{gw base gg cap:Nat}{o:Own}{m e p b:Value}{ts:List Int}{os:List (Int × Int × Int)}{a:Int}
  (h:WSt X gw base o m e p b ts os) (hgrow:X.grownBy w1 (Value.slice o.ta o.tl o.tc).ownBlock) (hbX:Below base W X)
  (hown:w1.ownsRow base 3 1 (.slice (some ⟨gg,0,none⟩) (ts.length+1) cap) (ts.length+1) (ts.map (Value.int .i64)++[.int .i64 a])) :
  WSt (w1.setCell ⟨gw,1,none⟩ (.slice (some ⟨gg,0,none⟩) (ts.length+1) cap)) gw base { o with ta:=some ⟨gg,0,none⟩,tl:=ts.length+1,tc:=cap } m e p b (ts++[a]) os∧Below base W (w1.setCell ⟨gw,1,none⟩ (.slice (some ⟨gg,0,none⟩) (ts.length+1) cap))∧KeepO X (w1.setCell ⟨gw,1,none⟩ (.slice (some ⟨gg,0,none⟩) (ts.length+1) cap)):=by
 have ag:=own_ne h.tou h.row (by decide)
 have hbg:=h.hb
 have lg:=h.row.lt
 have r1:Row w1 gw (ownL o m e p b) 34:=by
  unfold Row
  rw [hgrow.block gw lg (Ne.symm ag)]
  exact h.row
 have ops1:w1.ownsRow base 69 3 (.slice o.oa o.ol o.oc) os.length (opsL os):=
  owns_same h.ops fun g hg=>hgrow.block g (owns_lt h.ops g hg).1 (fun he=>owns_apart h.ops h.tou (by decide) g hg he.symm)
 refine ⟨⟨r1.setCell 1 _,hbg,?_,?_⟩,?_,KeepO.trans (KeepO.grown h.tou (by decide) hgrow) (KeepO.setCell r1 (by decide) _ _)⟩
 ·
  have hs:(ts++[a]).length=ts.length+1:=by simp
  rw [hs,List.map_append]
  refine owns_same hown fun g hg=>Below.heap_setCell _ _ _ _ ?_
  intro he
  subst he
  exact own_ne hown r1 (by decide) hg
 ·
  refine owns_same ops1 fun g hg=>Below.heap_setCell _ _ _ _ ?_
  intro he
  subst he
  exact own_ne ops1 r1 (by decide) hg
 ·
  refine (hbX.trans ⟨hgrow.os,hgrow.tape,hgrow.output,hgrow.size,fun k hk=>hgrow.block k (by omega) ?_⟩).setCell hbg _
  intro he
  have:=owns_lt h.tou k he.symm
  omega
structure GSt (w wr:World)(lo:Nat)(ta:Option Addr)(xss:List (List Int))(n k gt gm:Nat)(T M:List Value)(G:Nat→Nat):Prop where
 rowT:Row wr gt T 25
 rowM:Row wr gm M 25
 lenT:T.length=n+8
 lenM:M.length=n
 mt:∀ i,i<k→i<n→M[i]? = T[i]?
 glo:∀ i,i<k→lo≤G i∧G i<wr.heap.size
 ginc:∀ i j,i<j→j<k→G i<G j
 src:∀ i,i<k→i<n→∃ b off ia il ic va vl vc,ta=some ⟨b,off,none⟩∧w.cell? ⟨b,off+i,none⟩=some (.slice ia il ic)∧T[i]? = some (.slice va vl vc)∧LentI wr ia (xss.getD i []) va vl vc (G i)
 tail:∀ i,i<k→n≤i→T[i]? = some (.slice (some ⟨G i,0,none⟩) 1 1)∧Row wr (G i) [.int .i64 77] 3
theorem GSt.step {w wr wr':World}{lo:Nat}{ta:Option Addr}{xss:List (List Int)}{n k gt gm g:Nat}{T M M':List Value}{G:Nat→Nat}{v:Value}
  (h:GSt w wr lo ta xss n k gt gm T M G) (hgt:gt<lo) (hgm:gm<lo) (hk:∀ j,j<wr.heap.size→j≠gt→j≠gm→wr'.heap[j]? = wr.heap[j]?) (hsz:wr.heap.size≤wr'.heap.size)
  (hloz:lo≤wr.heap.size) (rT:Row wr' gt (T.set k v) 25) (rM:Row wr' gm M' 25) (hkn:k<n+8) (hM':M'=if k<n then M.set k v else M) (g1:wr.heap.size≤g) (g2:g<wr'.heap.size)
  (hs:k<n→∃ b off ia il ic va vl vc,ta=some ⟨b,off,none⟩∧w.cell? ⟨b,off+k,none⟩=some (.slice ia il ic)∧v = .slice va vl vc∧LentI wr' ia (xss.getD k []) va vl vc g)
  (ht:n≤k→v = .slice (some ⟨g,0,none⟩) 1 1∧Row wr' g [.int .i64 77] 3) :
  GSt w wr' lo ta xss n (k+1) gt gm (T.set k v) M' (fun i=>if i=k then g else G i):=by
 have hT:k<T.length:=by rw [h.lenT];exact hkn
 refine ⟨rT,rM,by rw [List.length_set,h.lenT],?_,?_,?_,?_,?_,?_⟩
 · subst hM';split <;> simp [h.lenM]
 ·
  intro i hi hin
  by_cases e:i=k
  ·
   subst e
   rw [hM',if_pos hin,List.getElem?_set_self (by rw [h.lenM];exact hin),List.getElem?_set_self hT]
  ·
   rw [List.getElem?_set_ne (by omega),hM']
   have:=h.mt i (by omega) hin
   split
   · rw [List.getElem?_set_ne (by omega)];exact this
   · exact this
 ·
  intro i hi
  by_cases e:i=k
  · simp only [e,if_true];omega
  ·
   simp only [e,if_false]
   have:=h.glo i (by omega)
   omega
 ·
  intro i j hij hj
  have e1:¬i=k:=by omega
  have:=h.glo i (by omega)
  by_cases e2:j=k
  · simp only [e1,e2,if_true,if_false];omega
  ·
   simp only [e1,e2,if_false]
   exact h.ginc i j hij (by omega)
 ·
  intro i hi hin
  by_cases e:i=k
  ·
   subst e
   obtain ⟨b,off,ia,il,ic,va,vl,vc,a1,a2,a3,a4⟩:=hs hin
   refine ⟨b,off,ia,il,ic,va,vl,vc,a1,a2,by rw [List.getElem?_set_self hT,a3],by simpa using a4⟩
  ·
   obtain ⟨b,off,ia,il,ic,va,vl,vc,a1,a2,a3,a4⟩:=h.src i (by omega) hin
   have hg:=h.glo i (by omega)
   refine ⟨b,off,ia,il,ic,va,vl,vc,a1,a2,by rw [List.getElem?_set_ne (by omega),a3],?_⟩
   simp only [e,if_false]
   exact a4.same (hk _ hg.2 (by omega) (by omega))
 ·
  intro i hi hin
  by_cases e:i=k
  ·
   subst e
   obtain ⟨a1,a2⟩:=ht hin
   refine ⟨by rw [List.getElem?_set_self hT,a1];simp,by simpa using a2⟩
  ·
   obtain ⟨a1,a2⟩:=h.tail i (by omega) hin
   have hg:=h.glo i (by omega)
   simp only [e,if_false]
   refine ⟨by rw [List.getElem?_set_ne (by omega),a1],?_⟩
   unfold Row
   rw [hk _ hg.2 (by omega) (by omega)]
   exact a2
theorem GSt.keep {w wr wr':World}{lo lo0:Nat}{ta:Option Addr}{xss:List (List Int)}{n k gt gm:Nat}{T M:List Value}{G:Nat→Nat}
  (h:GSt w wr lo ta xss n k gt gm T M G) (hk:∀ j,lo0≤j→wr'.heap[j]? = wr.heap[j]?) (h1:lo0≤gt) (h2:lo0≤gm) (h3:lo0≤lo) (hsz:wr.heap.size≤wr'.heap.size):GSt w wr' lo ta xss n k gt gm T M G:=by
 refine ⟨by unfold Row;rw [hk _ h1];exact h.rowT,by unfold Row;rw [hk _ h2];exact h.rowM,h.lenT,h.lenM,h.mt,fun i hi=>⟨(h.glo i hi).1,Nat.lt_of_lt_of_le (h.glo i hi).2 hsz⟩,h.ginc,?_,?_⟩
 ·
  intro i hi hin
  obtain ⟨b,off,ia,il,ic,va,vl,vc,a1,a2,a3,a4⟩:=h.src i hi hin
  exact ⟨b,off,ia,il,ic,va,vl,vc,a1,a2,a3,a4.same (hk _ (Nat.le_trans h3 (h.glo i hi).1))⟩
 ·
  intro i hi hin
  obtain ⟨a1,a2⟩:=h.tail i hi hin
  exact ⟨a1,by unfold Row;rw [hk _ (Nat.le_trans h3 (h.glo i hi).1)];exact a2⟩
theorem GSt.past {w wr:World}{lo:Nat}{ta:Option Addr}{xss:List (List Int)}{n k gt gm:Nat}{T M:List Value}{G:Nat→Nat}
  (h:GSt w wr lo ta xss n k gt gm T M G) (hgt:gt<lo) (hgm:gm<lo) (hne:gm≠gt) (hloz:lo≤wr.heap.size) (hkn:k<n+8) (hn:n≤k) :
  GSt w ((wr.alloc (.cells #[.int .i64 77] 3)).setCell ⟨gt,k,none⟩ (.slice (some ⟨wr.heap.size,0,none⟩) 1 1)) lo ta xss n (k+1) gt gm (T.set k (.slice (some ⟨wr.heap.size,0,none⟩) 1 1)) M (fun i=>if i=k then wr.heap.size else G i):=by
 refine h.step hgt hgm ?_ ?_ hloz ?_ ?_ hkn ?_ (Nat.le_refl _) ?_ ?_ ?_
 ·
  intro j h1 h2 h3
  rw [Below.heap_setCell _ _ _ _ h2,Below.heap_alloc _ _ _ h1]
 · simp [World.setCell]
 · exact (h.rowT.alloc _).setCell k _
 · exact (h.rowM.alloc _).setCellOther _ _ hne
 · rw [if_neg (by omega)]
 · simp [World.setCell]
 · intro h1;omega
 ·
  intro _
  refine ⟨rfl,?_⟩
  have:Row (wr.alloc (.cells #[.int .i64 77] 3)) wr.heap.size [.int .i64 77] 3:=heap_alloc_new wr _
  exact this.setCellOther _ _ (by omega)
theorem GSt.list {w wr w2:World}{lo:Nat}{ta:Option Addr}{xss:List (List Int)}{n k gt gm:Nat}{T M:List Value}{G:Nat→Nat}{b off:Nat}{ia va:Option Addr}{il ic vl vc:Nat}{u:Value}
  (h:GSt w wr lo ta xss n k gt gm T M G) (hgt:gt<lo) (hgm:gm<lo) (hne:gm≠gt) (hloz:lo≤wr.heap.size) (hn:k<n)
  (a1:ta=some ⟨b,off,none⟩) (a2:w.cell? ⟨b,off+k,none⟩=some (.slice ia il ic))
  (hb:Below (wr.heap.size+1) ((wr.alloc (.cells #[.int .i64 77] 3)).setCell ⟨gt,k,none⟩ u) w2)
  (hl:LentI w2 ia (xss.getD k []) va vl vc (wr.heap.size+1)) :
  ∃ G',GSt w ((w2.setCell ⟨gm,k,none⟩ (.slice va vl vc)).setCell ⟨gt,k,none⟩ (.slice va vl vc)) lo ta xss n (k+1) gt gm (T.set k (.slice va vl vc)) (M.set k (.slice va vl vc)) G':=by
 have hz:wr.heap.size+1≤w2.heap.size:=by
  have:=hb.size
  simpa [World.setCell] using this
 have hk2:∀ j,j<wr.heap.size→j≠gt→w2.heap[j]? = wr.heap[j]? := by
  intro j h1 h2
  rw [hb.block j (by omega),Below.heap_setCell _ _ _ _ h2,Below.heap_alloc _ _ _ h1]
 have rT2:Row w2 gt (T.set k u) 25:=by
  have:=(h.rowT.alloc (.cells #[.int .i64 77] 3)).setCell k u
  exact this.below hb (by omega)
 have rM2:Row w2 gm M 25:=by
  unfold Row
  rw [hk2 gm (by omega) hne]
  exact h.rowM
 have hl':∃ g,wr.heap.size≤g∧g<w2.heap.size∧LentI w2 ia (xss.getD k []) va vl vc g:=by
  rcases hl with hl|⟨e1,e2,e3,e4,e5⟩
  · exact ⟨wr.heap.size,Nat.le_refl _,by omega,Or.inl hl⟩
  · exact ⟨wr.heap.size+1,by omega,e5.lt,Or.inr ⟨e1,e2,e3,e4,e5⟩⟩
 obtain ⟨g,g1,g2,hlg⟩:=hl'
 refine ⟨_,h.step (g:=g) hgt hgm ?_ ?_ hloz ?_ ?_ (by omega) ?_ g1 ?_ ?_ ?_⟩
 ·
  intro j h1 h2 h3
  rw [Below.heap_setCell _ _ _ _ h2,Below.heap_setCell _ _ _ _ h3,hk2 j h1 h2]
 · simp [World.setCell];omega
 ·
  have:=(rT2.setCellOther (g:=gm) k (.slice va vl vc) (Ne.symm hne)).setCell k (.slice va vl vc)
  simpa using this
 · exact (rM2.setCell k _).setCellOther _ _ hne
 · rw [if_pos hn]
 · simpa [World.setCell] using g2
 ·
  intro _
  refine ⟨b,off,ia,il,ic,va,vl,vc,a1,a2,rfl,?_⟩
  refine hlg.same ?_
  rw [Below.heap_setCell _ _ _ _ (by simp only [];omega),Below.heap_setCell _ _ _ _ (by simp only [];omega)]
 · intro h1;omega
theorem state_drop {nn:Nat}{nr:Nat→Nat→Cp}{d:Int}{x j:Nat}{p:Nat→Bool}(hp:p j=false):stateN nn (dropAllN p nn nr d x) j d x=stateN nn nr j d x:=by
 unfold stateN dropAllN
 simp [hp]
theorem drop_step {nn:Nat}{nr:Nat→Nat→Cp}{d:Int}{x j:Nat}{p q:Nat→Bool}(hp:p j=false)(hq:∀ i,q i=(p i || decide (i=j))):dropAllN q nn nr d x=dropN nn (dropAllN p nn nr d x) j d x:=by
 unfold dropN
 rw [state_drop hp]
 funext k i
 by_cases hs:stateN nn nr j d x=0
 ·
  rw [if_pos hs]
  unfold dropAllN
  by_cases e:k=j
  · subst e;simp [hs]
  · simp [hq,e]
 ·
  rw [if_neg hs]
  unfold dropAllN up2
  by_cases e:k=j
  ·
   subst e
   by_cases e2:i=x%nn
   · simp [hq,e2,hs]
   · simp [e2]
  · simp [hq,e]
theorem drop_none {nn:Nat}{nr:Nat→Nat→Cp}{d:Int}{x:Nat}{p:Nat→Bool}(hp:∀ i,p i=false):dropAllN p nn nr d x=nr:=by
 funext k i
 simp [dropAllN,hp]
theorem drop_skip {nn:Nat}{nr:Nat→Nat→Cp}{d:Int}{x:Nat}{p q:Nat→Bool}(hp:∀ i,p i=q i):dropAllN p nn nr d x=dropAllN q nn nr d x:=by
 have:p=q:=funext hp
 rw [this]
theorem state_share {nn:Nat}{nr:Nat→Nat→Cp}{d:Int}{x j:Nat}{p:Nat→Bool}(hp:p j=false):stateN nn (shareAllN p nn nr d x) j d x=stateN nn nr j d x:=by
 unfold stateN shareAllN
 simp [hp]
theorem share_hit {nn:Nat}{nr:Nat→Nat→Cp}{d:Int}{x j:Nat}{p q:Nat→Bool}(hq:∀ i,q i=(p i || decide (i=j)))(hs:stateN nn nr j d x≠0):shareAllN q nn nr d x=putN nn (shareAllN p nn nr d x) j d x 1:=by
 funext k i
 unfold shareAllN putN up2
 by_cases e:k=j
 ·
  subst e
  by_cases e2:i=x%nn
  · simp [hq,e2,hs]
  · simp [e2]
 · simp [hq,e]
theorem share_miss {nn:Nat}{nr:Nat→Nat→Cp}{d:Int}{x j:Nat}{p q:Nat→Bool}(hq:∀ i,q i=(p i || decide (i=j)))(hs:stateN nn nr j d x=0):shareAllN q nn nr d x=shareAllN p nn nr d x:=by
 funext k i
 unfold shareAllN
 by_cases e:k=j
 · subst e;simp [hs]
 · simp [hq,e]
theorem share_none {nn:Nat}{nr:Nat→Nat→Cp}{d:Int}{x:Nat}{p:Nat→Bool}(hp:∀ i,p i=false):shareAllN p nn nr d x=nr:=by
 funext k i
 simp [shareAllN,hp]
theorem share_skip {nn:Nat}{nr:Nat→Nat→Cp}{d:Int}{x:Nat}{p q:Nat→Bool}(hp:∀ i,p i=q i):shareAllN p nn nr d x=shareAllN q nn nr d x:=by
 have:p=q:=funext hp
 rw [this]
set_option maxHeartbeats 3200000 in
theorem ndropAll_any (nc nn:Nat)(X:NLoc)(nr:Nat→Nat→Cp)(g o x:Nat)(d:Int)(w:World)(h:NearM w nc nn X nr)(hp:w.cell? ⟨g,o,none⟩=some (.slice (some ⟨X.r,0,none⟩) nc X.rc))(hg:¬X.own nc g)(hx:x≤1000000) :
  Calls Tryz.prog 162 #[.pointer (some ⟨g,o,none⟩),.int .i64 d,.int .i64 x] w fun e w'=>e = .returned (.tuple #[])∧NearM w' nc nn X (dropAllN (fun i=>decide (i<nc)) nn nr d x)∧Touch (X.own nc) w w':=by
 have lg:g<w.heap.size:=cell_lt hp
 have c3:=h.c1
 go_enter Tryz.func162,Tryz.ntmps162
 go_wp2_with fail
 go_loopw [6] (fun u wr=>∃ j:Nat,j≤nc∧u = .int .i64 j∧NearM wr nc nn X (dropAllN (fun i=>decide (i<j)) nn nr d x)∧Touch (X.own nc) w wr) (fun u _=>nc-(intOf u).toNat)
 case atStart=>exact ⟨0,by omega,rfl,by rw [drop_none (by simp)];exact h,Touch.refl _ _⟩
 case round=>
  obtain ⟨j,hj,rfl,hN,hT⟩:=hrel
  have r0:wr.cell? ⟨g,o,none⟩=some (.slice (some ⟨X.r,0,none⟩) nc X.rc):=by
   have e:wr.cell? ⟨g,o,none⟩=w.cell? ⟨g,o,none⟩:=by simp only [World.cell?];rw [hT.block g lg hg]
   rw [e];exact hp
  have HT:Hid _:=hT
  clear hT
  by_cases hlt:j<nc
  ·
   go_wp2_with fail
   refine (ndrop_any nc nn X _ g o j x d _ hN r0 hlt hx).mono ?_;rintro e w1 ⟨rfl,hN1,hT1⟩
   have HT1:Hid _:=HT.out.trans hT1
   rw [← drop_step (q:=fun i=>decide (i<j+1)) (by simp) (fun i=>by by_cases e1:i<j <;> by_cases e2:i=j <;> simp [e1,e2] <;> omega)] at hN1
   clear hT1
   go_wp2_with fail
   go_roundw
   case rel=>exact ⟨j+1,by omega,by go_num,hN1,HT1.out⟩
   case measure=>simp [intOf];omega
  ·
   have ej:j=nc:=by omega
   subst ej
   go_wp2
   refine bodyPost_end (results_none rfl _ _ _) rfl ?_
   exact ⟨rfl,hN,HT.out⟩
set_option maxHeartbeats 3200000 in
theorem ndropOthers_any (nc nn:Nat)(X:NLoc)(nr:Nat→Nat→Cp)(g o k x:Nat)(d:Int)(w:World)(h:NearM w nc nn X nr)(hp:w.cell? ⟨g,o,none⟩=some (.slice (some ⟨X.r,0,none⟩) nc X.rc))(hg:¬X.own nc g)(hx:x≤1000000) :
  Calls Tryz.prog 166 #[.pointer (some ⟨g,o,none⟩),.int .i64 k,.int .i64 d,.int .i64 x] w fun e w'=>e = .returned (.tuple #[])∧NearM w' nc nn X (dropAllN (fun i=>decide (i<nc∧i≠k)) nn nr d x)∧Touch (X.own nc) w w':=by
 have lg:g<w.heap.size:=cell_lt hp
 have c3:=h.c1
 go_enter Tryz.func166,Tryz.ntmps166
 go_wp2_with fail
 go_loopw [8] (fun u wr=>∃ j:Nat,j≤nc∧u = .int .i64 j∧NearM wr nc nn X (dropAllN (fun i=>decide (i<j∧i≠k)) nn nr d x)∧Touch (X.own nc) w wr) (fun u _=>nc-(intOf u).toNat)
 case atStart=>exact ⟨0,by omega,rfl,by rw [drop_none (by simp)];exact h,Touch.refl _ _⟩
 case round=>
  obtain ⟨j,hj,rfl,hN,hT⟩:=hrel
  have r0:wr.cell? ⟨g,o,none⟩=some (.slice (some ⟨X.r,0,none⟩) nc X.rc):=by
   have e:wr.cell? ⟨g,o,none⟩=w.cell? ⟨g,o,none⟩:=by simp only [World.cell?];rw [hT.block g lg hg]
   rw [e];exact hp
  have HT:Hid _:=hT
  clear hT
  by_cases hlt:j<nc
  ·
   by_cases hjk:(j:Int)=(k:Int)
   ·
    have HK:Hid (j=k):=by unfold Hid;omega
    go_wp2_with fail
    go_roundw
    case rel=>exact ⟨j+1,by omega,by go_num,by rw [drop_skip (q:=fun i=>decide (i<j∧i≠k)) (fun i=>by have:=HK.out;by_cases e1:i<j <;> by_cases e2:i=k <;> simp [e1,e2] <;> omega)];exact hN,HT.out⟩
    case measure=>simp [intOf];omega
   ·
    have HK:Hid (j≠k):=by unfold Hid;omega
    go_wp2_with fail
    refine (ndrop_any nc nn X _ g o j x d _ hN r0 hlt hx).mono ?_;rintro e w1 ⟨rfl,hN1,hT1⟩
    have HT1:Hid _:=HT.out.trans hT1
    rw [← drop_step (q:=fun i=>decide (i<j+1∧i≠k)) (by simp) (fun i=>by have:=HK.out;by_cases e1:i<j <;> by_cases e2:i=j <;> by_cases e3:i=k <;> simp [e1,e2,e3] <;> omega)] at hN1
    clear hT1
    go_wp2_with fail
    go_roundw
    case rel=>exact ⟨j+1,by omega,by go_num,hN1,HT1.out⟩
    case measure=>simp [intOf];omega
  ·
   have ej:j=nc:=by omega
   subst ej
   go_wp2
   refine bodyPost_end (results_none rfl _ _ _) rfl ?_
   exact ⟨rfl,hN,HT.out⟩
end Go.Proofs.YtehheaedbnfidaaGreat
namespace Go.Proofs.YtehheaedbnfidaaGreat
structure EntOk (e:Ent):Prop where
 l0:0≤e.line
 l1:e.line≤100
 t0:0≤e.t
 t1:e.t≤10000
structure SoOk (M:MDat)(d:Nat)(S:So)(B:Nat):Prop where
 hl:S.how.length=M.c.cores.toNat
 nl:S.next.length=M.c.cores.toNat
 fl:S.free.length=M.c.cores.toNat
 bl:S.began.length=M.c.cores.toNat
 log:∀ e∈S.log,EntOk e
 nx:∀ k,k<M.c.cores.toNat→0≤S.next.getD k 0∧S.next.getD k 0≤(progF M d k).length
 hw:∀ k,k<M.c.cores.toNat→S.how.getD k 0=0∨((S.how.getD k 0=1∨S.how.getD k 0=2)∧S.next.getD k 0<(progF M d k).length)
 w1:∀ k,k<M.c.cores.toNat→S.how.getD k 0=1→faultF M.c (opAt M d k S)=0
 qu:∀ q∈S.queue,∃ k:Nat,q=k∧k<M.c.cores.toNat∧S.how.getD k 0=1
 nd:S.queue.Nodup
 fr:∀ k,k<M.c.cores.toNat→0≤S.free.getD k 0∧S.free.getD k 0≤10001
 bg:∀ k,k<M.c.cores.toNat→0≤S.began.getD k 0∧S.began.getD k 0≤10000
 lb:S.log.length≤B
 eb:S.evs.length≤B
theorem getD_set {xs:List Int}{k j:Nat}{v:Int}(hk:k<xs.length):(xs.set k v).getD j 0=if j=k then v else xs.getD j 0:=by
 rw [List.getD_eq_getElem?_getD,List.getElem?_set]
 by_cases e:k=j
 · subst e;simp [hk]
 · rw [if_neg e,if_neg (fun h=>e h.symm),List.getD_eq_getElem?_getD]
theorem SoOk.mono {M:MDat}{d:Nat}{S:So}{B B':Nat}(h:SoOk M d S B)(hb:B≤B'):SoOk M d S B':=
 { h with lb:=Nat.le_trans h.lb hb,eb:=Nat.le_trans h.eb hb }
theorem SoOk.told {M:MDat}{d:Nat}{S:So}{B:Nat}(h:SoOk M d S B)(e:Ent)(he:EntOk e):SoOk M d (S.told e) (B+1):=
 ⟨h.hl,h.nl,h.fl,h.bl,fun x hx=>by
  rcases List.mem_cons.1 hx with hx|hx
  · subst hx;exact he
  · exact h.log x hx,h.nx,h.hw,h.w1,h.qu,h.nd,h.fr,h.bg,by simp only [So.told,List.length_cons];have:=h.lb;omega,by have:=h.eb;simp only [So.told];omega⟩
theorem SoOk.done {M:MDat}{d:Nat}{S:So}{B k:Nat}{t v f:Int}(h:SoOk M d S B)(hk:k<M.c.cores.toNat)(hn:S.next.getD k 0<(progF M d k).length)(hq:(k:Int) ∉ S.queue)(t0:0≤t)(t1:t≤10000):SoOk M d (S.done k t v f) (B+1):=by
 have kn:k<S.next.length:=by rw [h.nl];exact hk
 have kf:k<S.free.length:=by rw [h.fl];exact hk
 have kh:k<S.how.length:=by rw [h.hl];exact hk
 have op:∀ j,j≠k→opAt M d j (S.done k t v f)=opAt M d j S:=fun j hj=>by
  unfold opAt So.done
  simp only
  rw [getD_set kn,if_neg hj]
 refine ⟨by simp [So.done,h.hl],by simp [So.done,h.nl],by simp [So.done,h.fl],by simp [So.done,h.bl],h.log,?_,?_,?_,?_,h.nd,?_,h.bg,by have:=h.lb;simp only [So.done];omega,by simp only [So.done,List.length_append,List.length_cons,List.length_nil];have:=h.eb;omega⟩
 ·
  intro j hj
  simp only [So.done]
  rw [getD_set kn]
  by_cases e:j=k
  · subst e;rw [if_pos rfl];have:=h.nx j hj;omega
  · rw [if_neg e];exact h.nx j hj
 ·
  intro j hj
  simp only [So.done]
  rw [getD_set kh,getD_set kn]
  by_cases e:j=k
  · subst e;left;rw [if_pos rfl]
  · rw [if_neg e,if_neg e];exact h.hw j hj
 ·
  intro j hj hw
  by_cases e:j=k
  ·
   subst e
   simp only [So.done] at hw
   rw [getD_set kh,if_pos rfl] at hw
   omega
  ·
   rw [op j e]
   simp only [So.done] at hw
   rw [getD_set kh,if_neg e] at hw
   exact h.w1 j hj hw
 ·
  intro q hq2
  obtain ⟨j,e1,e2,e3⟩:=h.qu q hq2
  refine ⟨j,e1,e2,?_⟩
  simp only [So.done]
  rw [getD_set kh,if_neg (fun e=>by subst e;subst e1;exact hq hq2)]
  exact e3
 ·
  intro j hj
  simp only [So.done]
  rw [getD_set kf]
  by_cases e:j=k
  · subst e;rw [if_pos rfl];omega
  · rw [if_neg e];exact h.fr j hj
theorem fault_none {c:Cf}{o:OpT}(h:faultF c o=0):0≤o.2.1∧o.2.1<c.priv+c.shared:=by
 unfold faultF at h
 by_cases h1:o.2.1<0∨c.priv+c.shared≤o.2.1
 · rw [if_pos h1] at h;omega
 · omega
theorem line_ok {c:Cf}(hc:chk c=0){a:Int}(a0:0≤a)(a1:a<c.priv+c.shared):0≤a / c.line∧a / c.line≤100:=by
 obtain ⟨_,_,_,_,_,_,hl,p1,p2,sh0,sh1⟩:=shape_bounds (chk_zero hc).1
 refine ⟨Int.ediv_nonneg a0 (by omega),?_⟩
 have:=Int.ediv_le_self c.line a0
 omega
theorem lies_ok {c:Cf}{set way:Int}:∀ {log:List Ent},(∀ e∈log,EntOk e)→0≤liesF c set way log→liesF c set way log≤100
 | [],_,h=>by simp [liesF] at h
 | e::r,hl,h=>by
  unfold liesF at h ⊢
  by_cases h1:((e.line%c.sets==set)&&e.way==way&&e.what==1)=true
  · rw [if_pos h1];exact (hl e (List.mem_cons_self ..)).l1
  ·
   rw [if_neg h1] at h ⊢
   by_cases h2:((e.line%c.sets==set)&&e.way==way&&e.what==2)=true
   · rw [if_pos h2];omega
   ·
    rw [if_neg h2] at h ⊢
    exact lies_ok (fun x hx=>hl x (List.mem_cons_of_mem _ hx)) h
theorem SoOk.pop {M:MDat}{d:Nat}{S:So}{B:Nat}{q:Int}{r:List Int}(h:SoOk M d S B)(hq:S.queue=q::r):SoOk M d { S with queue:=r } B∧q ∉ r:=by
 have hnd:=h.nd
 rw [hq] at hnd
 refine ⟨⟨h.hl,h.nl,h.fl,h.bl,h.log,h.nx,h.hw,h.w1,fun x hx=>h.qu x (by rw [hq];exact List.mem_cons_of_mem _ hx),(List.nodup_cons.1 hnd).2,h.fr,h.bg,h.lb,h.eb⟩,(List.nodup_cons.1 hnd).1⟩
theorem SoOk.serve {M:MDat}{d:Nat}{S:So}{B:Nat}{t:Int}(h:SoOk M d S B)(hc:chk M.c=0)(t0:0≤t)(t1:t≤10000):SoOk M d (So.serve M d S t) (B+3):=by
 unfold So.serve
 cases hq:S.queue with
 | nil=>exact h.mono (by omega)
 | cons core r=>
  obtain ⟨k,rfl,hk,hk1⟩:=h.qu core (by rw [hq];exact List.mem_cons_self ..)
  simp only [Int.toNat_natCast]
  have hf:=h.w1 k hk hk1
  obtain ⟨a0,a1⟩:=fault_none hf
  obtain ⟨x0,x1⟩:=line_ok hc a0 a1
  have hn:S.next.getD k 0<(progF M d k).length:=by rcases h.hw k hk with e | e <;> omega
  obtain ⟨hp,hq2⟩:=h.pop hq
  by_cases c1:0≤whereF ((opAt M d k S).2.1 / M.c.line) S.log
  ·
   rw [if_pos c1]
   by_cases c2:(opAt M d k S).1=1
   ·
    rw [if_pos c2]
    exact ((hp.told _ ⟨x0,x1,t0,t1⟩).told _ ⟨x0,x1,t0,t1⟩).done hk hn hq2 t0 t1
   ·
    rw [if_neg c2]
    exact ((hp.told _ ⟨x0,x1,t0,t1⟩).done hk hn hq2 t0 t1).mono (by omega)
  ·
   rw [if_neg c1]
   by_cases c2:0≤liesF M.c ((opAt M d k S).2.1 / M.c.line%M.c.sets) (chosenF M.c (M.c.ways.count (d:Int)) ((opAt M d k S).2.1 / M.c.line%M.c.sets) S.log) S.log
   ·
    rw [if_pos c2]
    have y1:=lies_ok h.log c2
    by_cases c3:markedF (liesF M.c ((opAt M d k S).2.1 / M.c.line%M.c.sets) (chosenF M.c (M.c.ways.count (d:Int)) ((opAt M d k S).2.1 / M.c.line%M.c.sets) S.log) S.log) S.log=true
    ·
     rw [if_pos c3]
     exact (h.told _ ⟨c2,y1,t0,t1⟩).mono (by omega)
    ·
     rw [if_neg c3]
     exact ((h.told _ ⟨c2,y1,t0,t1⟩).told _ ⟨x0,x1,t0,t1⟩).mono (by omega)
   ·
    rw [if_neg c2]
    exact (h.told _ ⟨x0,x1,t0,t1⟩).mono (by omega)
theorem SoOk.service {M:MDat}{d:Nat}{S:So}{B:Nat}{t:Int}(h:SoOk M d S B)(hc:chk M.c=0)(t0:0≤t)(t1:t≤10000):SoOk M d (So.service M d S t) (B+3):=by
 unfold So.service
 by_cases c1:servesB M.c d t=true
 · rw [if_pos c1];exact h.serve hc t0 t1
 · rw [if_neg c1];exact h.mono (by omega)
theorem SoOk.began {M:MDat}{d:Nat}{S:So}{B k:Nat}{t:Int}(h:SoOk M d S B)(hk:k<M.c.cores.toNat)(t0:0≤t)(t1:t≤10000):SoOk M d { S with began:=S.began.set k t } B:=by
 have kb:k<S.began.length:=by rw [h.bl];exact hk
 refine ⟨h.hl,h.nl,h.fl,by simp [h.bl],h.log,h.nx,h.hw,h.w1,h.qu,h.nd,h.fr,fun j hj=>?_,h.lb,h.eb⟩
 simp only
 rw [getD_set kb]
 by_cases e:j=k
 · rw [if_pos e];omega
 · rw [if_neg e];exact h.bg j hj
theorem SoOk.begin {M:MDat}{d:Nat}{S:So}{B k:Nat}{t:Int}(h:SoOk M d S B)(hc:chk M.c=0)(hk:k<M.c.cores.toNat)(hn:S.next.getD k 0<(progF M d k).length)(h0:S.how.getD k 0=0)(t0:0≤t)(t1:t≤10000):SoOk M d (So.begin M d k S t) (B+2):=by
 have kh:k<S.how.length:=by rw [h.hl];exact hk
 have hb:=h.began hk t0 t1
 have nq:(k:Int) ∉ S.queue:=fun hq=>by
  obtain ⟨j,e1,e2,e3⟩:=h.qu _ hq
  have:k=j:=by omega
  subst this
  omega
 unfold So.begin
 by_cases c1:faultF M.c (opAt M d k S)≠0
 ·
  simp only [if_pos c1]
  refine ⟨by simp [h.hl],h.nl,h.fl,hb.bl,h.log,h.nx,fun j hj=>?_,fun j hj hw=>?_,fun q hq=>?_,h.nd,h.fr,hb.bg,by have:=h.lb;simp only;omega,by have:=h.eb;simp only;omega⟩
  ·
   simp only
   rw [getD_set kh]
   by_cases e:j=k
   · subst e;right;rw [if_pos rfl];exact ⟨Or.inr rfl,hn⟩
   · rw [if_neg e];exact h.hw j hj
  ·
   simp only at hw
   rw [getD_set kh] at hw
   by_cases e:j=k
   · rw [if_pos e] at hw;omega
   · rw [if_neg e] at hw;exact h.w1 j hj hw
  ·
   obtain ⟨j,e1,e2,e3⟩:=h.qu q hq
   refine ⟨j,e1,e2,?_⟩
   simp only
   rw [getD_set kh,if_neg (fun e=>by subst e;omega)]
   exact e3
 ·
  simp only [if_neg c1]
  have hf:faultF M.c (opAt M d k S)=0:=by omega
  obtain ⟨a0,a1⟩:=fault_none hf
  obtain ⟨x0,x1⟩:=line_ok hc a0 a1
  by_cases c2:stateF M.c k ((opAt M d k S).2.1 / M.c.line) t false S.log=0∨((opAt M d k S).1=1∧stateF M.c k ((opAt M d k S).2.1 / M.c.line) t false S.log=1)
  ·
   simp only [if_pos c2]
   refine ⟨by simp [h.hl],h.nl,h.fl,hb.bl,h.log,h.nx,fun j hj=>?_,fun j hj hw=>?_,fun q hq=>?_,?_,h.fr,hb.bg,by have:=h.lb;simp only;omega,by have:=h.eb;simp only;omega⟩
   ·
    simp only
    rw [getD_set kh]
    by_cases e:j=k
    · subst e;right;rw [if_pos rfl];exact ⟨Or.inl rfl,hn⟩
    · rw [if_neg e];exact h.hw j hj
   ·
    simp only at hw
    rw [getD_set kh] at hw
    by_cases e:j=k
    · subst e;exact hf
    · rw [if_neg e] at hw;exact h.w1 j hj hw
   ·
    simp only at hq ⊢
    rcases List.mem_append.1 hq with hq|hq
    ·
     obtain ⟨j,e1,e2,e3⟩:=h.qu q hq
     refine ⟨j,e1,e2,?_⟩
     rw [getD_set kh,if_neg (fun e=>by subst e;omega)]
     exact e3
    ·
     have:q=(k:Int):=by simpa using hq
     exact ⟨k,this,hk,by rw [getD_set kh,if_pos rfl]⟩
   ·
    simp only
    rw [List.nodup_append]
    refine ⟨h.nd,by simp,fun x hx y hy e=>?_⟩
    have:y=(k:Int):=by simpa using hy
    subst this
    subst e
    exact nq hx
  ·
   simp only [if_neg c2]
   by_cases c3:(opAt M d k S).1=1
   ·
    simp only [if_pos c3]
    exact (hb.told _ ⟨x0,x1,t0,t1⟩).done hk hn nq t0 t1
   ·
    simp only [if_neg c3]
    exact (hb.done hk hn nq t0 t1).mono (by omega)
theorem SoOk.works {M:MDat}{d:Nat}{S:So}{B k:Nat}{t:Int}(h:SoOk M d S B)(hc:chk M.c=0)(hk:k<M.c.cores.toNat)(t0:0≤t)(t1:t≤10000):SoOk M d (So.works M d k S t) (B+2):=by
 unfold So.works
 by_cases c1:S.how.getD k 0=2∧t=S.began.getD k 0+2
 ·
  rw [if_pos c1]
  have hn:S.next.getD k 0<(progF M d k).length:=by rcases h.hw k hk with e | e <;> omega
  refine (h.done hk hn (fun hq=>?_) t0 t1).mono (by omega)
  obtain ⟨j,e1,e2,e3⟩:=h.qu _ hq
  have:k=j:=by omega
  subst this
  omega
 ·
  rw [if_neg c1]
  by_cases c2:S.how.getD k 0≠0∨t<S.free.getD k 0∨((progF M d k).length:Int)≤S.next.getD k 0∨openB M.c k d t=false
  · rw [if_pos c2];exact h.mono (by omega)
  ·
   rw [if_neg c2]
   exact h.begin hc hk (by omega) (by omega) t0 t1
theorem SoOk.worksAll {M:MDat}{d:Nat}{t:Int}(hc:chk M.c=0)(t0:0≤t)(t1:t≤10000):∀ (n j:Nat) {S:So} {B:Nat},SoOk M d S B→j+n≤M.c.cores.toNat→SoOk M d (So.worksAll M d t n j S) (B+2*n)
 | 0,_,_,_,h,_=>h
 | n+1,j,S,B,h,hj=>by
  have:=SoOk.worksAll hc t0 t1 n (j+1) (h.works hc (by omega:j<_) t0 t1) (by omega)
  exact this.mono (by omega)
theorem SoOk.cycle {M:MDat}{d:Nat}{S:So}{B:Nat}{t:Int}(h:SoOk M d S B)(hc:chk M.c=0)(t0:0≤t)(t1:t≤10000):SoOk M d (So.cycle M d S t) (B+9):=by
 have c2:=(right_of hc).c2
 have:=SoOk.worksAll (d:=d) hc t0 t1 M.c.cores.toNat 0 (h.service hc t0 t1) (by omega)
 exact this.mono (by omega)
theorem SoOk.start {M:MDat}{d:Nat}:SoOk M d (So.start M.c.cores.toNat) 0:=by
 have z:∀ k,(List.replicate M.c.cores.toNat (0:Int)).getD k 0=0:=fun k=>by
  rw [List.getD_eq_getElem?_getD,List.getElem?_replicate];split <;> rfl
 refine ⟨by simp [So.start],by simp [So.start],by simp [So.start],by simp [So.start],by simp [So.start],fun k _=>?_,fun k _=>Or.inl (z k),fun k _ hw=>?_,by simp [So.start],by simp [So.start],fun k _=>?_,fun k _=>?_,by simp [So.start],by simp [So.start]⟩
 ·
  show 0≤(List.replicate M.c.cores.toNat (0:Int)).getD k 0∧_
  simp only [So.start]
  rw [z];omega
 ·
  have:(List.replicate M.c.cores.toNat (0:Int)).getD k 0=1:=hw
  rw [z] at this;omega
 · simp only [So.start];rw [z];omega
 · simp only [So.start];rw [z];omega
theorem SoOk.upto {M:MDat}{d:Nat}(hc:chk M.c=0):∀ (T:Nat),T≤10000→SoOk M d (So.upto M d T) (9*T)
 | 0,_=>SoOk.start
 | t+1,h=>(SoOk.cycle (SoOk.upto hc t (by omega)) hc (by omega) (by omega)).mono (by omega)
def cntF (p:Int→Bool):Nat→Int→Nat
 | 0,_=>0
 | n+1,u=>(if p u=true then 1 else 0)+cntF p n (u+1)
theorem cntF_snoc (p:Int→Bool):∀ (n:Nat) (u:Int),cntF p (n+1) u=cntF p n u+(if p (u+n)=true then 1 else 0)
 | 0,u=>by simp [cntF]
 | n+1,u=>by
  rw [cntF,cntF_snoc p n (u+1),cntF]
  rw [show u+1+(n:Int)=u+((n+1:Nat):Int) by omega]
  omega
theorem cntF_add (p:Int→Bool):∀ (n m:Nat) (u:Int),cntF p (n+m) u=cntF p n u+cntF p m (u+n)
 | 0,m,u=>by simp [cntF]
 | n+1,m,u=>by
  rw [show n+1+m=(n+m)+1 by omega,cntF,cntF_add p n m (u+1),cntF]
  rw [show u+1+(n:Int)=u+((n+1:Nat):Int) by omega]
  omega
theorem cntF_shift {p:Int→Bool}{L:Nat}(hp:∀ u,p (u+L)=p u)(u:Int):cntF p L (u+1)=cntF p L u:=by
 have h1:cntF p (L+1) u=(if p u=true then 1 else 0)+cntF p L (u+1):=rfl
 have h2:=cntF_snoc p L u
 rw [hp u] at h2
 omega
theorem cntF_shiftN {p:Int→Bool}{L:Nat}(hp:∀ u,p (u+L)=p u):∀ (n:Nat),cntF p L (n:Int)=cntF p L 0
 | 0=>rfl
 | n+1=>by
  rw [show ((n+1:Nat):Int)=(n:Int)+1 by omega,cntF_shift hp,cntF_shiftN hp n]
theorem cntF_slot {p:Int→Bool}{q:Nat→Bool}{s:Nat}(hs:0<s)(k:Nat)(hp:∀ i:Nat,i<s→p ((k*s+i:Nat):Int)=(decide (i=s-1)&&q k)):cntF p s ((k*s:Nat):Int)=if q k=true then 1 else 0:=by
 obtain ⟨r,rfl⟩:∃ r,s=r+1:=⟨s-1,by omega⟩
 have z:∀ n:Nat,n≤r→cntF p n ((k*(r+1):Nat):Int)=0:=by
  intro n
  induction n with
  | zero=>intro _;rfl
  | succ n ih=>
   intro hn
   rw [cntF_snoc,ih (by omega)]
   have:=hp n (by omega)
   rw [show ((k*(r+1):Nat):Int)+(n:Int)=((k*(r+1)+n:Nat):Int) by omega,this,decide_eq_false (by omega)]
   simp
 rw [cntF_snoc,z r (Nat.le_refl _)]
 have:=hp r (by omega)
 rw [show ((k*(r+1):Nat):Int)+(r:Int)=((k*(r+1)+r:Nat):Int) by omega,this,decide_eq_true (by omega)]
 simp
theorem cntF_table {p:Int→Bool}{q:Nat→Bool}{s:Nat}(hs:0<s):∀ (n:Nat),(∀ k i:Nat,k<n→i<s→p ((k*s+i:Nat):Int)=(decide (i=s-1)&&q k))→cntF p (n*s) 0=((List.range n).filter q).length
 | 0,_=>by simp [cntF]
 | n+1,hp=>by
  rw [show (n+1)*s=n*s+s by rw [Nat.succ_mul],cntF_add,cntF_table hs n (fun k i hk hi=>hp k i (by omega) hi)]
  rw [show (0:Int)+((n*s:Nat):Int)=((n*s:Nat):Int) by omega,cntF_slot hs n (fun i hi=>hp n i (by omega) hi)]
  rw [List.range_succ,List.filter_append,List.length_append]
  cases hq:q n <;> simp [hq]
theorem count_range (l:List Int)(d:Int):((List.range l.length).filter fun k=>l.getD k 0==d).length=l.count d:=by
 induction l with
 | nil=>rfl
 | cons x xs ih=>
  rw [List.length_cons,List.range_succ_eq_map,List.filter_cons,List.filter_map,List.count_cons]
  have e:((fun k=>(x::xs).getD k 0==d) ∘ Nat.succ)=fun k=>xs.getD k 0==d:=by
   funext k;simp [List.getD]
  rw [e]
  by_cases h:x=d
  ·
   subst h
   simp only [List.getD] at ih ⊢
   simpa using ih
  ·
   simp only [List.getD] at ih ⊢
   simpa [h] using ih
theorem firstF_spec {p:Int→Bool}:∀ (n:Nat) (u:Int),0<cntF p n u→u≤firstF p n u∧firstF p n u<u+n∧p (firstF p n u)=true∧∀ v,u≤v→v<firstF p n u→p v=false
 | 0,u,h=>by simp [cntF] at h
 | n+1,u,h=>by
  unfold firstF
  by_cases hp:p u=true
  ·
   rw [if_pos hp]
   exact ⟨by omega,by omega,hp,fun v h1 h2=>by omega⟩
  ·
   rw [if_neg hp]
   have h':0<cntF p n (u+1):=by
    rw [cntF,if_neg hp] at h
    omega
   obtain ⟨h1,h2,h3,h4⟩:=firstF_spec n (u+1) h'
   refine ⟨by omega,by omega,h3,fun v hv1 hv2=>?_⟩
   by_cases e:v=u
   · subst e;simpa using hp
   · exact h4 v (by omega) hv2
theorem allUpto_true {p:Int→Bool}:∀ {n:Nat},allUpto p n=true→∀ k:Nat,k<n→p k=true
 | n+1,h,k,hk=>by
  simp only [allUpto,Bool.and_eq_true] at h
  by_cases e:k=n
  · subst e;exact h.2
  · exact allUpto_true h.1 k (by omega)
theorem owns_slot {c:Cf}(h:slotsB c=true){d:Int}(h0:0≤d)(h1:d<c.domains):0<c.slots.count d:=by
 simp only [slotsB,Bool.and_eq_true] at h
 obtain ⟨i,rfl⟩:=Int.eq_ofNat_of_zero_le h0
 have:=allUpto_true h.2 i (by omega)
 simp only [Bool.not_eq_true',beq_eq_false_iff_ne] at this
 omega
theorem serves_period (c:Cf)(d:Int)(hs:1≤c.slot)(u:Int):servesB c d (u+((c.slots.length*c.slot.toNat:Nat):Int))=servesB c d u:=by
 have e:((c.slots.length*c.slot.toNat:Nat):Int)=(c.slots.length:Int)*c.slot:=by
  rw [Int.natCast_mul,Int.toNat_of_nonneg (by omega)]
 have e1:(u+(c.slots.length:Int)*c.slot)%c.slot=u%c.slot:=by rw [Int.add_mul_emod_self_right]
 have e2:(u+(c.slots.length:Int)*c.slot) / c.slot=u / c.slot+c.slots.length:=Int.add_mul_ediv_right _ _ (by omega)
 have e3:(u / c.slot+(c.slots.length:Int))%(c.slots.length:Int)=u / c.slot%(c.slots.length:Int):=by rw [Int.add_emod_right]
 unfold servesB
 rw [e,e1,e2,e3]
theorem serves_table (c:Cf)(d:Int)(hs:1≤c.slot)(k i:Nat)(hk:k<c.slots.length)(hi:i<c.slot.toNat) :
  servesB c d ((k*c.slot.toNat+i:Nat):Int)=(decide (i=c.slot.toNat-1)&&(c.slots.getD k 0==d)):=by
 obtain ⟨s,hs'⟩:∃ s:Nat,c.slot=(s:Int):=⟨c.slot.toNat,by omega⟩
 have hs2:c.slot.toNat=s:=by omega
 rw [hs2] at hi ⊢
 have hspos:0<s:=by omega
 have e1:((k*s+i:Nat):Int)%(s:Int)=(i:Int):=by
  rw [← Int.natCast_emod,Nat.mul_comm,Nat.mul_add_mod,Nat.mod_eq_of_lt hi]
 have e2:((k*s+i:Nat):Int) / (s:Int)=(k:Int):=by
  rw [← Int.natCast_ediv,Nat.mul_comm,Nat.mul_add_div hspos,Nat.div_eq_of_lt hi,Nat.add_zero]
 have e3:(k:Int)%(c.slots.length:Int)=(k:Int):=Int.emod_eq_of_lt (by omega) (by omega)
 unfold servesB
 rw [hs',e1,e2,e3,Int.toNat_natCast]
 congr 1
 by_cases h:i=s-1
 · rw [decide_eq_true h];simp;omega
 · rw [decide_eq_false h];simp;omega
theorem serves_count (c:Cf)(d:Int)(hs:1≤c.slot)(t:Nat):cntF (servesB c d) (c.slots.length*c.slot.toNat) (t:Int)=c.slots.count d:=by
 rw [cntF_shiftN (serves_period c d hs) t]
 rw [cntF_table (q:=fun k=>c.slots.getD k 0==d) (s:=c.slot.toNat) (by omega) c.slots.length (fun k i hk hi=>serves_table c d hs k i hk hi)]
 exact count_range c.slots d
def neverZ:Int:=1099511627776
def opensF (c:Cf)(k:Nat)(d:Int):Nat→Int→Int
 | 0,_=>neverZ
 | n+1,u=>if openB c k d u=true then u else opensF c k d n ((u / c.quantum+1)*c.quantum)
def opensZ (c:Cf)(k:Nat)(d t:Int):Int:=opensF c k d ((rowOf c k).length+1) t
def coreF (M:MDat)(d k:Nat)(S:So)(t:Int):Int:=
 if S.how.getD k 0=2 then S.began.getD k 0+2
 else if S.how.getD k 0=0∧S.next.getD k 0<(progF M d k).length then (if t<S.free.getD k 0 then opensZ M.c k d (S.free.getD k 0) else opensZ M.c k d t)
 else neverZ
def soonF (M:MDat)(d:Nat)(S:So)(t:Int):Nat→Nat→Int→Int
 | 0,_,u=>u
 | n+1,j,u=>soonF M d S t n (j+1) (if coreF M d j S t<u then coreF M d j S t else u)
def soonZ (M:MDat)(d:Nat)(S:So)(t:Int):Int:=soonF M d S t M.c.cores.toNat 0 (if S.queue=[] then neverZ else waitZ M.c d t)
theorem soonF_le (M:MDat)(d:Nat)(S:So)(t:Int):∀ (n j:Nat) (u:Int),soonF M d S t n j u≤u∧∀ i,j≤i→i<j+n→soonF M d S t n j u≤coreF M d i S t
 | 0,j,u=>⟨Int.le_refl _,fun i h1 h2=>by omega⟩
 | n+1,j,u=>by
  obtain ⟨h1,h2⟩:=soonF_le M d S t n (j+1) (if coreF M d j S t<u then coreF M d j S t else u)
  unfold soonF
  have hu:(if coreF M d j S t<u then coreF M d j S t else u)≤u∧(if coreF M d j S t<u then coreF M d j S t else u)≤coreF M d j S t:=by
   by_cases h:coreF M d j S t<u
   · rw [if_pos h];omega
   · rw [if_neg h];omega
  refine ⟨Int.le_trans h1 hu.1,fun i hi1 hi2=>?_⟩
  by_cases e:i=j
  · subst e;exact Int.le_trans h1 hu.2
  · exact h2 i (by omega) (by omega)
theorem open_later {c:Cf}{k:Nat}{d u v:Int}(hq:0<c.quantum)(h:openB c k d u=false)(h1:u≤v)(h2:v<(u / c.quantum+1)*c.quantum):openB c k d v=false:=by
 have e1:=Int.mul_ediv_add_emod u c.quantum
 have e2:=Int.mul_ediv_add_emod v c.quantum
 have r0:=Int.emod_nonneg v (show c.quantum≠0 by omega)
 have r1:=Int.emod_lt_of_pos v hq
 have s0:=Int.emod_nonneg u (show c.quantum≠0 by omega)
 have l1:u / c.quantum≤v / c.quantum:=Int.ediv_le_ediv hq h1
 have l2:v / c.quantum<u / c.quantum+1:=Int.ediv_lt_of_lt_mul hq h2
 have l3:v / c.quantum=u / c.quantum:=by omega
 rw [l3] at e2
 have l4:u%c.quantum≤v%c.quantum:=by omega
 unfold openB turnZ at h ⊢
 rw [l3]
 by_cases g:v%c.quantum<c.quantum-c.flush-worstZ c
 ·
  have g':u%c.quantum<c.quantum-c.flush-worstZ c:=by omega
  rw [decide_eq_true g'] at h
  rw [decide_eq_true g]
  exact h
 ·
  rw [decide_eq_false g]
  simp
def turnIs (c:Cf)(k:Nat)(d q:Int):Bool:=((rowOf c k).getD (q%((rowOf c k).length:Int)).toNat 0==d)
theorem open_turn {c:Cf}{k:Nat}{d v:Int}(h:openB c k d v=true):turnIs c k d (v / c.quantum)=true∧0≤d:=by
 unfold openB turnZ at h
 simp only [Bool.and_eq_true,decide_eq_true_eq] at h
 exact ⟨h.1.1,h.1.2⟩
theorem open_start {c:Cf}{k:Nat}{d q:Int}(R:Right c)(h:turnIs c k d q=true)(hd:0≤d):openB c k d (q*c.quantum)=true:=by
 have q1:=R.q1
 have w0:=R.w0
 have f1:=R.f1
 unfold openB turnZ
 rw [Int.mul_ediv_cancel _ (by omega),Int.mul_emod_left]
 unfold turnIs at h
 rw [h,decide_eq_true hd,decide_eq_true (by omega)]
 rfl
theorem opensF_spec {c:Cf}{k:Nat}{d:Int}(hq:0<c.quantum):∀ (n:Nat) (u v:Int),u≤v→v<opensF c k d n u→v<(u / c.quantum+n)*c.quantum→openB c k d v=false
 | 0,u,v,h1,_,h3=>by
  have e1:=Int.mul_ediv_add_emod u c.quantum
  have s0:=Int.emod_nonneg u (show c.quantum≠0 by omega)
  rw [Int.mul_comm] at e1
  simp only [Int.natCast_zero,Int.add_zero] at h3
  omega
 | n+1,u,v,h1,h2,h3=>by
  unfold opensF at h2
  by_cases ho:openB c k d u=true
  · rw [if_pos ho] at h2;omega
  ·
   rw [if_neg ho] at h2
   have ho':openB c k d u=false:=by simpa using ho
   by_cases g:v<(u / c.quantum+1)*c.quantum
   · exact open_later hq ho' h1 g
   ·
    refine opensF_spec hq n ((u / c.quantum+1)*c.quantum) v (by omega) h2 ?_
    rw [Int.mul_ediv_cancel _ (by omega)]
    have e:u / c.quantum+((n+1:Nat):Int)=u / c.quantum+1+(n:Int):=by omega
    rw [e] at h3
    exact h3
theorem opensF_le {c:Cf}{k:Nat}{d:Int}(hq:0<c.quantum):∀ (n:Nat) (u:Int) (i:Nat),1≤i→i<n→openB c k d ((u / c.quantum+i)*c.quantum)=true→opensF c k d n u≤(u / c.quantum+i)*c.quantum
 | 0,_,i,_,h,_=>by omega
 | n+1,u,i,h1,h2,ho=>by
  unfold opensF
  have e1:=Int.mul_ediv_add_emod u c.quantum
  have s1:=Int.emod_lt_of_pos u hq
  rw [Int.mul_comm] at e1
  by_cases hu:openB c k d u=true
  ·
   rw [if_pos hu]
   have:(u / c.quantum+1)*c.quantum≤(u / c.quantum+i)*c.quantum:=Int.mul_le_mul_of_nonneg_right (by omega) (by omega)
   rw [Int.add_mul,Int.one_mul] at this
   omega
  ·
   rw [if_neg hu]
   by_cases e:i=1
   ·
    subst e
    cases n with
    | zero=>omega
    | succ m=>
     unfold opensF
     have ho':openB c k d ((u / c.quantum+1)*c.quantum)=true:=ho
     rw [if_pos ho']
     exact Int.le_refl _
   ·
    have:=opensF_le (k:=k) (d:=d) hq n ((u / c.quantum+1)*c.quantum) (i-1) (by omega) (by omega)
    rw [Int.mul_ediv_cancel _ (by omega)] at this
    have e2:u / c.quantum+1+((i-1:Nat):Int)=u / c.quantum+(i:Int):=by omega
    rw [e2] at this
    exact this ho
theorem turn_period {c:Cf}{k:Nat}{d q:Int}(h:turnIs c k d q=true)(hl:0<(rowOf c k).length)(p:Int):∃ i:Nat,1≤i∧i≤(rowOf c k).length∧turnIs c k d (p+i)=true:=by
 have h1:=Int.emod_nonneg (q-p-1) (show ((rowOf c k).length:Int)≠0 by omega)
 have h2:=Int.emod_lt_of_pos (q-p-1) (show (0:Int)<((rowOf c k).length:Int) by omega)
 obtain ⟨i,hi⟩:=Int.eq_ofNat_of_zero_le h1
 refine ⟨i+1,by omega,by omega,?_⟩
 unfold turnIs at h ⊢
 have e:(p+((i+1:Nat):Int))%((rowOf c k).length:Int)=q%((rowOf c k).length:Int):=by
  rw [show p+((i+1:Nat):Int)=(i:Int)+(p+1) by omega,← hi,Int.emod_add_emod,show q-p-1+(p+1)=q by omega]
 rw [e]
 exact h
theorem opens_spec {c:Cf}{k:Nat}{d t v:Int}(R:Right c)(hl:0<(rowOf c k).length)(h1:t≤v)(h2:v<opensZ c k d t):openB c k d v=false:=by
 have q1:=R.q1
 have w0:=R.w0
 have f1:=R.f1
 have hq:0<c.quantum:=by omega
 cases ho:openB c k d v with
 | false=>rfl
 | true=>
  exfalso
  by_cases g:v<(t / c.quantum+((rowOf c k).length+1:Nat))*c.quantum
  ·
   have:=opensF_spec hq _ t v h1 h2 g
   rw [ho] at this
   exact absurd this (by simp)
  ·
   obtain ⟨ht,hd⟩:=open_turn ho
   obtain ⟨i,i1,i2,hi⟩:=turn_period ht hl (t / c.quantum)
   have:=opensF_le hq ((rowOf c k).length+1) t i i1 (by omega) (open_start R hi hd)
   have h3:(t / c.quantum+(i:Int))*c.quantum≤(t / c.quantum+((rowOf c k).length+1:Nat))*c.quantum:=Int.mul_le_mul_of_nonneg_right (by omega) (by omega)
   unfold opensZ at h2
   omega
theorem opensF_ge {c:Cf}{k:Nat}{d:Int}(hq:0<c.quantum):∀ (n:Nat) (u:Int),u≤opensF c k d n u∨opensF c k d n u=neverZ
 | 0,u=>Or.inr rfl
 | n+1,u=>by
  unfold opensF
  by_cases hu:openB c k d u=true
  · rw [if_pos hu];left;omega
  ·
   rw [if_neg hu]
   have e1:=Int.mul_ediv_add_emod u c.quantum
   have s1:=Int.emod_lt_of_pos u hq
   rw [Int.mul_comm] at e1
   rcases opensF_ge (k:=k) (d:=d) hq n ((u / c.quantum+1)*c.quantum) with h2|h2
   ·
    left
    have e2:(u / c.quantum+1)*c.quantum=u / c.quantum*c.quantum+c.quantum:=by rw [Int.add_mul,Int.one_mul]
    omega
   · exact Or.inr h2
def FailOk (M:MDat)(S:So)(t:Int):Prop:=∀ k,k<M.c.cores.toNat→S.how.getD k 0=2→t≤S.began.getD k 0+2
theorem row_pos {c:Cf}(hc:chk c=0){k:Nat}(hk:k<c.cores.toNat):0<(rowOf c k).length:=by
 have R:=right_of hc
 have:=grid_row R (i:=k) (by have:=R.tl;omega)
 unfold rowOf
 omega
theorem works_skip {M:MDat}{d k:Nat}{S:So}{t v:Int}(hc:chk M.c=0)(hk:k<M.c.cores.toNat)(h1:t≤v)(h2:v<coreF M d k S t):So.works M d k S v=S:=by
 unfold So.works
 unfold coreF at h2
 by_cases c1:S.how.getD k 0=2
 ·
  rw [if_pos c1] at h2
  rw [if_neg (by omega),if_pos (Or.inl (by omega))]
 ·
  rw [if_neg c1] at h2
  rw [if_neg (by omega)]
  by_cases c2:S.how.getD k 0=0∧S.next.getD k 0<(progF M d k).length
  ·
   rw [if_pos c2] at h2
   by_cases c3:v<S.free.getD k 0
   · rw [if_pos (Or.inr (Or.inl c3))]
   ·
    refine if_pos (Or.inr (Or.inr (Or.inr ?_)))
    by_cases c4:t<S.free.getD k 0
    ·
     rw [if_pos c4] at h2
     exact opens_spec (right_of hc) (row_pos hc hk) (by omega) h2
    ·
     rw [if_neg c4] at h2
     exact opens_spec (right_of hc) (row_pos hc hk) h1 h2
  ·
   refine if_pos ?_
   by_cases c3:S.how.getD k 0=0
   · right;right;left;omega
   · exact Or.inl c3
theorem worksAll_skip {M:MDat}{d:Nat}{S:So}{t v:Int}(hc:chk M.c=0)(h1:t≤v):∀ (n j:Nat),j+n≤M.c.cores.toNat→(∀ i,j≤i→i<j+n→v<coreF M d i S t)→So.worksAll M d v n j S=S
 | 0,_,_,_=>rfl
 | n+1,j,hj,h=>by
  unfold So.worksAll
  rw [works_skip hc (by omega) h1 (h j (Nat.le_refl _) (by omega))]
  exact worksAll_skip hc h1 n (j+1) (by omega) (fun i h3 h4=>h i (by omega) (by omega))
theorem wait_skip {c:Cf}{d:Nat}{t v:Int}(hc:chk c=0)(hd:(d:Int)<c.domains)(t0:0≤t)(h1:t≤v)(h2:v<waitZ c d t):servesB c d v=false:=by
 have R:=right_of hc
 obtain ⟨n,rfl⟩:=Int.eq_ofNat_of_zero_le t0
 have hs:=R.s1
 have hcnt:=serves_count c d hs n
 have hpos:=owns_slot (chk_zero hc).2.2.1 (d:=(d:Int)) (by omega) hd
 have e:((c.slots.length:Int)*c.slot).toNat=c.slots.length*c.slot.toNat:=by
  have:(c.slots.length:Int)*c.slot=((c.slots.length*c.slot.toNat:Nat):Int):=by
   rw [Int.natCast_mul,Int.toNat_of_nonneg (by omega)]
  rw [this,Int.toNat_natCast]
 obtain ⟨_,_,_,h4⟩:=firstF_spec (p:=servesB c d) (c.slots.length*c.slot.toNat) (n:Int) (by omega)
 unfold waitZ at h2
 rw [e] at h2
 exact h4 v h1 h2
theorem cycle_skip {M:MDat}{d:Nat}{S:So}{t v:Int}(hc:chk M.c=0)(hd:(d:Int)<M.c.domains)(t0:0≤t)(h1:t≤v)(h2:v<soonZ M d S t):So.cycle M d S v=S:=by
 obtain ⟨g1,g2⟩:=soonF_le M d S t M.c.cores.toNat 0 (if S.queue=[] then neverZ else waitZ M.c d t)
 have s:So.service M d S v=S:=by
  unfold So.service
  by_cases c1:S.queue=[]
  ·
   by_cases c2:servesB M.c d v=true
   · rw [if_pos c2];unfold So.serve;rw [c1]
   · rw [if_neg c2]
  ·
   rw [if_neg c1] at g1
   unfold soonZ at h2
   rw [if_neg c1] at h2
   rw [wait_skip hc hd t0 h1 (by omega)]
   simp
 unfold So.cycle
 rw [s]
 exact worksAll_skip hc h1 _ 0 (by omega) (fun i h3 h4=>by
  have:=g2 i h3 h4
  unfold soonZ at h2
  omega)
theorem upto_skip {M:MDat}{d:Nat}(hc:chk M.c=0)(hd:(d:Int)<M.c.domains)(t0:Nat):∀ (n:Nat),(((t0+n:Nat):Int)≤soonZ M d (So.upto M d t0) t0)→So.upto M d (t0+n)=So.upto M d t0
 | 0,_=>rfl
 | n+1,h=>by
  have ih:=upto_skip hc hd t0 n (by omega)
  show So.cycle M d (So.upto M d (t0+n)) ((t0+n:Nat):Int)=_
  rw [ih]
  exact cycle_skip hc hd (t:=(t0:Int)) (by omega) (by omega) (by omega)
theorem firstF_ge {p:Int→Bool}:∀ (n:Nat) (u:Int),u≤firstF p n u
 | 0,u=>Int.le_refl _
 | n+1,u=>by
  unfold firstF
  by_cases h:p u=true
  · rw [if_pos h];exact Int.le_refl _
  · rw [if_neg h];have:=firstF_ge (p:=p) n (u+1);omega
theorem getD_set_ne {xs:List Int}{k j:Nat}{v:Int}(h:j≠k):(xs.set k v).getD j 0=xs.getD j 0:=by
 rw [List.getD_eq_getElem?_getD,List.getElem?_set_ne (fun e=>h e.symm),List.getD_eq_getElem?_getD]
theorem soonF_ge (M:MDat)(d:Nat)(S:So)(t:Int):∀ (n j:Nat) (u:Int),t≤u→(∀ i,j≤i→i<j+n→t≤coreF M d i S t)→t≤soonF M d S t n j u
 | 0,_,u,h,_=>h
 | n+1,j,u,h,hc=>by
  unfold soonF
  refine soonF_ge M d S t n (j+1) _ ?_ (fun i h1 h2=>hc i (by omega) (by omega))
  by_cases g:coreF M d j S t<u
  · rw [if_pos g];exact hc j (Nat.le_refl _) (by omega)
  · rw [if_neg g];exact h
theorem opensZ_ge {c:Cf}{k:Nat}{d t:Int}(R:Right c)(h:t≤neverZ):t≤opensZ c k d t:=by
 have q1:=R.q1
 have w0:=R.w0
 have f1:=R.f1
 rcases opensF_ge (k:=k) (d:=d) (show 0<c.quantum by omega) ((rowOf c k).length+1) t with g|g
 · exact g
 · unfold opensZ;rw [g];exact h
theorem soon_ge {M:MDat}{d:Nat}{S:So}{t:Int}(hc:chk M.c=0)(hf:FailOk M S t)(hfr:∀ k,k<M.c.cores.toNat→S.free.getD k 0≤10001)(h:t≤20000):t≤soonZ M d S t:=by
 have R:=right_of hc
 unfold soonZ
 refine soonF_ge M d S t _ 0 _ ?_ (fun i _ h2=>?_)
 ·
  by_cases g:S.queue=[]
  · rw [if_pos g];unfold neverZ;omega
  · rw [if_neg g];exact firstF_ge _ _
 ·
  unfold coreF
  by_cases c1:S.how.getD i 0=2
  · rw [if_pos c1];exact hf i (by omega) c1
  ·
   rw [if_neg c1]
   by_cases c2:S.how.getD i 0=0∧S.next.getD i 0<(progF M d i).length
   ·
    rw [if_pos c2]
    by_cases c3:t<S.free.getD i 0
    ·
     rw [if_pos c3]
     have:=hfr i (by omega)
     have:=opensZ_ge (k:=i) (d:=(d:Int)) (t:=S.free.getD i 0) R (by unfold neverZ;omega)
     omega
    ·
     rw [if_neg c3]
     exact opensZ_ge R (by unfold neverZ;omega)
   · rw [if_neg c2];unfold neverZ;omega
theorem done_other {S:So}{k j:Nat}{t v f:Int}(h:j≠k):(S.done k t v f).how.getD j 0=S.how.getD j 0∧(S.done k t v f).began.getD j 0=S.began.getD j 0:=by
 refine ⟨?_,rfl⟩
 show (S.how.set k 0).getD j 0=_
 exact getD_set_ne h
theorem done_how {S:So}{k j:Nat}{t v f:Int}(h:(S.done k t v f).how.getD j 0=2):S.how.getD j 0=2∧(S.done k t v f).began.getD j 0=S.began.getD j 0:=by
 by_cases e:j=k
 ·
  subst e
  unfold So.done at h
  simp only at h
  rw [List.getD_eq_getElem?_getD,List.getElem?_set_self'] at h
  cases hq:S.how[j]? with
  | none=>rw [hq] at h;simp at h
  | some x=>rw [hq] at h;simp at h
 · exact ⟨by rw [← (done_other e).1];exact h,rfl⟩
theorem service_how {M:MDat}{d:Nat}{S:So}{t:Int}{j:Nat}(h:(So.service M d S t).how.getD j 0=2):S.how.getD j 0=2∧(So.service M d S t).began.getD j 0=S.began.getD j 0:=by
 unfold So.service at h ⊢
 by_cases c1:servesB M.c d t=true
 ·
  rw [if_pos c1] at h ⊢
  unfold So.serve at h ⊢
  cases hq:S.queue with
  | nil=>simp only [hq] at h ⊢;exact ⟨h,trivial⟩
  | cons q r=>
   simp only [hq] at h ⊢
   split at h
   ·
    rename_i g1
    rw [if_pos g1]
    split at h
    ·
     rename_i g2
     rw [if_pos g2]
     have g:=done_how h
     exact ⟨g.1,g.2⟩
    ·
     rename_i g2
     rw [if_neg g2]
     have g:=done_how h
     exact ⟨g.1,g.2⟩
   ·
    rename_i g1
    rw [if_neg g1]
    split at h
    ·
     rename_i g2
     rw [if_pos g2]
     split at h
     ·
      rename_i g3
      rw [if_pos g3]
      exact ⟨h,rfl⟩
     ·
      rename_i g3
      rw [if_neg g3]
      exact ⟨h,rfl⟩
    ·
     rename_i g2
     rw [if_neg g2]
     exact ⟨h,rfl⟩
 ·
  rw [if_neg c1] at h ⊢
  exact ⟨h,rfl⟩
theorem begin_other {M:MDat}{d:Nat}{S:So}{t:Int}{k j:Nat}(h:j≠k):(So.begin M d k S t).how.getD j 0=S.how.getD j 0∧(So.begin M d k S t).began.getD j 0=S.began.getD j 0:=by
 unfold So.begin
 by_cases c1:faultF M.c (opAt M d k S)≠0
 ·
  simp only [if_pos c1]
  exact ⟨getD_set_ne h,getD_set_ne h⟩
 ·
  simp only [if_neg c1]
  by_cases c2:stateF M.c k ((opAt M d k S).2.1 / M.c.line) t false S.log=0∨((opAt M d k S).1=1∧stateF M.c k ((opAt M d k S).2.1 / M.c.line) t false S.log=1)
  ·
   simp only [if_pos c2]
   exact ⟨getD_set_ne h,getD_set_ne h⟩
  ·
   simp only [if_neg c2]
   by_cases c3:(opAt M d k S).1=1
   ·
    simp only [if_pos c3]
    refine ⟨(done_other h).1,?_⟩
    rw [(done_other h).2]
    exact getD_set_ne h
   ·
    simp only [if_neg c3]
    refine ⟨(done_other h).1,?_⟩
    rw [(done_other h).2]
    exact getD_set_ne h
theorem works_other {M:MDat}{d:Nat}{S:So}{t:Int}{k j:Nat}(h:j≠k):(So.works M d k S t).how.getD j 0=S.how.getD j 0∧(So.works M d k S t).began.getD j 0=S.began.getD j 0:=by
 unfold So.works
 by_cases c1:S.how.getD k 0=2∧t=S.began.getD k 0+2
 · rw [if_pos c1];exact done_other h
 ·
  rw [if_neg c1]
  by_cases c2:S.how.getD k 0≠0∨t<S.free.getD k 0∨((progF M d k).length:Int)≤S.next.getD k 0∨openB M.c k d t=false
  · rw [if_pos c2];exact ⟨rfl,rfl⟩
  · rw [if_neg c2];exact begin_other h
theorem begin_began {M:MDat}{d:Nat}{S:So}{t:Int}{k:Nat}(hk:k<S.began.length):(So.begin M d k S t).began.getD k 0=t:=by
 have e:(S.began.set k t).getD k 0=t:=by rw [getD_set hk,if_pos rfl]
 unfold So.begin
 by_cases c1:faultF M.c (opAt M d k S)≠0
 · simp only [if_pos c1];exact e
 ·
  simp only [if_neg c1]
  by_cases c2:stateF M.c k ((opAt M d k S).2.1 / M.c.line) t false S.log=0∨((opAt M d k S).1=1∧stateF M.c k ((opAt M d k S).2.1 / M.c.line) t false S.log=1)
  · simp only [if_pos c2];exact e
  ·
   simp only [if_neg c2]
   by_cases c3:(opAt M d k S).1=1
   · simp only [if_pos c3];exact e
   · simp only [if_neg c3];exact e
theorem works_fail {M:MDat}{d:Nat}{S:So}{t:Int}{k:Nat}(hk:k<S.began.length)(hf:S.how.getD k 0=2→t≤S.began.getD k 0+2)(h:(So.works M d k S t).how.getD k 0=2):t+1≤(So.works M d k S t).began.getD k 0+2:=by
 unfold So.works at h ⊢
 by_cases c1:S.how.getD k 0=2∧t=S.began.getD k 0+2
 ·
  rw [if_pos c1] at h
  exfalso
  unfold So.done at h
  simp only at h
  rw [List.getD_eq_getElem?_getD,List.getElem?_set_self'] at h
  cases hq:S.how[k]? with
  | none=>rw [hq] at h;simp at h
  | some x=>rw [hq] at h;simp at h
 ·
  rw [if_neg c1] at h ⊢
  by_cases c2:S.how.getD k 0≠0∨t<S.free.getD k 0∨((progF M d k).length:Int)≤S.next.getD k 0∨openB M.c k d t=false
  ·
   rw [if_pos c2] at h ⊢
   have:=hf h
   omega
  ·
   rw [if_neg c2] at h ⊢
   rw [begin_began hk]
   omega
theorem worksAll_fail {M:MDat}{d:Nat}{t:Int}(hc:chk M.c=0)(t0:0≤t)(t1:t≤10000):∀ (n j:Nat) (S:So) (B:Nat),SoOk M d S B→j+n=M.c.cores.toNat→(∀ i,i<M.c.cores.toNat→S.how.getD i 0=2→if i<j then t+1≤S.began.getD i 0+2 else t≤S.began.getD i 0+2)→FailOk M (So.worksAll M d t n j S) (t+1)
 | 0,j,S,_,_,hj,h=>fun i hi hh=>by
  have:=h i hi hh
  rw [if_pos (by omega)] at this
  exact this
 | n+1,j,S,B,hs,hj,h=>by
  unfold So.worksAll
  refine worksAll_fail hc t0 t1 n (j+1) _ _ (hs.works hc (k:=j) (by omega) t0 t1) (by omega) (fun i hi hh=>?_)
  by_cases e:i=j
  ·
   subst e
   rw [if_pos (by omega)]
   exact works_fail (by rw [hs.bl];exact hi) (fun h2=>by have:=h i hi h2;rw [if_neg (by omega)] at this;exact this) hh
  ·
   obtain ⟨g1,g2⟩:=works_other (M:=M) (d:=d) (S:=S) (t:=t) e
   rw [g1] at hh
   rw [g2]
   have:=h i hi hh
   by_cases g:i<j
   · rw [if_pos g] at this;rw [if_pos (by omega)];exact this
   · rw [if_neg g] at this;rw [if_neg (by omega)];exact this
theorem fail_cycle {M:MDat}{d:Nat}{S:So}{t:Int}{B:Nat}(hs:SoOk M d S B)(hc:chk M.c=0)(t0:0≤t)(t1:t≤10000)(hf:FailOk M S t):FailOk M (So.cycle M d S t) (t+1):=by
 unfold So.cycle
 refine worksAll_fail hc t0 t1 _ 0 _ _ (hs.service hc t0 t1) (by omega) (fun i hi hh=>?_)
 rw [if_neg (by omega)]
 obtain ⟨g1,g2⟩:=service_how hh
 rw [g2]
 exact hf i hi g1
theorem fail_upto {M:MDat}{d:Nat}(hc:chk M.c=0):∀ (T:Nat),T≤10000→FailOk M (So.upto M d T) T
 | 0,_=>fun k _ h=>by
  have z:(List.replicate M.c.cores.toNat (0:Int)).getD k 0=0:=by
   rw [List.getD_eq_getElem?_getD,List.getElem?_replicate];split <;> rfl
  have:(List.replicate M.c.cores.toNat (0:Int)).getD k 0=2:=h
  rw [z] at this
  omega
 | t+1,h=>by
  have:=fail_cycle (SoOk.upto (d:=d) hc t (by omega)) hc (by omega) (by omega) (fail_upto hc t (by omega))
  exact this
end Go.Proofs.YtehheaedbnfidaaGreat
