import Derived.Deep.DrawnRows
import Derived.Laws.IdiomCopy
import Derived.Test.YtehheaedbnfidaaGreatClWOpenC
set_option maxRecDepth 100000
namespace Go.Proofs.YtehheaedbnfidaaGreat
open Go.RowKit
theorem WSt.fresh {w:World}{gw base:Nat}{o:Own}{m e p b:Value}{ts:List Int}{os:List (Int × Int × Int)}(h:WSt w gw base o m e p b ts os) :
  WSt (w.setCell ⟨gw,1,none⟩ (.slice none 0 0)) gw base { o with ta:=none,tl:=0,tc:=0 } m e p b [] os:=by
 refine ⟨h.row.setCell 1 _,h.hb,World.ownsRow_nil _ _ _ _,?_⟩
 refine owns_same h.ops fun g hg=>Below.heap_setCell _ _ _ _ ?_
 intro he
 subst he
 exact own_ne h.ops h.row (by decide) hg
theorem WSt.none {w:World}{gw base:Nat}{o:Own}{m e p b:Value}{ts:List Int}{os:List (Int × Int × Int)}(h:WSt w gw base o m e p b ts os) :
  WSt (w.setCell ⟨gw,2,none⟩ (.slice none 0 0)) gw base { o with oa:=none,ol:=0,oc:=0 } m e p b ts []:=by
 refine ⟨h.row.setCell 2 _,h.hb,?_,World.ownsRow_nil _ _ _ _⟩
 refine owns_same h.tou fun g hg=>Below.heap_setCell _ _ _ _ ?_
 intro he
 subst he
 exact own_ne h.tou h.row (by decide) hg
set_option maxHeartbeats 1600000 in
theorem owner_other (gw:Nat)(st:St)(w:World)(hk:¬(1≤st.k∧st.k≤4)) :
  Calls Tryz.prog 11 #[.pointer (some ⟨gw,0,none⟩),opV st] w fun x w'=>x = .returned (.bool false)∧Below w.heap.size w w':=by
 have k1:(st.k==1)=false:=by simp;omega
 have k2:(st.k==2)=false:=by simp;omega
 have k3:(st.k==3)=false:=by simp;omega
 have k4:(st.k==4)=false:=by simp;omega
 clear hk
 go_enter Tryz.func11,Tryz.ntmps11
 go_wp2
 go_ret
 exact ⟨rfl,(Below.refl _ _).alloc (Nat.le_refl _) _⟩
theorem WSt.op {W X w1:World}{gw base gg cap:Nat}{o:Own}{m e p b:Value}{ts:List Int}{os:List (Int × Int × Int)}{a b2 c:Int}
  (h:WSt X gw base o m e p b ts os) (hgrow:X.grownBy w1 (Value.slice o.oa o.ol o.oc).ownBlock) (hbX:Below base W X)
  (hown:w1.ownsRow base 69 3 (.slice (some ⟨gg,0,Option.none⟩) (os.length+1) cap) (os.length+1) (opsL os++[.int .i64 a,.int .i64 b2,.int .i64 c])) :
  WSt (w1.setCell ⟨gw,2,Option.none⟩ (.slice (some ⟨gg,0,Option.none⟩) (os.length+1) cap)) gw base { o with oa:=some ⟨gg,0,Option.none⟩,ol:=os.length+1,oc:=cap } m e p b ts (os++[(a,b2,c)])∧Below base W (w1.setCell ⟨gw,2,Option.none⟩ (.slice (some ⟨gg,0,Option.none⟩) (os.length+1) cap))∧KeepO X (w1.setCell ⟨gw,2,Option.none⟩ (.slice (some ⟨gg,0,Option.none⟩) (os.length+1) cap)):=by
 have ag:=own_ne h.ops h.row (by decide)
 have hbg:=h.hb
 have lg:=h.row.lt
 have r1:Row w1 gw (ownL o m e p b) 34:=by
  unfold Row
  rw [hgrow.block gw lg (Ne.symm ag)]
  exact h.row
 have tou1:w1.ownsRow base 3 1 (.slice o.ta o.tl o.tc) ts.length (ts.map (Value.int .i64)):=
  owns_same h.tou fun g hg=>hgrow.block g (owns_lt h.tou g hg).1 (fun he=>owns_apart h.tou h.ops (by decide) g hg he.symm)
 refine ⟨⟨r1.setCell 2 _,hbg,?_,?_⟩,?_,KeepO.trans (KeepO.grown h.ops (by decide) hgrow) (KeepO.setCell r1 (by decide) _ _)⟩
 ·
  refine owns_same tou1 fun g hg=>Below.heap_setCell _ _ _ _ ?_
  intro he
  subst he
  exact own_ne tou1 r1 (by decide) hg
 ·
  have hs:(os++[(a,b2,c)]).length=os.length+1:=by simp
  have hl:opsL (os++[(a,b2,c)])=opsL os++[.int .i64 a,.int .i64 b2,.int .i64 c]:=by simp [opsL]
  rw [hs,hl]
  refine owns_same hown fun g hg=>Below.heap_setCell _ _ _ _ ?_
  intro he
  subst he
  exact own_ne hown r1 (by decide) hg
 ·
  refine (hbX.trans ⟨hgrow.os,hgrow.tape,hgrow.output,hgrow.size,fun k hk=>hgrow.block k (by omega) ?_⟩).setCell hbg _
  intro he
  have:=owns_lt h.ops k he.symm
  omega
def pickZ (c n:Int):Int:=(if c<0 then -(c+1) else c)%n
theorem pickZ_bd (c n:Int)(hn:0<n):0≤pickZ c n∧pickZ c n<n:=by
 unfold pickZ
 exact ⟨Int.emod_nonneg _ (by omega),Int.emod_lt_of_pos _ hn⟩
set_option maxHeartbeats 400000 in
theorem pick_any (c n:Int)(w:World)(h1:-9223372036854775808≤c)(h2:c≤9223372036854775807)(hn:0<n)(hn2:n≤9223372036854775807) :
  Calls Tryz.prog 13 #[.int .i64 c,.int .i64 n] w fun e w'=>e = .returned (.int .i64 (pickZ c n))∧w'=w:=by
 have hn0:¬n=0:=by omega
 by_cases hc:c<0
 ·
  have g1:0≤-(c+1):=by omega
  go_enter Tryz.func13,Tryz.ntmps13
  go_wp2
  go_ret
  refine ⟨ret_int ?_,rfl⟩
  rw [pickZ,if_pos hc,← Int.tmod_eq_emod_of_nonneg g1,Int.neg_tmod]
 ·
  have g1:0≤c:=by omega
  go_enter Tryz.func13,Tryz.ntmps13
  go_wp2
  go_ret
  refine ⟨ret_int ?_,rfl⟩
  rw [pickZ,if_neg (by omega)]
set_option maxHeartbeats 400000 in
theorem among_any (sa:Option Addr)(len cap:Nat)(xs:List Int)(x:Int)(w:World)(h:Ints w sa len cap xs) :
  Calls Tryz.prog 8 #[.slice sa len cap,.int .i64 x] w fun e w'=>e = .returned (.bool (xs.contains x))∧w'=w:=by
 have hle:=h.hle
 have hm:=h.hmax
 unfold maxLen at hm
 have HL:Hid (xs.length=len):=h.hlen
 go_enter Tryz.func8,Tryz.ntmps8
 go_wp2
 go_loop [5] (fun i=>∃ k:Nat,k≤len∧i = .int .i64 k∧(xs.take k).contains x=false) (fun i=>len-(intOf i).toNat)
 case atStart=>exact ⟨0,Nat.zero_le _,rfl,rfl⟩
 case round=>
  obtain ⟨k,hk,rfl,hall⟩:=hrel
  have HA:Hid _:=hall
  clear hall
  by_cases hlt:k<len
  ·
   obtain ⟨b,off,rfl,hc⟩:=h.hat k hlt
   have hlt':k<xs.length:=by rw [HL.out];exact hlt
   have hy:xs.getD k 0=xs[k]:=by simp [List.getD,hlt']
   have HY:Hid _:=hy
   rw [hy] at hc
   clear hy
   rcases Bool.eq_false_or_eq_true (xs[k]==x) with hx|hx
   ·
    go_wp2
    go_ret
    refine ⟨ret_bool ?_,rfl⟩
    have e:xs[k]=x:=by simpa using hx
    symm
    rw [decide_eq_true_iff,← e]
    exact List.getElem_mem hlt'
   ·
    go_wp2
    go_round
    case rel=>
     refine ⟨k+1,by omega,by go_num,?_⟩
     have h1:=HA.out
     have e:¬xs[k]=x:=by simpa using hx
     rw [List.take_succ_eq_append_getElem hlt']
     simp only [List.contains_eq_mem,List.mem_append,decide_eq_false_iff_not] at h1 ⊢
     simp only [List.mem_cons,List.not_mem_nil,or_false]
     intro h2
     rcases h2 with h2|h2
     · exact h1 h2
     · exact e h2.symm
    case measure=>simp [intOf];omega
  ·
   go_wp2
   go_ret
   refine ⟨ret_bool ?_,rfl⟩
   have h1:=HA.out
   rw [List.take_of_length_le (by rw [HL.out];omega)] at h1
   rw [← List.contains_eq_mem]
   exact h1.symm
end Go.Proofs.YtehheaedbnfidaaGreat
namespace Go.Proofs.YtehheaedbnfidaaGreat
open Go.RowKit
attribute [local go_sem] Tryz.nilInts Tryz.nilGrid
def LentC (w0 w:World)(c:Cf)(s s1:Sl)(ma:Option Addr)(ml mc:Nat):Prop:=
 LentW w w0.heap.size c s s1∧((s.ta=none∧s1.ta=none∧s1.tl=0∧s1.tc=0∧ma=none∧ml=0∧mc=0)∨(s.ta≠none∧∃ gt gm T M G,LentG w0 w w0.heap.size c.turns s.ta s1.ta s1.tl s1.tc ma ml mc gt gm T M G))
theorem lent_any (c:Cf)(s:Sl)(w:World)(h:CfgAt w c s)(hc:CfR c) :
  Calls Tryz.prog 29 #[cfgV c s] w fun e w'=>∃ s1 ma ml mc,e = .returned (.tuple #[cfgV c s1,.slice ma ml mc])∧Below w.heap.size w w'∧LentC w w' c s s1 ma ml mc:=by
 by_cases hn:s.ta=none
 ·
  refine (lent_nil c s w h hc hn).mono ?_
  rintro e w' ⟨s1,rfl,h1,h2,h3,h4,h5⟩
  exact ⟨s1,_,_,_,rfl,h1,h2,Or.inl ⟨hn,h3,h4,h5,rfl,rfl,rfl⟩⟩
 ·
  refine (lent_some c s w h hc hn).mono ?_
  rintro e w' ⟨s1,ma,ml,mc,rfl,h1,h2,h3⟩
  exact ⟨s1,ma,ml,mc,rfl,h1,h2,Or.inr ⟨hn,h3⟩⟩
theorem LentC.same {w0 w w':World}{c:Cf}{s s1:Sl}{ma:Option Addr}{ml mc:Nat}(h:LentC w0 w c s s1 ma ml mc)(hb:Below w.heap.size w w'):LentC w0 w' c s s1 ma ml mc:=by
 obtain ⟨⟨⟨g1,b1,h1⟩,⟨g2,b2,h2⟩⟩,h3⟩:=h
 refine ⟨⟨⟨g1,b1,h1.below hb (Nat.le_refl _)⟩,⟨g2,b2,h2.below hb (Nat.le_refl _)⟩⟩,?_⟩
 rcases h3 with h3|⟨hn,gt,gm,T,M,G,h4⟩
 · exact Or.inl h3
 ·
  have st:=h4.st
  refine Or.inr ⟨hn,gt,gm,T,M,G,h4.hta,h4.htl,h4.htc,h4.hma,h4.hml,h4.hmc,h4.lo1,h4.lo2,h4.lo3,?_⟩
  refine ⟨st.rowT.below hb st.rowT.lt,st.rowM.below hb st.rowM.lt,st.lenT,st.lenM,st.mt,fun i hi=>⟨(st.glo i hi).1,Nat.lt_of_lt_of_le (st.glo i hi).2 hb.size⟩,st.ginc,?_,?_⟩
  ·
   intro i hi hin
   obtain ⟨b,off,ia,il,ic,va,vl,vc,a1,a2,a3,a4⟩:=st.src i hi hin
   exact ⟨b,off,ia,il,ic,va,vl,vc,a1,a2,a3,a4.below hb (Nat.le_refl _)⟩
  ·
   intro i hi hin
   obtain ⟨a1,a2⟩:=st.tail i hi hin
   exact ⟨a1,a2.below hb a2.lt⟩
theorem LentC.reads {w0 w:World}{c:Cf}{s s1:Sl}{ma:Option Addr}{ml mc:Nat}(h:LentC w0 w c s s1 ma ml mc)(h0:CfgAt w0 c s)(hc:CfR c):CfgAt w c s1:=by
 obtain ⟨⟨⟨g1,b1,h1⟩,⟨g2,b2,h2⟩⟩,h3⟩:=h
 have r1:=hc.ways
 rw [h0.ways.hlen] at r1
 have r2:=hc.slots
 rw [h0.slots.hlen] at r2
 refine ⟨h1.ints h0.ways r1,h2.ints h0.slots r2,?_⟩
 rcases h3 with ⟨e0,e1,e2,e3,_⟩|⟨hn,gt,gm,T,M,G,h4⟩
 ·
  have e4:c.turns=[]:=by
   have h5:=h0.turns.hnil e0
   have h6:=h0.turns.hle
   have h7:=h0.turns.hlen
   exact List.eq_nil_of_length_eq_zero (by omega)
  rw [e1,e2,e3,e4]
  exact ⟨rfl,by omega,by unfold maxLen;omega,fun _=>rfl,fun i hi=>absurd hi (Nat.not_lt_zero _)⟩
 ·
  have r3:=hc.turns
  rw [h4.hta,h4.htl,h4.htc]
  refine ⟨rfl,by omega,by unfold maxLen;omega,(fun h=>by cases h),fun i hi=>?_⟩
  obtain ⟨b,off,ia,il,ic,va,vl,vc,a1,a2,a3,a4⟩:=h4.st.src i (by omega) hi
  obtain ⟨b',off',ia',il',ic',e5,e6,hiS⟩:=h0.turns.hat i (by rw [← h0.turns.hlen];exact hi)
  rw [a1] at e5
  simp only [Option.some.injEq,Addr.mk.injEq,and_true] at e5
  obtain ⟨rfl,rfl⟩:=e5
  rw [a2] at e6
  simp only [Option.some.injEq,Value.slice.injEq] at e6
  obtain ⟨rfl,rfl,rfl⟩:=e6
  have rk:=hc.each i hi
  rw [hiS.hlen] at rk
  refine ⟨gt,0,va,vl,vc,rfl,?_,a4.ints hiS rk⟩
  rw [Nat.zero_add,h4.st.rowT.cell,a3]
theorem wholeTurns_any (w0 wl w:World)(c:Cf)(s s1:Sl)(ma:Option Addr)(ml mc:Nat)(h0:CfgAt w0 c s)(hc:CfR c)(hb:Below w0.heap.size w0 wl)(h:LentC w0 wl c s s1 ma ml mc)(hbl:Below wl.heap.size wl w) :
  Calls Tryz.prog 73 #[.slice s1.ta s1.tl s1.tc,.slice ma ml mc,.slice s.ta s.tl s.tc] w fun e w'=>e = .returned (.bool true)∧Below w0.heap.size w w'∧Shaped w w'∧(∀ j,wl.heap.size≤j→w'.heap[j]? = w.heap[j]?):=by
 have h':=h.same hbl
 have hb':Below w0.heap.size w0 w:=below_step hb hbl rfl
 rcases h.2 with ⟨e0,e1,e2,e3,e4,e5,e6⟩|⟨hn,gt,gm,T,M,G,h4⟩
 ·
  have t1:=h0.turns.hnil e0
  have t2:=h0.turns.hle
  rw [e0,show s.tl=0 by omega,t1]
  refine (wholeTurns_none _ _ _ _ _ _ w).mono ?_
  rintro e w' ⟨rfl,rfl⟩
  exact ⟨rfl,Below.refl _ _,Shaped.refl _,fun _ _=>rfl⟩
 ·
  rcases h'.2 with ⟨e0,_⟩ | ⟨_,gt',gm',T',M',G',h5⟩
  · exact absurd e0 hn
  ·
   clear h5 gt' gm' T' M' G'
   obtain ⟨at0,ha⟩:∃ x,s.ta=some x:=by
    cases hx:s.ta with
    | none=>exact absurd hx hn
    | some x=>exact ⟨x,rfl⟩
   have st:=h4.st
   have hl:=h0.turns.hlen
   have st':GSt w0 w (gm+1) s.ta c.turns c.turns.length (c.turns.length+8) gt gm T M G:=by
    refine ⟨st.rowT.below hbl st.rowT.lt,st.rowM.below hbl st.rowM.lt,st.lenT,st.lenM,st.mt,fun i hi=>⟨(st.glo i hi).1,Nat.lt_of_lt_of_le (st.glo i hi).2 hbl.size⟩,st.ginc,?_,?_⟩
    ·
     intro i hi hin
     obtain ⟨b,off,ia,il,ic,va,vl,vc,a1,a2,a3,a4⟩:=st.src i hi hin
     exact ⟨b,off,ia,il,ic,va,vl,vc,a1,a2,a3,a4.below hbl (Nat.le_refl _)⟩
    ·
     intro i hi hin
     obtain ⟨a1,a2⟩:=st.tail i hi hin
     exact ⟨a1,a2.below hbl a2.lt⟩
   have g0:=h0.turns
   have r3:=hc.turns
   rw [h4.hta,h4.htl,h4.htc,h4.hma,h4.hml,h4.hmc,← hl,ha]
   rw [ha] at g0 st'
   rw [← hl] at g0
   exact wholeTurns_some w0 w w0.heap.size c at0 c.turns.length s.tc gt gm T M G r3 hc g0 (Nat.le_refl _) hb' h4.lo1 h4.lo3 st' wl.heap.size (fun i hi=>(st.glo i hi).2)
theorem LentI.own {w:World}{sa:Option Addr}{xs:List Int}{va:Option Addr}{vl vc g:Nat}(h:LentI w sa xs va vl vc g):va≠none→g<w.heap.size:=by
 intro hv
 rcases h with ⟨_,h2,_,_⟩|⟨_,_,_,_,h5⟩
 · exact absurd h2 hv
 · exact h5.lt
set_option maxHeartbeats 2000000 in
theorem whole_any (w0 w:World)(c:Cf)(s s1:Sl)(ma:Option Addr)(ml mc:Nat)(h0:CfgAt w0 c s)(hc:CfR c)(hb:Below w0.heap.size w0 w)(h:LentC w0 w c s s1 ma ml mc) :
  Calls Tryz.prog 32 #[cfgV c s1,.slice ma ml mc,cfgV c s] w fun e w'=>e = .returned (.bool true)∧Below w0.heap.size w w':=by
 have HC:Hid _:=h
 obtain ⟨⟨⟨g1,b1,h1⟩,⟨g2,b2,h2⟩⟩,_⟩:=h
 have r1:=hc.ways
 rw [h0.ways.hlen] at r1
 have r2:=hc.slots
 rw [h0.slots.hlen] at r2
 have bW:Below w.heap.size w ((w.alloc (.cells (cfgA c s1) 43)).alloc (.cells (cfgA c s) 43)):=((Below.refl _ _).alloc (Nat.le_refl _) _).alloc (by simp) _
 have bW0:=below_step hb bW rfl
 have V1:Hid _:=h1.len h0.ways
 have V2:Hid _:=h2.len h0.slots
 have o1:=h1.own
 have o2:=h2.own
 have O1:Hid _:=o1
 have O2:Hid _:=o2
 have rB:Row ((w.alloc (.cells (cfgA c s1) 43)).alloc (.cells (cfgA c s) 43)) w.heap.size (cfgL c s1) 43:=by
  have:Row (w.alloc (.cells (cfgA c s1) 43)) w.heap.size (cfgL c s1) 43:=heap_alloc_new w _
  exact this.alloc _
 clear o1 o2
 go_enter Tryz.func32,Tryz.ntmps32
 go_wp2_with fail
 refine (wholeInts_any _ _ _ c.ways _ _ _ g1 _ (h0.ways.below bW0 (Nat.le_refl _)) r1 (h1.below bW (Nat.le_refl _))).mono ?_
 rintro e w' ⟨rfl,rfl⟩
 go_wp2_with fail
 refine (wholeInts_any _ _ _ c.slots _ _ _ g2 _ (h0.slots.below bW0 (Nat.le_refl _)) r2 (h2.below bW (Nat.le_refl _))).mono ?_
 rintro e w' ⟨rfl,rfl⟩
 go_wp2_with fail
 refine (wholeTurns_any w0 w _ c s s1 ma ml mc h0 hc hb HC.out bW).mono ?_
 rintro e w2 ⟨rfl,p1,p2,p3⟩
 have q2:∀ o,w2.cell? ⟨w.heap.size,o,none⟩=(cfgA c s1)[o]? := by
  intro o
  have:Row w2 w.heap.size (cfgL c s1) 43:=by unfold Row;rw [p3 _ (Nat.le_refl _)];exact rB
  rw [this.cell];simp
 have room1:=((h1.below bW (Nat.le_refl _)).room).shaped p2
 have room2:=((h2.below bW (Nat.le_refl _)).room).shaped p2
 have P1:Hid _:=p1
 clear p1 p2 p3 rB
 go_wp2_with fail
 refine (spoilInts_any _ _ _ g1 w0.heap.size 0 _ (by rw [V1.out];exact r1) room1 b1).mono ?_
 rintro e w3 ⟨rfl,p1,p2,p3,_⟩
 have q3:∀ o,w3.cell? ⟨w.heap.size,o,none⟩=(cfgA c s1)[o]? := by
  intro o
  rw [World.cell?_of_block (w:=w2) (p3 w.heap.size (fun hv=>by have:=O1.out hv;omega))]
  exact q2 o
 have room2':=room2.shaped p2
 have P3:Hid _:=p1
 clear p1 p2 p3 q2
 go_wp2_with fail
 refine (spoilInts_any _ _ _ g2 w0.heap.size 0 _ (by rw [V2.out];exact r2) room2' b2).mono ?_
 rintro e w4 ⟨rfl,p1,p2,p3,_⟩
 have P4:Hid _:=p1
 clear p1 p2 p3 q3
 go_wp2
 go_ret
 exact ⟨rfl,(((bW.mono hb.size).trans P1.out).trans P3.out).trans P4.out⟩
end Go.Proofs.YtehheaedbnfidaaGreat
namespace Go.Proofs.YtehheaedbnfidaaGreat
open Go.RowKit
attribute [local go_sem] Tryz.nilInts Tryz.nilGrid
set_option maxHeartbeats 2000000 in
theorem plan_check (c:Cf)(s:Sl)(o:St)(w:World)(h:CfgAt w c s)(hc:CfR c)(hk:o.k=5) :
  Calls Tryz.prog 15 #[cfgV c s,opV o] w fun e w'=>e = .returned (.bool true)∧Below w.heap.size w w':=by
 obtain ⟨k,a,b,cc,d⟩:=o
 simp only at hk
 subst hk
 have bW:Below w.heap.size w ((w.alloc (.cells (cfgA c s) 43)).alloc (.cells (opA ⟨5,a,b,cc,d⟩) 36)):=((Below.refl _ _).alloc (Nat.le_refl _) _).alloc (by simp) _
 have rC:Row ((w.alloc (.cells (cfgA c s) 43)).alloc (.cells (opA ⟨5,a,b,cc,d⟩) 36)) w.heap.size (cfgL c s) 43:=by
  have:Row (w.alloc (.cells (cfgA c s) 43)) w.heap.size (cfgL c s) 43:=heap_alloc_new w _
  exact this.alloc _
 have rO:Row ((w.alloc (.cells (cfgA c s) 43)).alloc (.cells (opA ⟨5,a,b,cc,d⟩) 36)) (w.heap.size+1) [.int .i64 5,.int .i64 a,.int .i64 b,.int .i64 cc,.int .i64 d] 36:=by
  have:=heap_alloc_new (w.alloc (.cells (cfgA c s) 43)) (.cells (opA ⟨5,a,b,cc,d⟩) 36)
  rw [World.size_alloc] at this
  exact this
 have hW:=h.below bW (Nat.le_refl _)
 go_enter Tryz.func15,Tryz.ntmps15
 go_wp2_with fail
 have sW:((w.alloc (.cells (cfgA c s) 43)).alloc (.cells (opA ⟨5,a,b,cc,d⟩) 36)).heap.size=w.heap.size+2:=by simp
 generalize (w.alloc (.cells (cfgA c s) 43)).alloc (.cells (opA ⟨5,a,b,cc,d⟩) 36)=W at *
 have SW:Hid _:=sW
 clear sW
 refine (lent_any c s W hW hc).mono ?_
 rintro e w1 ⟨s1,ma,ml,mc,rfl,b1,l1⟩
 have q1:=row_q (rC.below b1 rC.lt)
 have q2:=row_q (rO.below b1 rO.lt)
 have z2:w.heap.size+1<w1.heap.size:=by have:=b1.size;have:=SW.out;omega
 have z1:w.heap.size<w1.heap.size:=by omega
 have B1:Hid _:=b1
 have L1:Hid _:=l1
 clear b1 l1
 go_wp2_with fail
 have bX:Below w1.heap.size w1 (w1.alloc (.cells (cfgA c s1) 43)):=(Below.refl _ _).alloc (Nat.le_refl _) _
 have lX:=LentC.same L1.out bX
 have rC2:=(rC.below B1.out rC.lt).alloc (.cells (cfgA c s1) 43)
 have rL2:Row (w1.alloc (.cells (cfgA c s1) 43)) w1.heap.size (cfgL c s1) 43:=heap_alloc_new w1 _
 have bWX:=below_step B1.out bX rfl
 clear q1 q2 bX
 generalize w1.alloc (.cells (cfgA c s1) 43)=w2 at *
 refine (Check_any c s1 w2 (lX.reads hW hc)).mono ?_
 rintro e w3 ⟨rfl,b3⟩
 have rC3:=rC2.below b3 rC2.lt
 have rL3:=rL2.below b3 rL2.lt
 have l3:=lX.same b3
 have bW3:=below_step bWX b3 rfl
 have q1:=row_q rC3
 have q2:=row_q rL3
 clear b3 rC2 rL2 lX bWX
 go_wp2_with fail
 refine (rcheck_any c s w3 (hW.below bW3 (Nat.le_refl _))).mono ?_
 rintro e w4 ⟨rfl,b4⟩
 have rC4:=rC3.below b4 rC3.lt
 have rL4:=rL3.below b4 rL3.lt
 have l4:=l3.same b4
 have bW4:=below_step bW3 b4 rfl
 clear q1 q2
 have q1:=row_q rC4
 have q2:=row_q rL4
 clear b4 rC3 rL3 l3 bW3
 have he:(chk c==chk c)=true:=by simp
 go_wp2_with fail
 refine (whole_any W w4 c s s1 ma ml mc hW hc bW4 l4).mono ?_
 rintro e w5 ⟨rfl,b5⟩
 clear q1 q2
 go_wp2
 go_ret
 exact ⟨rfl,bW.trans ((bW4.trans b5).mono bW.size)⟩
end Go.Proofs.YtehheaedbnfidaaGreat
namespace Go.Proofs.YtehheaedbnfidaaGreat
open Go.RowKit
attribute [local go_sem ↓] Go.wp_at_zero Go.wp_at_succ
structure CsAt (w:World)(ca:Option Addr)(cl cc:Nat)(cfs:Nat→Cf):Prop where
 hle:cl≤cc
 hmax:cc*152≤140737488351232
 hat:∀ j,j<cl→∃ b off s,ca=some ⟨b,off,none⟩∧(∀ i,i<13→w.cell? ⟨b,off+j*13+i,none⟩=(cfgA (cfs j) s)[i]?)∧CfgAt w (cfs j) s∧CfR (cfs j)
theorem CsAt.below {w w':World}{ca:Option Addr}{cl cc n:Nat}{cfs:Nat→Cf}(h:CsAt w ca cl cc cfs)(hb:Below n w w')(hn:w.heap.size≤n):CsAt w' ca cl cc cfs:=by
 refine ⟨h.hle,h.hmax,fun j hj=>?_⟩
 obtain ⟨b,off,s,h1,h2,h3,h4⟩:=h.hat j hj
 refine ⟨b,off,s,h1,fun i hi=>?_,h3.below hb hn,h4⟩
 rw [← h2 i hi]
 have e:=h2 0 (by omega)
 have:=cell_lt (w:=w) (a:=⟨b,off+j*13+0,none⟩) (v:=.int .i64 (cfs j).cores) (by rw [e];rfl)
 exact hb.cell (p:=⟨b,off+j*13+i,none⟩) (by simp only [] at this ⊢;omega)
structure StR (o:St):Prop where
 k1:-9223372036854775808≤o.k
 k2:o.k≤9223372036854775807
 a1:-9223372036854775808≤o.a
 a2:o.a≤9223372036854775807
set_option maxHeartbeats 3200000 in
theorem step_plan (gw base:Nat)(o:Own)(m e p b:Value)(ts:List Int)(os:List (Int × Int × Int))(st:St)(w:World)(h:WSt w gw base o m e p b ts os)(hr:StR st)(cfs:Nat→Cf)(hcs:CsAt w o.ca o.cl o.cc cfs)
  (hk1:5≤st.k) (hk2:st.k≤9) (hpos:0<o.cl)
  (hplan:∀ (c:Cf) (s:Sl) (w:World),CfgAt w c s→CfR c→Calls Tryz.prog 15 #[cfgV c s,opV st] w fun e w'=>e = .returned (.bool true)∧Below w.heap.size w w') :
  Calls Tryz.prog 9 #[.pointer (some ⟨gw,0,none⟩),opV st] w fun x w'=>x = .returned (.bool true)∧Below w.heap.size w w':=by
 have HP:Hid _:=hplan
 clear hplan
 obtain ⟨k,a,bb,cc,dd⟩:=st
 obtain ⟨ca,cl,ccap,ta,tl,tc,oa,ol,oc⟩:=o
 simp only at hk1 hk2
 have bW:Below w.heap.size w (w.alloc (.cells (opA ⟨k,a,bb,cc,dd⟩) 36)):=(Below.refl _ _).alloc (Nat.le_refl _) _
 have rO:Row (w.alloc (.cells (opA ⟨k,a,bb,cc,dd⟩) 36)) w.heap.size [.int .i64 k,.int .i64 a,.int .i64 bb,.int .i64 cc,.int .i64 dd] 36:=heap_alloc_new w _
 have hW:=h.below bW rfl
 have n10:(k==10)=false:=by simp;omega
 have n11:(k==11)=false:=by simp;omega
 have n5:decide (k<5)=false:=by simp;omega
 have n20:decide (20<k)=false:=by simp;omega
 go_enter Tryz.func9,Tryz.ntmps9
 go_wp2_with fail
 refine (owner_other gw ⟨k,a,bb,cc,dd⟩ _ (by simp only [];omega)).mono ?_
 rintro x w1 ⟨rfl,b1⟩
 have h1:=hW.below b1 rfl
 have rO1:=rO.below b1 rO.lt
 have bW1:=below_step bW b1 rfl
 have hc1:=hcs.below bW1 (Nat.le_refl _)
 have q1:∀ i,w1.cell? ⟨w.heap.size,i,none⟩=(opA ⟨k,a,bb,cc,dd⟩)[i]? := fun i=>by rw [rO1.cell];simp
 have c0:w1.cell? ⟨gw,0,none⟩=some (.slice ca cl ccap):=by rw [h1.row.cell];rfl
 have ncl:((cl:Int)==0)=false:=by simp;exact Nat.pos_iff_ne_zero.1 hpos
 clear b1 bW hW rO
 have hpos':0<cl:=hpos
 have hcc:=hc1.hmax
 have hcl:=hc1.hle
 have pb:=pickZ_bd a cl (by omega)
 obtain ⟨j,hj⟩:=Int.eq_ofNat_of_zero_le pb.1
 have hjl:j<cl:=by have:=pb.2;omega
 have hpick:∀ w:World,Calls Tryz.prog 13 #[.int .i64 a,.int .i64 cl] w fun e w'=>e = .returned (.int .i64 (j:Int))∧w'=w:=fun w=>by
  have:=pick_any a cl w hr.a1 hr.a2 (by omega) (by omega)
  rw [hj] at this
  exact this
 have HK:Hid _:=hpick
 obtain ⟨cb,coff,s,hca,hcells,hcfg,hcfr⟩:=hc1.hat j hjl
 subst hca
 have e0:=hcells 0 (by omega)
 have e1:=hcells 1 (by omega)
 have e2:=hcells 2 (by omega)
 have e3:=hcells 3 (by omega)
 have e4:=hcells 4 (by omega)
 have e5:=hcells 5 (by omega)
 have e6:=hcells 6 (by omega)
 have e7:=hcells 7 (by omega)
 have e8:=hcells 8 (by omega)
 have e9:=hcells 9 (by omega)
 have e10:=hcells 10 (by omega)
 have e11:=hcells 11 (by omega)
 have e12:=hcells 12 (by omega)
 simp only [cfgA,Nat.add_zero] at e0 e1 e2 e3 e4 e5 e6 e7 e8 e9 e10 e11 e12
 have c1:w1.cell? ⟨w.heap.size,1,none⟩=some (.int .i64 a):=q1 1
 have hj0:(0:Int)≤(j:Int):=by omega
 have hj1:(j:Int)<(cl:Int):=by omega
 have nw:=h1.row.lt
 clear hpick hj pb hcells
 go_wp2_with fail
 go_region_held3 (fun w'=>w'.cell? ⟨gw,0,none⟩=some (.slice (some ⟨cb,coff,none⟩) cl ccap)∧w'.cell? ⟨w.heap.size,1,none⟩=some (.int .i64 a)∧w'.cell? ⟨cb,coff+j*13,none⟩=some (.int .i64 (cfs j).cores)∧w'.cell? ⟨cb,coff+j*13+1,none⟩=some (.int .i64 (cfs j).domains)∧w'.cell? ⟨cb,coff+j*13+2,none⟩=some (.int .i64 (cfs j).line)∧w'.cell? ⟨cb,coff+j*13+3,none⟩=some (.int .i64 (cfs j).priv)∧w'.cell? ⟨cb,coff+j*13+4,none⟩=some (.int .i64 (cfs j).shared)∧w'.cell? ⟨cb,coff+j*13+5,none⟩=some (.int .i64 (cfs j).near)∧w'.cell? ⟨cb,coff+j*13+6,none⟩=some (.int .i64 (cfs j).sets)∧w'.cell? ⟨cb,coff+j*13+7,none⟩=some (.slice s.wa s.wl s.wc)∧w'.cell? ⟨cb,coff+j*13+8,none⟩=some (.int .i64 (cfs j).slot)∧w'.cell? ⟨cb,coff+j*13+9,none⟩=some (.slice s.sa s.sl s.sc)∧w'.cell? ⟨cb,coff+j*13+10,none⟩=some (.slice s.ta s.tl s.tc)∧w'.cell? ⟨cb,coff+j*13+11,none⟩=some (.int .i64 (cfs j).quantum)∧w'.cell? ⟨cb,coff+j*13+12,none⟩=some (.int .i64 (cfs j).flush)) (go_keep) (first | (go_at_call 13;refine (HK.out _).mono ?_;rintro e w' ⟨rfl,rfl⟩))
 all_goals
  have bX:Below w1.heap.size w1 (w1.alloc (.cells (cfgA (cfs j) s) 43)).drew:=((Below.refl _ _).alloc (Nat.le_refl _) _).drew
  have rC:Row (w1.alloc (.cells (cfgA (cfs j) s) 43)).drew w1.heap.size (cfgL (cfs j) s) 43:=heap_alloc_new w1 _
  have rO2:=rO1.below bX rO1.lt
  have hcfg2:=hcfg.below bX (Nat.le_refl _)
  have bW2:=below_step bW1 bX rfl
  clear e0 e1 e2 e3 e4 e5 e6 e7 e8 e9 e10 e11 e12 c0 c1 q1 bX
  generalize (w1.alloc (.cells (cfgA (cfs j) s) 43)).drew=w2 at *
  have q1:=row_q rC
  have q2:=row_q rO2
  go_wp2_with fail
  refine (HP.out (cfs j) s w2 hcfg2 hcfr).mono ?_
  rintro x w3 ⟨rfl,b3⟩
  go_wp2
  go_ret
  exact ⟨rfl,below_step bW2 b3 rfl⟩
end Go.Proofs.YtehheaedbnfidaaGreat
namespace Go.Proofs.YtehheaedbnfidaaGreat
open Go.RowKit
structure ScAt (w:World)(sa:Option Addr)(sl sc:Nat)(sts:Nat→St):Prop where
 hle:sl≤sc
 hmax:sc*40≤140737488351232
 hat:∀ j,j<sl→∃ b off,sa=some ⟨b,off,none⟩∧(∀ i,i<5→w.cell? ⟨b,off+j*5+i,none⟩=(opA (sts j))[i]?)∧StR (sts j)
theorem ScAt.below {w w':World}{ca:Option Addr}{cl cc n:Nat}{cfs:Nat→St}(h:ScAt w ca cl cc cfs)(hb:Below n w w')(hn:w.heap.size≤n):ScAt w' ca cl cc cfs:=by
 refine ⟨h.hle,h.hmax,fun j hj=>?_⟩
 obtain ⟨b,off,h1,h2,h3⟩:=h.hat j hj
 refine ⟨b,off,h1,fun i hi=>?_,h3⟩
 rw [← h2 i hi]
 have e:=h2 0 (by omega)
 have:=cell_lt (w:=w) (a:=⟨b,off+j*5+0,none⟩) (v:=.int .i64 (cfs j).k) (by rw [e];rfl)
 exact hb.cell (p:=⟨b,off+j*5+i,none⟩) (by simp only [] at this ⊢;omega)
end Go.Proofs.YtehheaedbnfidaaGreat
namespace Go.Proofs.YtehheaedbnfidaaGreat
def sumN (f:Nat→Nat):Nat→Nat
 | 0=>0
 | n+1=>sumN f n+f n
theorem sum_up (f:Nat→Nat)(k v:Nat):∀ n,sumN (up1 f k v) n=if k<n then sumN f n-f k+v else sumN f n
 | 0=>rfl
 | n+1=>by
  have ih:=sum_up f k v n
  have hle:k<n→f k≤sumN f n:=by
   clear ih
   induction n with
   | zero=>intro h;omega
   | succ n ih=>
    intro h
    rw [sumN]
    by_cases e:k=n
    · subst e;omega
    · have:=ih (by omega);omega
  rw [sumN,sumN,ih]
  by_cases h1:k<n
  ·
   have:=hle h1
   have h2:n≠k:=by omega
   rw [if_pos h1,if_pos (by omega)]
   simp only [up1,h2,if_false]
   omega
  ·
   by_cases h2:n=k
   ·
    subst h2
    rw [if_neg h1,if_pos (by omega)]
    simp only [up1,if_true]
    omega
   ·
    rw [if_neg h1,if_neg (by omega)]
    simp only [up1,h2,if_false]
theorem sum_le (f:Nat→Nat)(b:Nat)(hf:∀ k,f k≤b):∀ n,sumN f n≤n*b
 | 0=>by simp [sumN]
 | n+1=>by have:=sum_le f b hf n;have:=hf n;rw [sumN,Nat.succ_mul];omega
structure MhOk (N:Cn)(m:Mh):Prop where
 len:∀ d k,(m.ops d k).length≤64
 kin:∀ d k o,o∈m.ops d k→o.1=0∨o.1=1
 dn:∀ d k,m.dn d k≤(m.ops d k).length
 tr:∀ d,(m.tr d).length=sumN (m.dn d) N.nc
 bz:∀ k,k<N.nc→(m.wk k).busy=true→∃ d,d<N.nd∧(m.wk k).dom=(d:Int)∧m.dn d k<(m.ops d k).length
 wt:∀ d,d<N.nd→∀ c,c∈m.wt d→∃ k,k<N.nc∧c=(k:Int)∧(m.wk k).busy=true∧(m.wk k).dom=(d:Int)∧∃ o,m.next d k=some o∧faultF N.c o=0
 wn:∀ d,d<N.nd→(m.wt d).Nodup
 is:∀ k,k<N.nc→0≤(m.wk k).issue∧(m.wk k).issue≤m.now
 ln:∀ d s j,(m.blk d s j).line=-1∨(0≤(m.blk d s j).line∧(m.blk d s j).line≤1000)
 mks:∀ d s j,(m.blk d s j).line=-1→(m.blk d s j).mkd=false
theorem MhOk.trl {N:Cn}{m:Mh}(h:MhOk N m)(hn:N.nc≤3)(d:Nat):(m.tr d).length≤192:=by
 rw [h.tr]
 have:=sum_le (m.dn d) 64 (fun k=>Nat.le_trans (h.dn d k) (h.len d k)) N.nc
 have h2:N.nc*64≤3*64:=Nat.mul_le_mul_right _ hn
 omega
theorem MhOk.wtl {N:Cn}{m:Mh}(h:MhOk N m)(hn:N.nc≤3){d:Nat}(hd:d<N.nd):(m.wt d).length≤3:=by
 have:=nodup_le N.nc (m.wt d) (h.wn d hd) (fun e he=>by
  obtain ⟨k,h1,h2,_⟩:=h.wt d hd e he
  omega)
 omega
theorem Mh.next_lt {m:Mh}{d k:Nat}{o:OpT}(h:m.next d k=some o):m.dn d k<(m.ops d k).length∧o∈m.ops d k:=by
 unfold Mh.next at h
 have:=List.getElem?_eq_some_iff.1 h
 obtain ⟨h1,h2⟩:=this
 exact ⟨h1,by rw [← h2];exact List.getElem_mem h1⟩
theorem next_of_lt {m:Mh}{d k:Nat}(h:m.dn d k<(m.ops d k).length):∃ o,m.next d k=some o:=⟨_,List.getElem?_eq_getElem h⟩
theorem fault_free {c:Cf}{o:OpT}(h:faultF c o=0):0≤o.2.1∧o.2.1<c.priv+c.shared∧¬(o.1=1∧c.priv≤o.2.1):=by
 unfold faultF at h
 by_cases a:o.2.1<0∨c.priv+c.shared≤o.2.1
 · rw [if_pos a] at h;omega
 ·
  rw [if_neg a] at h
  by_cases b:o.1=1∧c.priv≤o.2.1
  · rw [if_pos b] at h;omega
  · omega
end Go.Proofs.YtehheaedbnfidaaGreat
namespace Go.Proofs.YtehheaedbnfidaaGreat
open Go.RowKit
theorem Labs.noNear {w:World}{N:Cn}{X:XLoc}(L:Labs w N X):¬X.n.own N.nc X.g:=fun h=>by
 have h1:=L.no _ h
 rw [L.g] at h1
 simp at h1
theorem Labs.noMem {w:World}{N:Cn}{X:XLoc}(L:Labs w N X):¬X.e.own N.nd X.g:=fun h=>by
 have h1:=L.eo _ h
 rw [L.g] at h1
 simp at h1
theorem touch_row {w w':World}{F:Nat→Prop}{g:Nat}{A:List Value}{t:TypeId}(h:Row w g A t)(hT:Touch F w w')(hF:¬F g):Row w' g A t:=h.same (hT.block g h.lt hF)
set_option maxHeartbeats 6400000 in
theorem khand_any (N:Cn)(X:XLoc)(m:Mh)(d k:Nat)(o:OpT)(x:Nat)(w:World)(h:MachM w N X m)(hk:k<N.nc)(h0:0≤o.2.1)(h1:o.2.1≤1000)(hx:Hid (x=(o.2.1 / (N.ln:Int)).toNat)) :
  Calls Tryz.prog 153 #[.pointer (some ⟨X.g,0,none⟩),.int .i64 d,.int .i64 k,.agg (opArr o)] w fun e w'=>e = .returned (.tuple #[])∧MachM w' N X (m.hand N d k o)∧Goes w w' X X:=by
 have hl:=kline_any N X m o x
 have HR0:Row (w.alloc (.cells (opArr o) 69)) w.heap.size (opL o) 69:=heap_alloc_new w _
 have hb0:Below w.heap.size w (w.alloc (.cells (opArr o) 69)):=(Below.refl _ _).alloc (Nat.le_refl _) _
 have hl1:=hl _ (h.below hb0 (Nat.le_refl _)) h0 h1 hx
 have sz0:w.heap.size<(w.alloc (.cells (opArr o) 69)).heap.size:=by simp
 have hxl:x≤1000:=by
  have:=hx.out
  have q1:o.2.1 / (N.ln:Int)≤o.2.1:=Int.ediv_le_self _ h0
  omega
 have hno:¬X.n.own N.nc w.heap.size:=fun ho=>by
  have h2:=h.labs.no _ ho
  have:=h.labs.lt _ (by rw [h2];simp)
  omega
 have hng:=h.labs.noNear
 have HH:Hid (m.hand N d k o=if o.1=1 then { m with nr:=putN N.nn (dropAllN (fun j=>decide (j<N.nc∧j≠k)) N.nn m.nr d x) k d x 3 } else { m with nr:=putN N.nn (shareAllN (fun j=>decide (j<N.nc∧j≠k)) N.nn m.nr d x) k d x (if foundN N.nn m.nr k d x N.nc=true∨N.c.priv≤o.2.1 then 1 else 2) }):=by
  unfold Hid Mh.hand
  rw [← hx.out]
 obtain ⟨ok,oa,ov⟩:=o
 dsimp only at *
 have HM:Hid _:=h
 clear h hl
 go_enter Tryz.func153,Tryz.ntmps153
 go_wp2_with fail
 refine hl1.mono ?_;rintro e w1 ⟨rfl,hb1⟩
 have hb2:Below w.heap.size w (w1):=below_step hb0 hb1 rfl
 have R1:Row w1 w.heap.size (opL (ok,oa,ov)) 69:=Row.below HR0 hb1 sz0
 clear hl1 hb0 hb1 HR0 sz0
 have M1:=HM.out.below hb2 (Nat.le_refl _)
 have c17:w1.cell? ⟨X.g,17,none⟩=some (.slice (some ⟨X.n.r,0,none⟩) N.nc X.n.rc):=by rw [M1.row.cell];rfl
 have b0:w1.cell? ⟨w.heap.size,0,none⟩=some (.int .i64 ok):=R1.cell 0
 by_cases a1:ok=1
 ·
  have a1b:(ok==1)=true:=by simp [a1]
  have HH2:Hid _:=HH.out
  rw [if_pos a1] at HH2
  have hD:=ndropOthers_any N.nc N.nn X.n m.nr X.g 17 k x d w1 M1.near c17 hng (by omega)
  clear a1 HH
  go_wp2_with fail
  refine hD.mono ?_;rintro e w2 ⟨rfl,hN2,hT2⟩
  have M2:=M1.setNear hN2 hT2
  have d17:w2.cell? ⟨X.g,17,none⟩=some (.slice (some ⟨X.n.r,0,none⟩) N.nc X.n.rc):=by rw [M2.row.cell];rfl
  have hP:=nput_any N.nc N.nn X.n _ X.g 17 k x d 3 w2 hN2 d17 hk (by omega)
  clear hD c17
  go_wp2_with fail
  refine hP.mono ?_;rintro e w3 ⟨rfl,hN3,hT3⟩
  have M3:=M2.setNear hN3 hT3
  clear hP
  go_wp2
  refine bodyPost_ret (results_none rfl _ _ _) rfl ?_
  exact ⟨rfl,by rw [HH2.out];exact M3,(Goes.of_below hb2).trans ((Goes.of_touch hT2 M1.labs.no).trans (Goes.of_touch hT3 M2.labs.no))⟩
 ·
  have a1b:(ok==1)=false:=by simp [a1]
  have HH2:Hid _:=HH.out
  rw [if_neg a1] at HH2
  have hD:=nshareOthers_any N.nc N.nn X.n m.nr X.g 17 k x d w1 M1.near c17 hng (by omega)
  clear a1 HH
  go_wp2_with fail
  refine hD.mono ?_;rintro e w2 ⟨rfl,hN2,hT2⟩
  have M2:=M1.setNear hN2 hT2
  have R2:=touch_row R1 hT2 hno
  have c3:w2.cell? ⟨X.g,3,none⟩=some (.int .i64 N.c.priv):=by rw [M2.row.cell];rfl
  have b1:w2.cell? ⟨w.heap.size,1,none⟩=some (.int .i64 oa):=R2.cell 1
  have lb:=R2.lt
  have lg:=M2.row.lt
  have HG:Hid (Goes w w2 X X):=(Goes.of_below hb2).trans (Goes.of_touch hT2 M1.labs.no)
  have hP:∀ (n:Nat) (s:Int),Calls Tryz.prog 167 #[.pointer (some ⟨X.g,17,none⟩),.int .i64 k,.int .i64 d,.int .i64 x,.int .i64 s] (w2.drewN n) fun e w'=>e = .returned (.tuple #[])∧MachM w' N X { m with nr:=putN N.nn (shareAllN (fun i=>decide (i<N.nc∧i≠k)) N.nn m.nr d x) k d x s }∧Goes w w' X X:=fun n s=>by
   have hbn:Below w2.heap.size w2 (w2.drewN n):=Go.below_drewN (Below.refl _ _) _
   have M3:=M2.below hbn (Nat.le_refl _)
   have d17:(w2.drewN n).cell? ⟨X.g,17,none⟩=some (.slice (some ⟨X.n.r,0,none⟩) N.nc X.n.rc):=by rw [M3.row.cell];rfl
   refine (nput_any N.nc N.nn X.n _ X.g 17 k x d s _ M3.near d17 hk (by omega)).mono ?_
   rintro e w4 ⟨rfl,hN4,hT4⟩
   exact ⟨rfl,M3.setNear hN4 hT4,(HG.out.trans (Goes.of_below hbn)).trans (Goes.of_touch hT4 M3.labs.no)⟩
  clear hD c17 hN2 hT2 M1 R1 b0
  rcases Bool.eq_false_or_eq_true (foundN N.nn m.nr k d x N.nc) with hf|hf
  ·
   rw [hf]
   have HH3:Hid _:=HH2.out
   rw [if_pos (Or.inl hf)] at HH3
   clear HH2 hf
   go_wp2_with fail
   go_quiet (fail)
   go_wp2_with fail
   refine (hP _ 1).mono ?_;rintro e w4 ⟨rfl,hM4,hG4⟩
   go_wp2
   refine bodyPost_end (results_none rfl _ _ _) rfl ?_
   exact ⟨rfl,by rw [HH3.out];exact hM4,hG4⟩
  ·
   rw [hf]
   by_cases a2:N.c.priv≤oa
   ·
    have HH3:Hid _:=HH2.out
    rw [if_pos (Or.inr a2)] at HH3
    clear HH2 hf
    go_wp2_with fail
    go_quiet (fail)
    go_wp2_with fail
    refine (hP _ 1).mono ?_;rintro e w4 ⟨rfl,hM4,hG4⟩
    go_wp2
    refine bodyPost_end (results_none rfl _ _ _) rfl ?_
    exact ⟨rfl,by rw [HH3.out];exact hM4,hG4⟩
   ·
    have HH3:Hid _:=HH2.out
    rw [if_neg (by rw [hf];simp;omega)] at HH3
    clear HH2 hf
    go_wp2_with fail
    go_quiet (fail)
    go_wp2_with fail
    refine (hP _ 2).mono ?_;rintro e w4 ⟨rfl,hM4,hG4⟩
    go_wp2
    refine bodyPost_end (results_none rfl _ _ _) rfl ?_
    exact ⟨rfl,by rw [HH3.out];exact hM4,hG4⟩
theorem XLoc.goesWait {w w1:World}{N:Cn}{X:XLoc}{d gg off cap len:Nat}{v:Value}(L:Labs w N X)(hd:d<N.nd)(hT:Touch (fun b=>∃ o,X.wa d=some ⟨b,o,none⟩) w w1)(hg:X.lab gg=some (12,d)∨w.heap.size≤gg):Goes w (w1.setCell ⟨X.dm,d*4+2,none⟩ v) X (X.waits d gg off len cap):=by
 have m1:∀ b,(∃ o,X.wa d=some ⟨b,o,none⟩)→X.mine b:=fun b hb=>by
  obtain ⟨o,hb⟩:=hb
  unfold XLoc.mine;rw [L.wt d hd b o hb];simp
 have m2:X.mine X.dm:=by unfold XLoc.mine;rw [L.dm];simp
 refine ⟨rfl,(hT.mono m1).trans (Touch.setCell _ _ _ _ m2),fun b hb hm=>?_⟩
 by_cases e:b=gg
 ·
  subst e
  rcases hg with hg|hg
  · unfold XLoc.mine;rw [hg];simp
  · omega
 ·
  unfold XLoc.mine XLoc.waits at hm
  simp only [e,if_false] at hm
  exact hm
theorem getD_snoc (q:List Int)(v:Int)(i:Nat):(q++[v]).getD i 0=if i=q.length then v else q.getD i 0:=by
 by_cases e:i=q.length
 · subst e;simp [List.getD]
 ·
  rw [if_neg e]
  by_cases h:i<q.length
  · simp [List.getD,List.getElem?_append_left h]
  · simp [List.getD,List.getElem?_eq_none (show (q++[v]).length≤i by simp;omega),List.getElem?_eq_none (show q.length≤i by omega)]
theorem MachM.pushRoom {w:World}{N:Cn}{X:XLoc}{m:Mh}{d g off:Nat}{cur:List Value}(h:MachM w N X m)(hd:d<N.nd)(v:Int)(ha:X.wa d=some ⟨g,off,none⟩)(hr:Row w g cur 3)(hlt:X.wl d<X.wc d)(hm:X.wc d≤maxLen)(hc:off+X.wc d≤cur.length)(hat:∀ i,i<X.wl d→cur[off+i]? = some (.int .i64 ((m.wt d).getD i 0))) :
  MachM ((w.setCell ⟨g,off+X.wl d,none⟩ (.int .i64 v)).setCell ⟨X.dm,d*4+2,none⟩ (.slice (some ⟨g,off,none⟩) (X.wl d+1) (X.wc d))) N (X.waits d g off (X.wl d+1) (X.wc d)) { m with wt:=up1 m.wt d (m.wt d++[v]) }
  ∧Goes w ((w.setCell ⟨g,off+X.wl d,none⟩ (.int .i64 v)).setCell ⟨X.dm,d*4+2,none⟩ (.slice (some ⟨g,off,none⟩) (X.wl d+1) (X.wc d))) X (X.waits d g off (X.wl d+1) (X.wc d)):=by
 have hl:X.wl d=(m.wt d).length:=(h.wait d hd).1
 have hT:Touch (fun b=>∃ o,X.wa d=some ⟨b,o,none⟩) w (w.setCell ⟨g,off+X.wl d,none⟩ (.int .i64 v)):=Touch.setCell _ _ _ _ ⟨off,ha⟩
 have hg:X.lab g=some (12,d):=h.labs.wt d hd g off ha
 refine ⟨h.setWait hd hT ⟨by simp [hl],Or.inr ⟨g,off,_,rfl,hr.setCell _ _,by omega,hm,by simpa using hc,fun i hi=>?_⟩⟩ (Or.inl hg) (by simpa [World.setCell] using hr.lt),XLoc.goesWait h.labs hd hT (Or.inl hg)⟩
 rw [getD_snoc]
 by_cases e:i=X.wl d
 ·
  subst e
  rw [if_pos hl,List.getElem?_set_self (by omega)]
 ·
  rw [if_neg (by omega),List.getElem?_set_ne (by omega)]
  exact hat i (by omega)
theorem MachM.pushGrow {w W w1:World}{N:Cn}{X:XLoc}{m:Mh}{d gg cap:Nat}(h:MachM w N X m)(hd:d<N.nd)(v:Int)(hb:Below w.heap.size w W)(hg:W.grownBy w1 none)(ho:w1.ownsRow W.heap.size 3 1 (.slice (some ⟨gg,0,none⟩) (X.wl d+1) cap) (X.wl d+1) ((m.wt d).map (Value.int .i64)++[.int .i64 v])) :
  MachM (w1.setCell ⟨X.dm,d*4+2,none⟩ (.slice (some ⟨gg,0,none⟩) (X.wl d+1) cap)) N (X.waits d gg 0 (X.wl d+1) cap) { m with wt:=up1 m.wt d (m.wt d++[v]) }
  ∧Goes w (w1.setCell ⟨X.dm,d*4+2,none⟩ (.slice (some ⟨gg,0,none⟩) (X.wl d+1) cap)) X (X.waits d gg 0 (X.wl d+1) cap):=by
 have hl:X.wl d=(m.wt d).length:=(h.wait d hd).1
 have hT:Touch (fun b=>∃ o,X.wa d=some ⟨b,o,none⟩) w w1:=(Touch.of_below hb (Nat.le_refl _)).trans ⟨hg.os,hg.tape,hg.output,hg.size,fun b hb _=>hg.block b hb (by simp)⟩
 have hgl:=(owns_lt ho gg rfl)
 have hg2:w.heap.size≤gg:=Nat.le_trans hb.size hgl.2
 refine ⟨h.setWait hd hT ⟨by simp [hl],Or.inr ?_⟩ (Or.inr hg2) hgl.1,XLoc.goesWait h.labs hd hT (Or.inr hg2)⟩
 obtain ⟨h1,h2⟩:=ho
 rcases h2 with ⟨h3,_⟩|⟨g',cap',cur,hv,_,hh,hn',hm,hs,ht⟩
 · cases h3
 ·
  simp only [Value.slice.injEq,Option.some.injEq,Addr.mk.injEq] at hv
  obtain ⟨⟨rfl,_⟩,_,rfl⟩:=hv
  have hr:Row w1 gg cur.toList 3:=by unfold Row;simpa using hh
  refine ⟨gg,0,cur.toList,rfl,hr,hn',hm,by simp [hs],fun i hi=>?_⟩
  have hlt:i<(m.wt d++[v]).length:=by simp;omega
  have h4:(cur.toList.take ((X.wl d+1)*1))[i]? = some (.int .i64 ((m.wt d++[v]).getD i 0)):=by
   rw [ht,show (m.wt d).map (Value.int .i64)++[.int .i64 v]=(m.wt d++[v]).map (Value.int .i64) by simp,List.getElem?_map,List.getD_eq_getElem?_getD,List.getElem?_eq_getElem hlt]
   rfl
  rw [List.getElem?_take,if_pos (by omega)] at h4
  rw [Nat.zero_add]
  exact h4
def UB (gw:Nat)(o:Own)(b:Nat):Prop:=b=gw∨(Value.slice o.ta o.tl o.tc).ownBlock=some b∨(Value.slice o.oa o.ol o.oc).ownBlock=some b
def OwnGo (gw:Nat)(o o':Own)(w w':World):Prop:=Touch (UB gw o) w w'∧∀ b,b<w.heap.size→UB gw o' b→UB gw o b
theorem ownGo_touch {gw gg n cap i:Nat}{o:Own}{w X w1:World}(hb:Below w.heap.size w X)(hgrow:X.grownBy w1 (Value.slice o.ta o.tl o.tc).ownBlock)(hat:(Value.slice o.ta o.tl o.tc).ownBlock=some gg∨w.heap.size≤gg)(v:Value):OwnGo gw o { o with ta:=some ⟨gg,0,none⟩,tl:=n,tc:=cap } w (w1.setCell ⟨gw,i,none⟩ v):=by
 refine ⟨((Touch.of_below hb (Nat.le_refl _)).trans ⟨hgrow.os,hgrow.tape,hgrow.output,hgrow.size,fun k hk hf=>hgrow.block k hk (fun e=>hf (Or.inr (Or.inl e.symm)))⟩).trans (Touch.setCell _ _ _ _ (Or.inl rfl)),fun b hb' hu=>?_⟩
 rcases hu with q|q|q
 · exact Or.inl q
 ·
  have:gg=b:=by simpa [Value.ownBlock] using q
  subst this
  rcases hat with e|e
  · exact Or.inr (Or.inl e)
  · omega
 · exact Or.inr (Or.inr q)
theorem ownGo_op {gw gg n cap i:Nat}{o:Own}{w X w1:World}(hb:Below w.heap.size w X)(hgrow:X.grownBy w1 (Value.slice o.oa o.ol o.oc).ownBlock)(hat:(Value.slice o.oa o.ol o.oc).ownBlock=some gg∨w.heap.size≤gg)(v:Value):OwnGo gw o { o with oa:=some ⟨gg,0,none⟩,ol:=n,oc:=cap } w (w1.setCell ⟨gw,i,none⟩ v):=by
 refine ⟨((Touch.of_below hb (Nat.le_refl _)).trans ⟨hgrow.os,hgrow.tape,hgrow.output,hgrow.size,fun k hk hf=>hgrow.block k hk (fun e=>hf (Or.inr (Or.inr e.symm)))⟩).trans (Touch.setCell _ _ _ _ (Or.inl rfl)),fun b hb' hu=>?_⟩
 rcases hu with q|q|q
 · exact Or.inl q
 · exact Or.inr (Or.inl q)
 ·
  have:gg=b:=by simpa [Value.ownBlock] using q
  subst this
  rcases hat with e|e
  · exact Or.inr (Or.inr e)
  · omega
theorem ub_fresh {gw b:Nat}{o:Own}(h:UB gw { o with ta:=none,tl:=0,tc:=0 } b):UB gw o b:=by
 rcases h with r|r|r
 · exact Or.inl r
 · simp [Value.ownBlock] at r
 · exact Or.inr (Or.inr r)
theorem ub_none {gw b:Nat}{o:Own}(h:UB gw { o with oa:=none,ol:=0,oc:=0 } b):UB gw o b:=by
 rcases h with r|r|r
 · exact Or.inl r
 · exact Or.inr (Or.inl r)
 · simp [Value.ownBlock] at r
set_option maxHeartbeats 3200000 in
theorem owner_touchT (gw base:Nat)(o:Own)(m e p b:Value)(ts:List Int)(os:List (Int × Int × Int))(st:St)(w:World)(h:WSt w gw base o m e p b ts os)(hk:st.k=1)(hn:(ts.length+1)*8≤140737488355328) :
  Calls Tryz.prog 11 #[.pointer (some ⟨gw,0,none⟩),opV st] w fun x w'=>x = .returned (.bool true)∧∃ o',o'.ca=o.ca∧o'.cl=o.cl∧o'.cc=o.cc∧WSt w' gw base o' m e p b (ts++[st.a]) os∧Below base w w'∧KeepO w w'∧OwnGo gw o o' w w':=by
 obtain ⟨k,a,bb,cc,dd⟩:=st
 simp only at hk
 subst hk
 obtain ⟨i0,hi0,hz0,hz1,hz2⟩:=info_parts Tryz.infoInt
 have c1:w.cell? ⟨gw,1,none⟩=some (.slice o.ta o.tl o.tc):=by rw [h.row.cell];rfl
 have f1:w.frozen? ⟨gw,1,none⟩=false:=h.row.frozen 1
 have lg:=h.row.lt
 have ag:=own_ne h.tou h.row (by decide)
 have hown:=h.tou
 have hbase:base≤w.heap.size:=by have:=h.hb;omega
 have HN:Hid _:=hn
 clear hn
 go_enter Tryz.func11,Tryz.ntmps11
 go_wp2_with fail
 have rO:Row (w.alloc (.cells (opA ⟨1,a,bb,cc,dd⟩) 36)) w.heap.size [.int .i64 1,.int .i64 a,.int .i64 bb,.int .i64 cc,.int .i64 dd] 36:=heap_alloc_new w _
 have b1:Below w.heap.size w (w.alloc (.cells (opA ⟨1,a,bb,cc,dd⟩) 36)):=(Below.refl _ _).alloc (Nat.le_refl _) _
 have hown1:=hown.alloc (.cells (opA ⟨1,a,bb,cc,dd⟩) 36)
 have hops1:=h.ops.alloc (.cells (opA ⟨1,a,bb,cc,dd⟩) 36)
 have row1:=h.row.alloc (.cells (opA ⟨1,a,bb,cc,dd⟩) 36)
 have sz1:(w.alloc (.cells (opA ⟨1,a,bb,cc,dd⟩) 36)).heap.size=w.heap.size+1:=by simp
 have SZ:Hid _:=sz1
 clear sz1 c1 f1 hown
 generalize w.alloc (.cells (opA ⟨1,a,bb,cc,dd⟩) 36)=W at *
 have c1:W.cell? ⟨gw,1,none⟩=some (.slice o.ta o.tl o.tc):=by rw [row1.cell];rfl
 have f1:W.frozen? ⟨gw,1,none⟩=false:=row1.frozen 1
 have c2:W.cell? ⟨w.heap.size,1,none⟩=some (.int .i64 a):=by rw [rO.cell];rfl
 have l1:=row1.lt
 have l2:=rO.lt
 have ao:=own_ne hown1 rO (by decide)
 have hbW:base≤W.heap.size:=by have:=b1.size;omega
 go_region_law
  ((refine step_append_lies _ (by rfl) _ _ _ (by rfl) base 3 i0 _ 1 8 Tryz.underlying25 hi0 hz0 hz1 hz2 rfl (by omega) (.slice o.ta o.tl o.tc) ts.length (ts.map (Value.int .i64)) (by rfl) ((hown1.alloc _).drew) ⟨W.heap.size,0,none⟩ 1 1 [.int .i64 a] (by rfl) (by rfl) (World.news_of_block (cs:=#[.int .i64 a]) (t:=3) (fr:=(0,0)) (heap_alloc_new W _)) (by simp [Value.oneCell']) (by omega) (by have:=HN.out;unfold maxLen;omega) HN.out (by simp;omega) (W.heap.size+1) (by simp) ?_;intro gg cap w1 hown2 hgrow hat hlt;have f2:w1.frozen? ⟨gw,1,none⟩=false:=(hgrow.frozen_far ⟨gw,1,none⟩ (by simp;omega) (Ne.symm ag)).trans ((row1.alloc _).frozen 1);have c3:w1.cell? ⟨gw,1,none⟩=some (.slice o.ta o.tl o.tc):=(hgrow.cell_far ⟨gw,1,none⟩ (by simp;omega) (Ne.symm ag)).trans ((row1.alloc _).cell 1)))
 all_goals go_wp2
 all_goals go_ret
 all_goals
  have hW:WSt W gw base o m e p b ts os:=⟨row1,h.hb,hown1,hops1⟩
  have hX:WSt (W.alloc (.cells #[.int .i64 a] 3)).drew gw base o m e p b ts os:=(hW.below ((Below.refl _ _).alloc (Nat.le_refl _) _) rfl).below ((Below.refl _ _).drew) rfl
  obtain ⟨g1,g2,g3⟩:=hX.touch hgrow ((((b1.mono hbase).alloc hbW _)).drew) hown2
  exact ⟨rfl,{ o with ta:=some ⟨gg,0,none⟩,tl:=ts.length+1,tc:=cap },rfl,rfl,rfl,g1,g2,((KeepO.below b1 rfl).trans (KeepO.below ((Below.refl _ _).alloc (Nat.le_refl _) _) rfl)).trans ((KeepO.below ((Below.refl _ _).drew) rfl).trans g3),ownGo_touch (below_step (below_step b1 ((Below.refl _ _).alloc (Nat.le_refl _) _) rfl) ((Below.refl _ _).drew) rfl) hgrow (hat.imp id (fun q=>by have:=SZ.out;omega)) _⟩
set_option maxHeartbeats 1600000 in
theorem owner_freshT (gw base:Nat)(o:Own)(m e p b:Value)(ts:List Int)(os:List (Int × Int × Int))(st:St)(w:World)(h:WSt w gw base o m e p b ts os)(hk:st.k=2) :
  Calls Tryz.prog 11 #[.pointer (some ⟨gw,0,none⟩),opV st] w fun x w'=>x = .returned (.bool true)∧∃ o',o'.ca=o.ca∧o'.cl=o.cl∧o'.cc=o.cc∧WSt w' gw base o' m e p b [] os∧Below base w w'∧KeepO w w'∧OwnGo gw o o' w w':=by
 obtain ⟨k,a,bb,cc,dd⟩:=st
 simp only at hk
 subst hk
 have hb:=h.hb
 have lg:=h.row.lt
 have bX:Below w.heap.size w (w.alloc (.cells (opA ⟨2,a,bb,cc,dd⟩) 36)):=(Below.refl _ _).alloc (Nat.le_refl _) _
 have hX:=h.below bX rfl
 have c1:w.cell? ⟨gw,1,none⟩=some (.slice o.ta o.tl o.tc):=by rw [h.row.cell];rfl
 have f1:w.frozen? ⟨gw,1,none⟩=false:=h.row.frozen 1
 go_enter Tryz.func11,Tryz.ntmps11
 go_wp2
 go_ret
 have hF:=hX.fresh
 rw [World.setCell_alloc_past _ _ _ _ lg] at hF
 exact ⟨rfl,{ o with ta:=Option.none,tl:=0,tc:=0 },rfl,rfl,rfl,hF,((Below.refl _ _).setCell hb _).alloc (by simp [World.setCell];omega) _,(KeepO.setCell h.row (by decide) _ _).trans (KeepO.below ((Below.refl _ _).alloc (Nat.le_refl _) _) rfl),(Touch.setCell _ _ _ _ (Or.inl rfl)).trans (Touch.of_below ((Below.refl _ _).alloc (Nat.le_refl _) _) (Nat.le_refl _)),fun q _ hu=>ub_fresh hu⟩
set_option maxHeartbeats 1600000 in
theorem owner_noneT (gw base:Nat)(o:Own)(m e p b:Value)(ts:List Int)(os:List (Int × Int × Int))(st:St)(w:World)(h:WSt w gw base o m e p b ts os)(hk:st.k=4) :
  Calls Tryz.prog 11 #[.pointer (some ⟨gw,0,none⟩),opV st] w fun x w'=>x = .returned (.bool true)∧∃ o',o'.ca=o.ca∧o'.cl=o.cl∧o'.cc=o.cc∧WSt w' gw base o' m e p b ts []∧Below base w w'∧KeepO w w'∧OwnGo gw o o' w w':=by
 obtain ⟨k,a,bb,cc,dd⟩:=st
 simp only at hk
 subst hk
 have hb:=h.hb
 have lg:=h.row.lt
 have bX:Below w.heap.size w (w.alloc (.cells (opA ⟨4,a,bb,cc,dd⟩) 36)):=(Below.refl _ _).alloc (Nat.le_refl _) _
 have hX:=h.below bX rfl
 have c1:w.cell? ⟨gw,2,none⟩=some (.slice o.oa o.ol o.oc):=by rw [h.row.cell];rfl
 have f1:w.frozen? ⟨gw,2,none⟩=false:=h.row.frozen 2
 go_enter Tryz.func11,Tryz.ntmps11
 go_wp2
 go_ret
 have hF:=hX.none
 rw [World.setCell_alloc_past _ _ _ _ lg] at hF
 exact ⟨rfl,{ o with oa:=Option.none,ol:=0,oc:=0 },rfl,rfl,rfl,hF,((Below.refl _ _).setCell hb _).alloc (by simp [World.setCell];omega) _,(KeepO.setCell h.row (by decide) _ _).trans (KeepO.below ((Below.refl _ _).alloc (Nat.le_refl _) _) rfl),(Touch.setCell _ _ _ _ (Or.inl rfl)).trans (Touch.of_below ((Below.refl _ _).alloc (Nat.le_refl _) _) (Nat.le_refl _)),fun q _ hu=>ub_none hu⟩
set_option maxHeartbeats 1600000 in
theorem rwait_any (c:Cf)(s:Sl)(d t:Int)(w:World)(h:CfgAt w c s)(R:Right c)(t0:0≤t)(t1:t≤50000) :
  Calls Tryz.prog 83 #[cfgV c s,.int .i64 d,.int .i64 t] w fun e w'=>e = .returned (.int .i64 (waitZ c d t))∧Below w.heap.size w w':=by
 have k0:=Kept.start w (cfgA c s) 43
 have s1:=R.s1
 have s2:=R.s2
 have hlen:=h.slots.hlen
 have l1:=R.t1
 have l2:=R.t2
 have hz:waitZ c d t=firstF (servesB c d) ((s.sl:Int)*c.slot).toNat t:=by unfold waitZ;rw [hlen]
 rw [hlen] at l1 l2
 have p1:0≤(s.sl:Int)*c.slot∧(s.sl:Int)*c.slot≤8*4:=⟨Int.mul_nonneg (by omega) (by omega),Int.mul_le_mul (by omega) (by omega) (by omega) (by omega)⟩
 obtain ⟨n,hn⟩:=Int.eq_ofNat_of_zero_le p1.1
 rw [hn,Int.toNat_natCast] at hz
 rw [hn] at p1
 have n32:n≤32:=by omega
 have HZ:Hid _:=hz
 have HL:Hid _:=hlen
 clear hz hlen p1
 go_enter Tryz.func83,Tryz.ntmps83
 go_wp2
 go_loopw [7] (fun u wr=>∃ j:Nat,j≤n∧u = .int .i64 (t+j)∧waitZ c d t=firstF (servesB c d) (n-j) (t+j)∧Kept w wr w.heap.size (cfgA c s)) (fun u _=>(t+n-intOf u).toNat)
 case atStart=>exact ⟨0,by omega,by simp,by simpa using HZ.out,k0⟩
 case round=>
  obtain ⟨j,hj,rfl,hf,hk⟩:=hrel
  have HF:Hid _:=hf
  have q1:=hk.box
  clear hf
  by_cases hlt:j<n
  ·
   have hlt':(j:Int)<(n:Int):=by omega
   rcases Bool.eq_false_or_eq_true (servesB c d (t+j)) with a1|a1
   ·
    go_wp2_with fail
    refine (rserves_any c s d (t+j) _ (h.below hk.below (Nat.le_refl _)) R (by omega) (by omega)).mono ?_;rintro e w1 ⟨rfl,hb1⟩;have k1:=hk.next hb1 rfl
    clear q1
    rw [a1]
    go_wp2
    go_ret
    refine ⟨ret_int ?_,k1.below⟩
    rw [HF.out,firstF_hit a1 _ (by omega)]
   ·
    go_wp2_with fail
    refine (rserves_any c s d (t+j) _ (h.below hk.below (Nat.le_refl _)) R (by omega) (by omega)).mono ?_;rintro e w1 ⟨rfl,hb1⟩;have k1:=hk.next hb1 rfl
    clear q1
    rw [a1]
    go_wp2
    go_roundw
    case rel=>
     refine ⟨j+1,by omega,by go_num,?_,k1⟩
     have e:n-j=(n-(j+1))+1:=by omega
     rw [HF.out,e,firstF_miss a1,show t+(j:Int)+1=t+((j+1:Nat):Int) by omega]
    case measure=>simp [intOf];omega
  ·
   have ej:j=n:=by omega
   subst ej
   go_wp2
   go_ret
   refine ⟨ret_int ?_,hk.below⟩
   rw [HF.out,Nat.sub_self]
   rfl
set_option maxHeartbeats 1600000 in
theorem rWait_any (c:Cf)(s:Sl)(d t:Int)(w:World)(h:CfgAt w c s) :
  Calls Tryz.prog 42 #[cfgV c s,.int .i64 d,.int .i64 t] w fun e w'=>e = .returned (.tuple #[.int .i64 (waitN c d t),.int .i64 (waitE c d t)])∧Below w.heap.size w w':=by
 have k0:=Kept.start w (cfgA c s) 43
 by_cases hz:chk c=0
 ·
  have hb:(chk c != 0)=false:=by simp [hz]
  have R:=right_of hz
  have d2:=R.d2
  by_cases hok:0≤d∧d<c.domains∧0≤t∧t≤10000
  ·
   have HN:Hid _:=wait_yes (c:=c) (d:=d) (t:=t) hz (decide_eq_true hok)
   obtain ⟨a1,a2,a3,a4⟩:=hok
   clear hz
   go_enter Tryz.func42,Tryz.ntmps42
   go_wp2_with fail
   refine (rcheck_any c s _ (h.below k0.below (Nat.le_refl _))).mono ?_;rintro e w1 ⟨rfl,hb1⟩;have k1:=k0.next hb1 rfl;have p1:=k1.box
   go_wp2_with fail
   refine (rwait_any c s d t _ (h.below k1.below (Nat.le_refl _)) R a3 (by omega)).mono ?_;rintro e w2 ⟨rfl,hb2⟩;have k2:=k1.next hb2 rfl
   clear p1
   go_wp2
   go_ret2
   exact ⟨ret_two HN.out.2.symm HN.out.1.symm,k2.below⟩
  ·
   have HN:Hid _:=wait_no (c:=c) (d:=d) (t:=t) hz (decide_eq_false hok)
   clear hz
   have cases:d<0∨(0≤d∧c.domains≤d)∨(0≤d∧d<c.domains∧t<0)∨(0≤d∧d<c.domains∧0≤t∧10000<t):=by omega
   clear hok
   rcases cases with a1|⟨a1,a2⟩|⟨a1,a2,a3⟩|⟨a1,a2,a3,a4⟩
   all_goals
    go_enter Tryz.func42,Tryz.ntmps42
    go_wp2_with fail
    refine (rcheck_any c s _ (h.below k0.below (Nat.le_refl _))).mono ?_
    rintro e w1 ⟨rfl,hb1⟩
    have k1:=k0.next hb1 rfl
    have p1:=k1.box
    go_wp2
    go_ret2
    exact ⟨ret_two HN.out.2.symm HN.out.1.symm,k1.below⟩
 ·
  have hb:(chk c != 0)=true:=by simpa using hz
  have HN:Hid _:=wait_bad (d:=d) (t:=t) hz
  clear hz
  go_enter Tryz.func42,Tryz.ntmps42
  go_wp2_with fail
  refine (rcheck_any c s _ (h.below k0.below (Nat.le_refl _))).mono ?_;rintro e w1 ⟨rfl,hb1⟩;have k1:=k0.next hb1 rfl;have p1:=k1.box
  go_wp2
  go_ret2
  exact ⟨ret_two HN.out.2.symm HN.out.1.symm,k1.below⟩
set_option maxHeartbeats 3200000 in
theorem rmarked_any (X:SLoc)(c:Cf)(sl:Sl)(L:RLoc)(T x:Int)(log:List Ent)(w:World)(h:SoR w X c sl L T)(hl:LogAt w X.la X.ll log)(hok:∀ e∈log,EntOk e) :
  Calls Tryz.prog 91 #[.pointer (some ⟨X.gs,0,none⟩),.int .i64 x] w fun e w'=>e = .returned (.bool (markedF x log))∧Below w.heap.size w w':=by
 have hm:=hl.hmax
 have c2:w.cell? ⟨X.gs,2,none⟩=some (.slice X.la X.ll X.lc):=by rw [h.row.cell];rfl
 have HL:Hid (log.length=X.ll):=hl.hlen
 go_enter Tryz.func91,Tryz.ntmps91
 go_wp2_with fail
 go_loopw [5] (fun i wr=>∃ k:Nat,k≤X.ll∧i = .int .i64 ((k:Int)-1)∧markedF x log=markedF x (log.drop (log.length-k))∧Below w.heap.size w wr) (fun i _=>(intOf i+1).toNat)
 case atStart=>exact ⟨X.ll,Nat.le_refl _,rfl,by rw [HL.out,Nat.sub_self,List.drop_zero],Below.refl _ _⟩
 case round=>
  obtain ⟨k,hk,rfl,hf,hb⟩:=hrel
  have HF:Hid _:=hf
  clear hf
  by_cases hlt:0<k
  ·
   obtain ⟨k',rfl⟩:∃ k',k=k'+1:=⟨k-1,by omega⟩
   have e1:(((k'+1:Nat):Int)-1)=(k':Int):=by omega
   rw [e1]
   obtain ⟨b,hla,hlb,hcs⟩:=(hl.below hb (Nat.le_refl _)).hat k' (by omega)
   have HE:Hid _:=drop_rev log k' (by rw [HL.out];omega)
   have HO:EntOk (log.reverse.getD k' ent0):=hok _ (getD_mem_rev log k' (by rw [HL.out];omega))
   unfold ent0 at HE HO
   have cr2:=(h.below hb (Nat.le_refl _)).row.cell 2
   have z0:=hcs 0 (by omega)
   have z1:=hcs 1 (by omega)
   have z2:=hcs 2 (by omega)
   have z3:=hcs 3 (by omega)
   have z4:=hcs 4 (by omega)
   have z5:=hcs 5 (by omega)
   have z6:=hcs 6 (by omega)
   have z7:=hcs 7 (by omega)
   have z8:=hcs 8 (by omega)
   generalize log.reverse.getD k' ⟨0,0,0,0,0,false,false,0,0⟩=e at *
   obtain ⟨et,ewhat,ecore,eline,eway,est,elo,eaddr,eval⟩:=e
   simp only [List.getElem?_cons_zero,List.getElem?_cons_succ,Nat.add_zero] at z0 z1 z2 z3 z4 z5 z6 z7 z8 cr2
   rw [hla] at cr2
   obtain ⟨l0,l1,t0,t1⟩:=HO
   dsimp only at l0 l1 t0 t1
   clear hcs e1
   rcases Bool.eq_false_or_eq_true (eline==x) with a1|a1
   ·
    by_cases a2:ewhat=4
    ·
     subst a2
     go_wp2
     go_ret
     exact ⟨ret_bool (by rw [HF.out,HE.out];simp [markedF,a1]),hb.alloc hb.size _⟩
    ·
     have a2':(ewhat==4)=false:=by simpa using a2
     clear a2
     rcases Bool.eq_false_or_eq_true (ewhat==1) with a3|a3
     ·
      go_wp2
      go_ret
      exact ⟨ret_bool (by rw [HF.out,HE.out];simp [markedF,a1,a2',a3]),hb.alloc hb.size _⟩
     ·
      go_wp2
      go_roundw
      case rel=>exact ⟨k',by omega,rfl,by rw [HF.out,HE.out];simp [markedF,a1,a2',a3],hb.alloc hb.size _⟩
      case measure=>simp [intOf]
   ·
    go_wp2
    go_roundw
    case rel=>exact ⟨k',by omega,rfl,by rw [HF.out,HE.out];simp [markedF,a1],hb.alloc hb.size _⟩
    case measure=>simp [intOf]
  ·
   obtain rfl:k=0:=by omega
   go_wp2
   go_ret
   exact ⟨ret_bool (by rw [HF.out,Nat.sub_zero,List.drop_length];rfl),hb⟩
end Go.Proofs.YtehheaedbnfidaaGreat
