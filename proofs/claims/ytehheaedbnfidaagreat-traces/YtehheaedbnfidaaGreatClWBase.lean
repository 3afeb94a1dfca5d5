import Derived.WalkKit
import Derived.WalkSpells
import Derived.WalkLawsBesides
import Derived.Deep.Draws
import Derived.WalkSmall
import Derived.Test.YtehheaedbnfidaaGreatProg
import Derived.Deep.QuietTactic
import Derived.BigQuiet
import Derived.Deep.Light
set_option maxRecDepth 100000
namespace Go.Proofs.YtehheaedbnfidaaGreat
open Go.RowKit
theorem ret_int {k:IntKind}{a b:Int}(h:a=b):Ending.returned (.int k a) = .returned (.int k b):=by rw [h]
theorem ret_bool {a b:Bool}(h:a=b):Ending.returned (.bool a) = .returned (.bool b):=by rw [h]
structure Ints (w:World)(sa:Option Addr)(len cap:Nat)(xs:List Int):Prop where
 hlen:xs.length=len
 hle:len≤cap
 hmax:cap≤maxLen
 hnil:sa=none→cap=0
 hat:∀ i,i<len→∃ b off,sa=some ⟨b,off,none⟩∧w.cell? ⟨b,off+i,none⟩=some (.int .i64 (xs.getD i 0))
structure Grid (w:World)(sa:Option Addr)(len cap:Nat)(xss:List (List Int)):Prop where
 hlen:xss.length=len
 hle:len≤cap
 hmax:cap≤maxLen
 hnil:sa=none→cap=0
 hat:∀ i,i<len→∃ b off ia il ic,sa=some ⟨b,off,none⟩∧w.cell? ⟨b,off+i,none⟩=some (.slice ia il ic)∧Ints w ia il ic (xss.getD i [])
theorem cell_lt {w:World}{a:Addr}{v:Value}(h:w.cell? a=some v):a.block<w.heap.size:=by
 unfold World.cell? at h
 by_cases hb:a.block<w.heap.size
 · exact hb
 ·
  rw [Array.getElem?_eq_none (by omega)] at h
  simp at h
theorem Ints.below {w w':World}{sa:Option Addr}{len cap:Nat}{xs:List Int}{n:Nat}(h:Ints w sa len cap xs)(hb:Below n w w')(hn:w.heap.size≤n):Ints w' sa len cap xs:=
 ⟨h.hlen,h.hle,h.hmax,h.hnil,fun i hi=>by
  obtain ⟨b,off,h1,h2⟩:=h.hat i hi
  have:=cell_lt h2
  exact ⟨b,off,h1,by rw [hb.cell (p:=⟨b,off+i,none⟩) (by simp at this ⊢;omega)];exact h2⟩⟩
theorem Ints.alloc {w:World}{sa:Option Addr}{len cap:Nat}{xs:List Int}(h:Ints w sa len cap xs)(o:Obj):Ints (w.alloc o) sa len cap xs:=
 h.below ((Below.refl w.heap.size w).alloc (Nat.le_refl _) o) (Nat.le_refl _)
theorem Ints.drew {w:World}{sa:Option Addr}{len cap:Nat}{xs:List Int}(h:Ints w sa len cap xs):Ints w.drew sa len cap xs:=
 h.below ((Below.refl w.heap.size w).drew) (Nat.le_refl _)
theorem Ints.drewN {w:World}{sa:Option Addr}{len cap:Nat}{xs:List Int}(h:Ints w sa len cap xs)(n:Nat):Ints (w.drewN n) sa len cap xs:=
 ⟨h.hlen,h.hle,h.hmax,h.hnil,h.hat⟩
theorem Grid.below {w w':World}{sa:Option Addr}{len cap:Nat}{xs:List (List Int)}{n:Nat}(h:Grid w sa len cap xs)(hb:Below n w w')(hn:w.heap.size≤n):Grid w' sa len cap xs:=
 ⟨h.hlen,h.hle,h.hmax,h.hnil,fun i hi=>by
  obtain ⟨b,off,ia,il,ic,h1,h2,h3⟩:=h.hat i hi
  have:=cell_lt h2
  exact ⟨b,off,ia,il,ic,h1,by rw [hb.cell (p:=⟨b,off+i,none⟩) (by simp at this ⊢;omega)];exact h2,h3.below hb hn⟩⟩
theorem Grid.alloc {w:World}{sa:Option Addr}{len cap:Nat}{xs:List (List Int)}(h:Grid w sa len cap xs)(o:Obj):Grid (w.alloc o) sa len cap xs:=
 h.below ((Below.refl w.heap.size w).alloc (Nat.le_refl _) o) (Nat.le_refl _)
theorem Grid.drewN {w:World}{sa:Option Addr}{len cap:Nat}{xs:List (List Int)}(h:Grid w sa len cap xs)(n:Nat):Grid (w.drewN n) sa len cap xs:=
 ⟨h.hlen,h.hle,h.hmax,h.hnil,fun i hi=>by
  obtain ⟨b,off,ia,il,ic,h1,h2,h3⟩:=h.hat i hi
  exact ⟨b,off,ia,il,ic,h1,h2,h3.drewN n⟩⟩
structure Cf where
 cores:Int
 domains:Int
 line:Int
 priv:Int
 shared:Int
 near:Int
 sets:Int
 ways:List Int
 slot:Int
 slots:List Int
 turns:List (List Int)
 quantum:Int
 flush:Int
structure Sl where
 wa:Option Addr
 wl:Nat
 wc:Nat
 sa:Option Addr
 sl:Nat
 sc:Nat
 ta:Option Addr
 tl:Nat
 tc:Nat
abbrev cfgA (c:Cf)(s:Sl):Array Value:=#[.int .i64 c.cores,.int .i64 c.domains,.int .i64 c.line,.int .i64 c.priv,.int .i64 c.shared,.int .i64 c.near,.int .i64 c.sets,.slice s.wa s.wl s.wc,.int .i64 c.slot,.slice s.sa s.sl s.sc,.slice s.ta s.tl s.tc,.int .i64 c.quantum,.int .i64 c.flush]
abbrev cfgL (c:Cf)(s:Sl):List Value:=[.int .i64 c.cores,.int .i64 c.domains,.int .i64 c.line,.int .i64 c.priv,.int .i64 c.shared,.int .i64 c.near,.int .i64 c.sets,.slice s.wa s.wl s.wc,.int .i64 c.slot,.slice s.sa s.sl s.sc,.slice s.ta s.tl s.tc,.int .i64 c.quantum,.int .i64 c.flush]
abbrev cfgV (c:Cf)(s:Sl):Value:=.agg (cfgA c s)
structure CfgAt (w:World)(c:Cf)(s:Sl):Prop where
 ways:Ints w s.wa s.wl s.wc c.ways
 slots:Ints w s.sa s.sl s.sc c.slots
 turns:Grid w s.ta s.tl s.tc c.turns
theorem CfgAt.below {w w':World}{c:Cf}{s:Sl}{n:Nat}(h:CfgAt w c s)(hb:Below n w w')(hn:w.heap.size≤n):CfgAt w' c s:=
 ⟨h.ways.below hb hn,h.slots.below hb hn,h.turns.below hb hn⟩
theorem CfgAt.alloc {w:World}{c:Cf}{s:Sl}(h:CfgAt w c s)(o:Obj):CfgAt (w.alloc o) c s:=
 ⟨h.ways.alloc o,h.slots.alloc o,h.turns.alloc o⟩
theorem bcell {W w1:World}(hb:Below W.heap.size W w1):(∀ b o,b<W.heap.size→w1.cell? ⟨b,o,none⟩=W.cell? ⟨b,o,none⟩)∧(∀ b o,b<W.heap.size→w1.frozen? ⟨b,o,none⟩=W.frozen? ⟨b,o,none⟩):=
 ⟨fun b o h=>hb.cell (p:=⟨b,o,none⟩) h,fun b o h=>hb.frozen (p:=⟨b,o,none⟩) h⟩
theorem bcellN {W w1:World}(n:Nat)(hb:Below W.heap.size W w1)(hn:W.heap.size=n):(∀ b o,b<n→w1.cell? ⟨b,o,none⟩=W.cell? ⟨b,o,none⟩)∧(∀ b o,b<n→w1.frozen? ⟨b,o,none⟩=W.frozen? ⟨b,o,none⟩)∧n≤w1.heap.size:=by
 subst hn
 exact ⟨(bcell hb).1,(bcell hb).2,hb.size⟩
theorem below_step {w w1 w2:World}{n:Nat}(h:Below w.heap.size w w1)(hb:Below n w1 w2)(hn:n=w1.heap.size):Below w.heap.size w w2:=
 h.trans (hb.mono (by rw [hn];exact h.size))
structure Kept (w0 w:World)(b:Nat)(A:Array Value):Prop where
 below:Below w0.heap.size w0 w
 box:∀ o,w.cell? ⟨b,o,none⟩=A[o]?
 lt:b<w.heap.size
theorem Kept.start (w:World)(A:Array Value)(t:TypeId):Kept w (w.alloc (.cells A t)) w.heap.size A:=
 ⟨(Below.refl _ _).alloc (Nat.le_refl _) _,fun o=>by simp only [World.cell?];rw [heap_alloc_new];simp,by simp⟩
theorem Kept.next {w0 w w':World}{b n:Nat}{A:Array Value}(h:Kept w0 w b A)(hb:Below n w w')(hn:n=w.heap.size):Kept w0 w' b A:=
 ⟨below_step h.below hb hn,fun o=>by rw [hb.cell (p:=⟨b,o,none⟩) (by rw [hn];exact h.lt)];exact h.box o,Nat.lt_of_lt_of_le h.lt hb.size⟩
theorem Kept.drew {w0 w:World}{b:Nat}{A:Array Value}(h:Kept w0 w b A):Kept w0 w.drew b A:=⟨h.below.drew,h.box,h.lt⟩
theorem CfgAt.drew {w:World}{c:Cf}{s:Sl}(h:CfgAt w c s):CfgAt w.drew c s:=
 h.below ((Below.refl w.heap.size w).drew) (Nat.le_refl _)
structure CfR (c:Cf):Prop where
 ways:c.ways.length*8≤140737488351232
 slots:c.slots.length*8≤140737488351232
 turns:c.turns.length*24≤140737488351232
 each:∀ i,i<c.turns.length→(c.turns.getD i []).length*8≤140737488351232
theorem add_plain' (b off j:Nat):Addr.add ⟨b,off,none⟩ j=⟨b,off+j,none⟩:=by
 unfold Addr.add
 by_cases h:j=0 <;> simp [h]
end Go.Proofs.YtehheaedbnfidaaGreat
namespace Go.Proofs.YtehheaedbnfidaaGreat
def withinB (n lo hi:Int):Bool:=decide (lo≤n)&&decide (n≤hi)
def smallB (n:Int):Bool:=n==1 || n==2 || n==4
def listB (xs:List Int)(most lo hi:Int):Bool:=decide (1≤(xs.length:Int))&&decide ((xs.length:Int)≤most)&&xs.all (fun x=>withinB x lo hi)
def wordsB (c:Cf):Bool:=smallB c.line&&withinB c.priv c.line 64&&withinB c.shared 0 32&&(c.priv%c.line==0)&&(c.shared%c.line==0)
def shapeB (c:Cf):Bool:=withinB c.cores 1 3&&withinB c.domains 1 4&&smallB c.near&&smallB c.sets&&wordsB c
def allUpto (p:Int→Bool):Nat→Bool
 | 0=>true
 | n+1=>allUpto p n&&p n
def waysB (c:Cf):Bool:=listB c.ways 8 0 (c.domains-1)&&allUpto (fun d=>smallB (c.ways.count d)) c.domains.toNat
def slotsB (c:Cf):Bool:=withinB c.slot 1 4&&listB c.slots 8 0 (c.domains-1)&&allUpto (fun d=>!((c.slots.count d:Int)==0)) c.domains.toNat
def turnsB (c:Cf):Bool:=((c.turns.length:Int)==c.cores)&&c.turns.all (fun l=>listB l 4 (-1) (c.domains-1))
def worstZ (c:Cf):Int:=3*c.cores*c.slots.length*c.slot
def quantumB (c:Cf):Bool:=withinB c.flush c.near 16&&withinB c.quantum (worstZ c+c.flush+1) 2000
def chk (c:Cf):Int:=if shapeB c=false then 1 else if waysB c=false then 2 else if slotsB c=false then 3 else if turnsB c=false then 4 else if quantumB c=false then 5 else 0
theorem count_le (x:Int)(xs:List Int)(k:Nat):(xs.take k).count x≤k:=by
 have:=List.count_le_length (a:=x) (l:=xs.take k)
 have h2:=List.length_take_le k xs
 omega
theorem count_snoc (x:Int)(xs:List Int)(k:Nat)(h:k<xs.length):(xs.take (k+1)).count x=(xs.take k).count x+if (xs.getD k 0==x)=true then 1 else 0:=by
 rw [List.take_succ_eq_append_getElem h,List.count_append]
 simp [List.getD,h,List.count_cons]
theorem all_snoc {α:Type}(p:α→Bool)(xs:List α)(d:α)(k:Nat)(h:k<xs.length):(xs.take (k+1)).all p=((xs.take k).all p&&p (xs.getD k d)):=by
 rw [List.take_succ_eq_append_getElem h,List.all_append]
 simp [List.getD,h]
theorem all_false_of {α:Type}(p:α→Bool)(xs:List α)(d:α)(k:Nat)(h:k<xs.length)(hp:p (xs.getD k d)=false):xs.all p=false:=by
 rw [List.all_eq_false]
 refine ⟨xs[k],List.getElem_mem h,?_⟩
 simp [List.getD,h] at hp
 simp [hp]
theorem allUpto_false (p:Int→Bool)(k:Nat)(hp:p k=false):∀ n,k<n→allUpto p n=false
 | n+1,h=>by
  by_cases e:k=n
  · subst e;simp [allUpto,hp]
  · simp [allUpto,allUpto_false p k hp n (by omega)]
theorem within_iff (n lo hi:Int):withinB n lo hi=true↔lo≤n∧n≤hi:=by simp [withinB]
theorem within_not (n lo hi:Int):withinB n lo hi=false↔n<lo∨hi<n:=by
 simp [withinB]
 by_cases h:lo≤n <;> by_cases h2:n≤hi <;> simp [h] <;> omega
theorem small_iff (n:Int):smallB n=true↔n=1∨n=2∨n=4:=by simp [smallB,or_assoc]
theorem small_not (n:Int):smallB n=false↔n≠1∧n≠2∧n≠4:=by simp [smallB,and_assoc]
theorem shape_bounds {c:Cf}(h:shapeB c=true):1≤c.cores∧c.cores≤3∧1≤c.domains∧c.domains≤4∧(c.near=1∨c.near=2∨c.near=4)∧(c.sets=1∨c.sets=2∨c.sets=4)∧(c.line=1∨c.line=2∨c.line=4)∧c.line≤c.priv∧c.priv≤64∧0≤c.shared∧c.shared≤32:=by
 simp only [shapeB,wordsB,Bool.and_eq_true,within_iff,small_iff] at h
 omega
theorem slots_bounds {c:Cf}(h:slotsB c=true):1≤c.slot∧c.slot≤4∧1≤c.slots.length∧c.slots.length≤8:=by
 simp only [slotsB,listB,Bool.and_eq_true,within_iff,decide_eq_true_eq] at h
 omega
theorem worst_bd {c:Cf}(h1:1≤c.cores)(h2:c.cores≤3)(h3:1≤c.slot)(h4:c.slot≤4)(h5:c.slots.length≤8):0≤worstZ c∧worstZ c≤288:=by
 unfold worstZ
 have b1:(3*c.cores)*(c.slots.length:Int)≤9*8:=Int.mul_le_mul (by omega) (by omega) (by omega) (by omega)
 have b2:0≤(3*c.cores)*(c.slots.length:Int):=Int.mul_nonneg (by omega) (by omega)
 have b4:(3*c.cores)*(c.slots.length:Int)*c.slot≤(9*8)*4:=Int.mul_le_mul b1 h4 (by omega) (by omega)
 have b5:0≤(3*c.cores)*(c.slots.length:Int)*c.slot:=Int.mul_nonneg b2 (by omega)
 omega
end Go.Proofs.YtehheaedbnfidaaGreat
namespace Go.Proofs.YtehheaedbnfidaaGreat
open Go.RowKit
set_option maxHeartbeats 400000 in
theorem rsmall_any (n:Int)(w:World) :
  Calls Tryz.prog 65 #[.int .i64 n] w fun e w'=>e = .returned (.bool (smallB n))∧w'=w:=by
 by_cases h:(n==1)=true
 ·
  go_enter Tryz.func65,Tryz.ntmps65
  go_wp2
  go_ret
  exact ⟨ret_bool (by simp [smallB,h]),rfl⟩
 ·
  have h':(n==1)=false:=by simpa using h
  clear h
  by_cases h2:(n==2)=true
  ·
   go_enter Tryz.func65,Tryz.ntmps65
   go_wp2
   go_ret
   exact ⟨ret_bool (by simp [smallB,h',h2]),rfl⟩
  ·
   have h2':(n==2)=false:=by simpa using h2
   clear h2
   go_enter Tryz.func65,Tryz.ntmps65
   go_wp2
   go_ret
   exact ⟨ret_bool (by simp [smallB,h',h2']),rfl⟩
set_option maxHeartbeats 400000 in
theorem rcount_any (sa:Option Addr)(len cap:Nat)(xs:List Int)(x:Int)(w:World)(h:Ints w sa len cap xs) :
  Calls Tryz.prog 78 #[.slice sa len cap,.int .i64 x] w fun e w'=>e = .returned (.int .i64 (xs.count x))∧w'=w:=by
 have hle:=h.hle
 have hm:=h.hmax
 unfold maxLen at hm
 go_enter Tryz.func78,Tryz.ntmps78
 go_wp2
 go_loop [5,6] (fun n i=>∃ k:Nat,k≤len∧i = .int .i64 k∧n = .int .i64 ((xs.take k).count x:Nat)) (fun _ i=>len-(intOf i).toNat)
 case atStart=>exact ⟨0,Nat.zero_le _,rfl,rfl⟩
 case round=>
  obtain ⟨k,hk,rfl,rfl⟩:=hrel
  have hcl:=count_le x xs k
  by_cases hlt:k<len
  ·
   obtain ⟨b,off,rfl,hc⟩:=h.hat k hlt
   have HS:Hid _:=count_snoc x xs k (by rw [h.hlen];exact hlt)
   go_wp2
   all_goals
    go_round
    case rel=>
     refine ⟨k+1,by omega,by go_num,?_⟩
     rw [HS.out]
     simp [*]
    case measure=>simp [intOf];omega
  ·
   go_wp2
   go_ret
   exact ⟨ret_int (by rw [List.take_of_length_le (by rw [h.hlen];omega)]),rfl⟩
theorem list_not {xs:List Int}{most lo hi:Int}(h:¬(1≤(xs.length:Int)∧(xs.length:Int)≤most)):listB xs most lo hi=false:=by
 simp only [listB]
 have e:(decide (1≤(xs.length:Int))&&decide ((xs.length:Int)≤most))=false:=by
  rw [← Bool.decide_and];simpa using h
 rw [e];rfl
set_option maxHeartbeats 400000 in
theorem rwithin_any (sa:Option Addr)(len cap:Nat)(xs:List Int)(most lo hi:Int)(w:World)(h:Ints w sa len cap xs) :
  Calls Tryz.prog 110 #[.slice sa len cap,.int .i64 most,.int .i64 lo,.int .i64 hi] w fun e w'=>e = .returned (.bool (listB xs most lo (hi-1)))∧w'=w:=by
 have hle:=h.hle
 have hm:=h.hmax
 unfold maxLen at hm
 have HL:Hid (xs.length=len):=h.hlen
 go_enter Tryz.func110,Tryz.ntmps110
 go_wp2
 go_loop [9] (fun i=>∃ k:Nat,k≤len∧i = .int .i64 k∧(xs.take k).all (fun x=>withinB x lo (hi-1))=true) (fun i=>len-(intOf i).toNat)
 case atStart=>exact ⟨0,Nat.zero_le _,rfl,rfl⟩
 case round=>
  obtain ⟨k,hk,rfl,hall⟩:=hrel
  have HA:Hid _:=hall
  clear hall
  by_cases hlt:k<len
  ·
   obtain ⟨b,off,rfl,hc⟩:=h.hat k hlt
   have HS:Hid _:=all_snoc (fun x=>withinB x lo (hi-1)) xs 0 k (by rw [h.hlen];exact hlt)
   have HF:Hid _:=all_false_of (fun x=>withinB x lo (hi-1)) xs 0 k (by rw [h.hlen];exact hlt)
   generalize xs.getD k 0=x at *
   by_cases h1:x<lo
   ·
    go_wp2
    go_ret
    exact ⟨ret_bool (by simp [listB,HF.out ((within_not _ _ _).2 (by omega))]),rfl⟩
   ·
    by_cases h2:hi≤x
    ·
     go_wp2
     go_ret
     exact ⟨ret_bool (by simp [listB,HF.out ((within_not _ _ _).2 (by omega))]),rfl⟩
    ·
     go_wp2
     go_round
     case rel=>exact ⟨k+1,by omega,by go_num,by rw [HS.out,HA.out];exact (within_iff _ _ _).2 (by omega)⟩
     case measure=>simp [intOf];omega
  ·
   have hall:xs.all (fun x=>withinB x lo (hi-1))=true:=by
    have:=HA.out
    rwa [List.take_of_length_le (by rw [h.hlen];omega)] at this
   have HB:Hid _:=hall
   clear hall
   by_cases h1:1≤(len:Int)
   ·
    go_wp2
    go_ret
    refine ⟨ret_bool ?_,rfl⟩
    have e:=HL.out
    simp only [listB,HB.out,e]
    simp
    omega
   ·
    go_wp2
    go_ret
    refine ⟨ret_bool ?_,rfl⟩
    rw [list_not]
    rw [HL.out];omega
theorem chk_zero {c:Cf}(h:chk c=0):shapeB c=true∧waysB c=true∧slotsB c=true∧turnsB c=true∧quantumB c=true:=by
 unfold chk at h
 cases h1:shapeB c <;> cases h2:waysB c <;> cases h3:slotsB c <;> cases h4:turnsB c <;> cases h5:quantumB c <;> simp_all
structure Right (c:Cf):Prop where
 c1:1≤c.cores
 c2:c.cores≤3
 d1:1≤c.domains
 d2:c.domains≤4
 s1:1≤c.slot
 s2:c.slot≤4
 t1:1≤c.slots.length
 t2:c.slots.length≤8
 w0:0≤worstZ c
 w1:worstZ c≤288
 f1:1≤c.flush
 f2:c.flush≤16
 q1:worstZ c+c.flush+1≤c.quantum
 q2:c.quantum≤2000
 tl:(c.turns.length:Int)=c.cores
 each:∀ l∈c.turns,listB l 4 (-1) (c.domains-1)=true
theorem right_of {c:Cf}(h:chk c=0):Right c:=by
 obtain ⟨h1,h2,h3,h4,h5⟩:=chk_zero h
 obtain ⟨d1,d2,d3,d4,d5,_⟩:=shape_bounds h1
 obtain ⟨e1,e2,e3,e4⟩:=slots_bounds h3
 obtain ⟨g1,g2⟩:=worst_bd d1 d2 e1 e2 e4
 simp only [quantumB,Bool.and_eq_true,within_iff] at h5
 simp only [turnsB,Bool.and_eq_true,beq_iff_eq,List.all_eq_true] at h4
 exact ⟨d1,d2,d3,d4,e1,e2,e3,e4,g1,g2,by omega,by omega,h5.2.1,h5.2.2,h4.1,h4.2⟩
theorem ret_two {j k:IntKind}{a b c d:Int}(h:a=b)(g:c=d):Ending.returned (.tuple #[.int j a,.int k c]) = .returned (.tuple #[.int j b,.int k d]):=by rw [h,g]
theorem ret_three {j k:IntKind}{a b c d:Int}{x y:Bool}(h:a=b)(hx:x=y)(g:c=d):Ending.returned (.tuple #[.int j a,.bool x,.int k c]) = .returned (.tuple #[.int j b,.bool y,.int k d]):=by rw [h,hx,g]
theorem grid_row {c:Cf}(R:Right c){i:Nat}(h:i<c.turns.length):(c.turns.getD i []).length≤4∧1≤(c.turns.getD i []).length:=by
 have e:c.turns.getD i []=c.turns[i]:=by simp [List.getD,h]
 have:=R.each _ (List.getElem_mem h)
 rw [← e] at this
 simp only [listB,Bool.and_eq_true,decide_eq_true_eq] at this
 omega
theorem mod_nat {a:Int}{n:Nat}(hn:0<n):∃ j:Nat,a%(n:Int)=(j:Int)∧j<n:=by
 have h1:=Int.emod_nonneg a (show (n:Int)≠0 by omega)
 have h2:=Int.emod_lt_of_pos a (show (0:Int)<(n:Int) by omega)
 obtain ⟨j,hj⟩:=Int.eq_ofNat_of_zero_le h1
 exact ⟨j,hj,by omega⟩
end Go.Proofs.YtehheaedbnfidaaGreat
namespace Go.Proofs.YtehheaedbnfidaaGreat
def perTurn (D S:Int):Int:=1+(D-1) / S
def roundsZ (k g:Int):Int:=(k+g-1) / g
theorem div_is {a b q:Int}(hb:0<b)(h1:q*b≤a)(h2:a<q*b+b):a / b=q:=by
 have e:a=(a-q*b)+q*b:=by omega
 rw [e,Int.add_mul_ediv_right _ _ (by omega),Int.ediv_eq_zero_of_lt (by omega) (by omega)]
 omega
theorem perTurn_bd {D S:Int}(h1:1≤D)(h2:1≤S):1≤perTurn D S∧perTurn D S≤D:=by
 unfold perTurn
 have a:0≤(D-1) / S:=Int.ediv_nonneg (by omega) (by omega)
 have b:(D-1) / S≤D-1:=Int.ediv_le_self _ (by omega)
 omega
theorem perTurn_eq {D S:Int}{j:Nat}(hS:1≤S)(h1:D≤j*S)(h2:j=0∨(((j-1:Nat):Int)*S<D))(hD:1≤D):(j:Int)=perTurn D S:=by
 have hj:j≠0:=by
  intro e
  subst e
  simp at h1
  omega
 have h3:((j-1:Nat):Int)*S<D:=by
  rcases h2 with h2|h2
  · exact absurd h2 hj
  · exact h2
 have e:((j-1:Nat):Int)=(j:Int)-1:=by omega
 rw [e] at h3
 have e2:((j:Int)-1)*S=(j:Int)*S-S:=by rw [Int.sub_mul];omega
 unfold perTurn
 have:(D-1) / S=(j:Int)-1:=div_is (by omega) (by omega) (by omega)
 omega
theorem rounds_eq {k g:Int}{r:Nat}(hg:1≤g)(hk:0≤k)(h1:k≤r*g)(h2:r=0∨(((r-1:Nat):Int)*g<k)):(r:Int)=roundsZ k g:=by
 unfold roundsZ
 symm
 rcases h2 with h2|h2
 ·
  subst h2
  simp at h1
  have:k=0:=by omega
  subst this
  exact div_is (by omega) (by simp;omega) (by simp;omega)
 ·
  have hr:r≠0:=by
   intro e
   subst e
   simp at h1 h2
   omega
  have e:((r-1:Nat):Int)=(r:Int)-1:=by omega
  rw [e] at h2
  have e2:((r:Int)-1)*g=(r:Int)*g-g:=by rw [Int.sub_mul];omega
  exact div_is (by omega) (by omega) (by omega)
theorem rounds_bd {k g:Int}(h1:0≤k)(h2:1≤g):0≤roundsZ k g∧roundsZ k g≤k:=by
 unfold roundsZ
 refine ⟨Int.ediv_nonneg (by omega) (by omega),?_⟩
 have h3:(k+g-1) / g*g≤k+g-1:=Int.ediv_mul_le _ (by omega)
 by_cases hk:(k+g-1) / g≤k
 · exact hk
 ·
  exfalso
  have h4:k+1≤(k+g-1) / g:=by omega
  have h5:(k+1)*g≤(k+g-1) / g*g:=Int.mul_le_mul_of_nonneg_right h4 (by omega)
  have h6:(k+1)*g=k*g+g:=by rw [Int.add_mul];omega
  have h7:k*1≤k*g:=Int.mul_le_mul_of_nonneg_left h2 h1
  omega
theorem step_bd {D S:Int}{j:Nat}(hS:1≤S)(hD:1≤D)(h2:j=0∨(((j-1:Nat):Int)*S<D)):(j:Int)≤D∧(j:Int)*S<D+S∧0≤(j:Int)*S:=by
 have h0:0≤(j:Int)*S:=Int.mul_nonneg (by omega) (by omega)
 rcases h2 with h2|h2
 · subst h2;simp;omega
 ·
  by_cases hj:j=0
  · subst hj;simp;omega
  ·
   have e:((j-1:Nat):Int)=(j:Int)-1:=by omega
   rw [e] at h2
   have e2:((j:Int)-1)*S=(j:Int)*S-S:=by rw [Int.sub_mul];omega
   have h3:((j:Int)-1)*1≤((j:Int)-1)*S:=Int.mul_le_mul_of_nonneg_left hS (by omega)
   omega
def enoughOk (c:Cf)(core d k:Int):Bool:=decide (0≤core∧core<c.cores∧0≤d∧d<c.domains∧0≤k∧k≤64)&&!(((c.turns.getD core.toNat []).count d:Int)==0)
def enoughE (c:Cf)(core d k:Int):Int:=if chk c=0 then (if enoughOk c core d k=true then 0 else 6) else chk c
def gZ (c:Cf):Int:=perTurn (c.quantum-c.flush-worstZ c) (worstZ c+1)
def enoughN (c:Cf)(core d k:Int):Int:=if chk c=0∧enoughOk c core d k=true then roundsZ k (gZ c)*((c.turns.getD core.toNat []).length:Int)*c.quantum else 0
theorem enough_bad {c:Cf}{core d k:Int}(h:chk c≠0):enoughE c core d k=chk c∧enoughN c core d k=0:=by
 simp [enoughE,enoughN,h]
theorem enough_no {c:Cf}{core d k:Int}(h:chk c=0)(h2:enoughOk c core d k=false):enoughE c core d k=6∧enoughN c core d k=0:=by
 simp [enoughE,enoughN,h,h2]
theorem enough_yes {c:Cf}{core d k:Int}(h:chk c=0)(h2:enoughOk c core d k=true):enoughE c core d k=0∧enoughN c core d k=roundsZ k (gZ c)*((c.turns.getD core.toNat []).length:Int)*c.quantum:=by
 simp [enoughE,enoughN,h,h2]
theorem ok_not {c:Cf}{core d k:Int}(h:¬(0≤core∧core<c.cores∧0≤d∧d<c.domains∧0≤k∧k≤64)):enoughOk c core d k=false:=by
 unfold enoughOk
 rw [decide_eq_false h]
 rfl
theorem ok_none {c:Cf}{core d k:Int}(h:(((c.turns.getD core.toNat []).count d:Int)==0)=true):enoughOk c core d k=false:=by
 unfold enoughOk
 rw [h]
 simp
theorem ok_yes {c:Cf}{core d k:Int}(h:0≤core∧core<c.cores∧0≤d∧d<c.domains∧0≤k∧k≤64)(h2:(((c.turns.getD core.toNat []).count d:Int)==0)=false):enoughOk c core d k=true:=by
 unfold enoughOk
 rw [decide_eq_true h,h2]
 rfl
def rowOf (c:Cf)(i:Nat):List Int:=c.turns.getD i []
def turnZ (c:Cf)(i:Nat)(t:Int):Int:=(rowOf c i).getD (t / c.quantum%((rowOf c i).length:Int)).toNat 0
def openB (c:Cf)(i:Nat)(d t:Int):Bool:=(turnZ c i t==d)&&decide (0≤d)&&decide (t%c.quantum<c.quantum-c.flush-worstZ c)
def servesB (c:Cf)(d t:Int):Bool:=(t%c.slot==c.slot-1)&&(c.slots.getD (t / c.slot%(c.slots.length:Int)).toNat 0==d)
def firstF (p:Int→Bool):Nat→Int→Int
 | 0,u=>u
 | n+1,u=>if p u=true then u else firstF p n (u+1)
def waitZ (c:Cf)(d t:Int):Int:=firstF (servesB c d) ((c.slots.length:Int)*c.slot).toNat t
def turnOk (c:Cf)(core t:Int):Bool:=decide (0≤core∧core<c.cores∧0≤t∧t≤10000)
def waitOk (c:Cf)(d t:Int):Bool:=decide (0≤d∧d<c.domains∧0≤t∧t≤10000)
def turnE (c:Cf)(core t:Int):Int:=if chk c=0 then (if turnOk c core t=true then 0 else 6) else chk c
def turnD (c:Cf)(core t:Int):Int:=if chk c=0∧turnOk c core t=true then turnZ c core.toNat t else 0
def turnO (c:Cf)(core t:Int):Bool:=if chk c=0∧turnOk c core t=true then openB c core.toNat (turnZ c core.toNat t) t else false
def waitE (c:Cf)(d t:Int):Int:=if chk c=0 then (if waitOk c d t=true then 0 else 6) else chk c
def waitN (c:Cf)(d t:Int):Int:=if chk c=0∧waitOk c d t=true then waitZ c d t else 0
theorem turn_bad {c:Cf}{core t:Int}(h:chk c≠0):turnE c core t=chk c∧turnD c core t=0∧turnO c core t=false:=by simp [turnE,turnD,turnO,h]
theorem turn_no {c:Cf}{core t:Int}(h:chk c=0)(h2:turnOk c core t=false):turnE c core t=6∧turnD c core t=0∧turnO c core t=false:=by simp [turnE,turnD,turnO,h,h2]
theorem turn_yes {c:Cf}{core t:Int}(h:chk c=0)(h2:turnOk c core t=true):turnE c core t=0∧turnD c core t=turnZ c core.toNat t∧turnO c core t=openB c core.toNat (turnZ c core.toNat t) t:=by simp [turnE,turnD,turnO,h,h2]
theorem wait_bad {c:Cf}{d t:Int}(h:chk c≠0):waitE c d t=chk c∧waitN c d t=0:=by simp [waitE,waitN,h]
theorem wait_no {c:Cf}{d t:Int}(h:chk c=0)(h2:waitOk c d t=false):waitE c d t=6∧waitN c d t=0:=by simp [waitE,waitN,h,h2]
theorem wait_yes {c:Cf}{d t:Int}(h:chk c=0)(h2:waitOk c d t=true):waitE c d t=0∧waitN c d t=waitZ c d t:=by simp [waitE,waitN,h,h2]
def latestZ (l:List Int)(lo hi:Int):Int:=((l.reverse.find? fun x=>decide (lo≤x)&&decide (x<hi)).getD (-1))
def lowHit (l:List Int)(lo m:Int):Bool:=decide (0≤latestZ l lo (lo+(m+m)))&&decide (latestZ l lo (lo+(m+m))<lo+m)
def victimZ (n:Int)(l:List Int):Int:=
 if n=2 then (if lowHit l 0 1=true then 1 else 0)
 else if n=4 then (if lowHit l 0 2=true then (if lowHit l 2 1=true then 3 else 2) else (if lowHit l 0 1=true then 1 else 0))
 else 0
def victimOk (n:Int)(l:List Int):Bool:=smallB n&&l.all (fun x=>withinB x 0 (n-1))
def victimE (n:Int)(l:List Int):Int:=if victimOk n l=true then 0 else 6
def victimN (n:Int)(l:List Int):Int:=if victimOk n l=true then victimZ n l else 0
theorem latest_hit {l:List Int}{lo hi:Int}{k:Nat}(hk:k<l.length)(hx:lo≤l.getD k 0∧l.getD k 0<hi)(hn:∀ x∈l.drop (k+1),¬(lo≤x∧x<hi)):latestZ l lo hi=l.getD k 0:=by
 have e:l=l.take k++(l[k]::l.drop (k+1)):=by
  rw [← List.drop_eq_getElem_cons hk,List.take_append_drop]
 have ek:l.getD k 0=l[k]:=by simp [List.getD,hk]
 rw [ek] at hx
 unfold latestZ
 rw [ek]
 conv=>lhs;rw [e]
 rw [List.reverse_append,List.reverse_cons,List.append_assoc,List.find?_append]
 have h1:(l.drop (k+1)).reverse.find? (fun x=>decide (lo≤x)&&decide (x<hi))=none:=by
  rw [List.find?_eq_none]
  intro x hx'
  have:=hn x (List.mem_reverse.1 hx')
  simpa using this
 rw [h1]
 simp [hx]
theorem latest_none {l:List Int}{lo hi:Int}(hn:∀ x∈l,¬(lo≤x∧x<hi)):latestZ l lo hi=-1:=by
 unfold latestZ
 have h1:l.reverse.find? (fun x=>decide (lo≤x)&&decide (x<hi))=none:=by
  rw [List.find?_eq_none]
  intro x hx'
  have:=hn x (List.mem_reverse.1 hx')
  simpa using this
 rw [h1];rfl
theorem latest_bd (l:List Int)(lo hi:Int)(h0:0≤lo)(h1:lo≤hi):-1≤latestZ l lo hi∧latestZ l lo hi≤hi:=by
 unfold latestZ
 cases h:l.reverse.find? (fun x=>decide (lo≤x)&&decide (x<hi)) with
 | none=>simp;omega
 | some x=>
  have:=List.find?_some h
  simp at this
  simp
  omega
theorem firstF_hit {p:Int→Bool}{u:Int}(h:p u=true):∀ n,0<n→firstF p n u=u
 | n+1,_=>by simp [firstF,h]
theorem firstF_miss {p:Int→Bool}{u:Int}(h:p u=false)(n:Nat):firstF p (n+1) u=firstF p n (u+1):=by simp [firstF,h]
structure Ent where
 t:Int
 what:Int
 core:Int
 line:Int
 way:Int
 st:Bool
 lo:Bool
 addr:Int
 val:Int
structure Ev where
 core:Int
 index:Int
 value:Int
 fault:Int
 issue:Int
 done:Int
abbrev OpT:=Int × Int × Int
def flushAt (c:Cf)(s:Int):Int:=s / c.quantum*c.quantum+c.quantum-c.flush
def flushedB (c:Cf)(s t:Int):Bool:=
 if t<flushAt c s then false else if s<flushAt c s then true else decide (flushAt c s+c.quantum≤t)
def stateF (c:Cf)(core x t:Int):Bool→List Ent→Int
 | _,[]=>0
 | lw,e::r=>
  if flushedB c e.t t=true then 0
  else if (e.what==2&&e.line==x)=true then 0
  else if (e.what==3&&e.core==core&&e.line != x&&(e.line%c.near==x%c.near))=true then 0
  else if (e.what==3&&e.core != core&&e.line==x&&e.st)=true then 0
  else if (e.what==3&&e.core != core&&e.line==x)=true then stateF c core x t true r
  else if (e.what==4&&e.core==core&&e.line==x&&!lw)=true then 3
  else if (e.what==3&&e.core==core&&e.line==x&&e.lo&&!lw)=true then 2
  else if ((e.what==3 || e.what==4)&&e.core==core&&e.line==x)=true then 1
  else stateF c core x t lw r
def whereF (x:Int):List Ent→Int
 | []=>-1
 | e::r=>if (e.line==x&&e.what==1)=true then e.way else if (e.line==x&&e.what==2)=true then -1 else whereF x r
def liesF (c:Cf)(set way:Int):List Ent→Int
 | []=>-1
 | e::r=>if ((e.line%c.sets==set)&&e.way==way&&e.what==1)=true then e.line else if ((e.line%c.sets==set)&&e.way==way&&e.what==2)=true then -1 else liesF c set way r
def markedF (x:Int):List Ent→Bool
 | []=>false
 | e::r=>if (e.line==x&&e.what==4)=true then true else if (e.line==x&&e.what==1)=true then false else markedF x r
def wordF (a init:Int):List Ent→Int
 | []=>init
 | e::r=>if (e.what==4&&e.addr==a)=true then e.val else wordF a init r
def memoryF (x a init:Int):List Ent→Int
 | []=>init
 | e::r=>if (e.what==2&&e.line==x)=true then wordF a init r else memoryF x a init r
def touchedF (c:Cf)(set:Int)(log:List Ent):List Int:=((log.reverse.filter fun e=>e.what==3&&(e.line%c.sets==set)).map Ent.way)
def emptyF (c:Cf)(set:Int)(log:List Ent):Nat→Int→Int
 | 0,j=>j
 | n+1,j=>if liesF c set j log<0 then j else emptyF c set log n (j+1)
def chosenF (c:Cf)(n:Nat)(set:Int)(log:List Ent):Int:=
 let j:=emptyF c set log n 0
 if j<n then j else victimZ n (touchedF c set log)
theorem emptyF_hit {c:Cf}{set:Int}{log:List Ent}{j:Int}(h:liesF c set j log<0):∀ n,0<n→emptyF c set log n j=j
 | n+1,_=>by simp [emptyF,h]
theorem emptyF_miss {c:Cf}{set:Int}{log:List Ent}{j:Int}(h:¬liesF c set j log<0)(n:Nat):emptyF c set log (n+1) j=emptyF c set log n (j+1):=by simp [emptyF,h]
structure MDat where
 c:Cf
 pr:Nat→List OpT
 ow:Nat→List Int
 cm:List Int
def firstF0 (M:MDat)(d:Nat)(a:Int):Int:=if a<M.c.priv then (M.ow d).getD a.toNat 0 else M.cm.getD (a-M.c.priv).toNat 0
def faultF (c:Cf)(o:OpT):Int:=if o.2.1<0∨c.priv+c.shared≤o.2.1 then 1 else if o.1=1∧c.priv≤o.2.1 then 2 else 0
structure So where
 log:List Ent
 evs:List Ev
 next:List Int
 free:List Int
 began:List Int
 how:List Int
 queue:List Int
def So.told (S:So)(e:Ent):So:={ S with log:=e::S.log }
def So.done (S:So)(k:Nat)(t v f:Int):So:=
 { S with evs:=S.evs++[⟨k,S.next.getD k 0,v,f,S.began.getD k 0,t⟩],next:=S.next.set k (S.next.getD k 0+1),free:=S.free.set k (t+1),how:=S.how.set k 0 }
def loneF (c:Cf)(core x t:Int)(log:List Ent):Nat→Int→Bool
 | 0,_=>true
 | n+1,j=>if j≠core∧stateF c j x t false log≠0 then false else loneF c core x t log n (j+1)
def progF (M:MDat)(d k:Nat):List OpT:=M.pr (d*M.c.cores.toNat+k)
def opAt (M:MDat)(d k:Nat)(S:So):OpT:=(progF M d k).getD (S.next.getD k 0).toNat (0,0,0)
def So.serve (M:MDat)(d:Nat)(S:So)(t:Int):So:=
 match S.queue with
 | []=>S
 | core::q=>
  let k:=core.toNat
  let o:=opAt M d k S
  let x:=o.2.1 / M.c.line
  let way:=whereF x S.log
  if 0≤way then
   let S1:={ S with queue:=q }
   if o.1=1 then ((S1.told ⟨t,3,core,x,way,true,false,0,0⟩).told ⟨t,4,core,x,way,false,false,o.2.1,o.2.2⟩).done k t o.2.2 0
   else
    let S2:=S1.told ⟨t,3,core,x,way,false,loneF M.c core x t S.log M.c.cores.toNat 0&&decide (o.2.1<M.c.priv),0,0⟩
    S2.done k t (wordF o.2.1 (firstF0 M d o.2.1) S2.log) 0
  else
   let set:=x%M.c.sets
   let way:=chosenF M.c (M.c.ways.count (d:Int)) set S.log
   let y:=liesF M.c set way S.log
   if 0≤y then
    let m:=markedF y S.log
    let S1:=S.told ⟨t,2,0,y,way,false,false,0,0⟩
    if m=true then S1 else S1.told ⟨t,1,0,x,way,false,false,0,0⟩
   else S.told ⟨t,1,0,x,way,false,false,0,0⟩
def So.service (M:MDat)(d:Nat)(S:So)(t:Int):So:=if servesB M.c d t=true then So.serve M d S t else S
def So.begin (M:MDat)(d k:Nat)(S:So)(t:Int):So:=
 let S1:={ S with began:=S.began.set k t }
 let o:=opAt M d k S
 if faultF M.c o≠0 then { S1 with how:=S1.how.set k 2 }
 else
  let x:=o.2.1 / M.c.line
  let s:=stateF M.c k x t false S.log
  if s=0∨(o.1=1∧s=1) then { S1 with how:=S1.how.set k 1,queue:=S1.queue++[(k:Int)] }
  else if o.1=1 then (S1.told ⟨t,4,k,x,0,false,false,o.2.1,o.2.2⟩).done k t o.2.2 0
  else S1.done k t (wordF o.2.1 (firstF0 M d o.2.1) S.log) 0
def So.works (M:MDat)(d k:Nat)(S:So)(t:Int):So:=
 if S.how.getD k 0=2∧t=S.began.getD k 0+2 then S.done k t 0 (faultF M.c (opAt M d k S))
 else if S.how.getD k 0≠0∨t<S.free.getD k 0∨((progF M d k).length:Int)≤S.next.getD k 0∨openB M.c k d t=false then S
 else So.begin M d k S t
def So.worksAll (M:MDat)(d:Nat)(t:Int):Nat→Nat→So→So
 | 0,_,S=>S
 | n+1,j,S=>So.worksAll M d t n (j+1) (So.works M d j S t)
def So.cycle (M:MDat)(d:Nat)(S:So)(t:Int):So:=So.worksAll M d t M.c.cores.toNat 0 (So.service M d S t)
def So.start (n:Nat):So:=⟨[],[],List.replicate n 0,List.replicate n 0,List.replicate n 0,List.replicate n 0,[]⟩
def So.upto (M:MDat)(d:Nat):Nat→So
 | 0=>So.start M.c.cores.toNat
 | t+1=>So.cycle M d (So.upto M d t) t
end Go.Proofs.YtehheaedbnfidaaGreat
namespace Go.Proofs.YtehheaedbnfidaaGreat
open Go.RowKit
def VictimC:Prop:=∀ (n:Int)(sa:Option Addr)(len cap:Nat)(xs:List Int)(w:World),Ints w sa len cap xs→
  Calls Tryz.prog 26 #[.int .i64 n,.slice sa len cap] w fun e w'=>e = .returned (.tuple #[.int .i64 (victimN n xs),.int .i64 (victimE n xs)])∧Below w.heap.size w w'
end Go.Proofs.YtehheaedbnfidaaGreat
