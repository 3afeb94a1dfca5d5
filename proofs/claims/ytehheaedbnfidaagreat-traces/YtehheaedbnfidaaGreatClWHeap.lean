import Derived.Laws.CopyOwn
import Derived.OwnWalk
import Derived.Deep.RegionWith
import Derived.Test.YtehheaedbnfidaaGreatClWBase
set_option maxRecDepth 100000
namespace Go.Proofs.YtehheaedbnfidaaGreat
open Go.RowKit
theorem push_modify {α:Type}(l:Array α)(x:α)(f:α→α):(l.push x).modify l.size f=l.push (f x):=by
 apply Array.ext_getElem?
 intro i
 rw [Array.getElem?_modify,Array.getElem?_push,Array.getElem?_push]
 by_cases h:i=l.size
 · subst h;simp
 · simp [h,Ne.symm h]
theorem alloc_setRow (w:World)(A B:Array Value)(t:TypeId)(fr:Nat × Nat):(w.alloc (.cells A t fr)).setRow w.heap.size B=w.alloc (.cells B t fr):=by
 unfold World.setRow World.alloc
 simp only [push_modify]
theorem alloc_setCell (w:World)(A:Array Value)(t:TypeId)(fr:Nat × Nat)(i:Nat)(v:Value):(w.alloc (.cells A t fr)).setCell ⟨w.heap.size,i,none⟩ v=w.alloc (.cells (A.setIfInBounds i v) t fr):=by
 unfold World.setCell World.alloc
 simp only [push_modify,Option.isSome_none,Bool.false_eq_true,if_false]
theorem alloc_cell (w:World)(A:Array Value)(t:TypeId)(fr:Nat × Nat)(i:Nat):(w.alloc (.cells A t fr)).cell? ⟨w.heap.size,i,none⟩=A[i]? := by
 simp only [World.cell?];rw [heap_alloc_new];simp
theorem alloc_frozen (w:World)(A:Array Value)(t:TypeId)(i:Nat):(w.alloc (.cells A t)).frozen? ⟨w.heap.size,i,none⟩=false:=by
 simp only [World.frozen?];rw [heap_alloc_new];simp
theorem wpList_make_exact {P:Program}(w:World){ops:Array Oper}{rest:List Oper}{o:Oper}{a:Act}{Q:Exit→Act→World→Prop}
  (hg:o.guard=none) (l c:Operand) (t:TypeId) (hop:o.op=Op.makeSlice t l c)
  (e:TypeId) (i:TypeInfo) (z:Value) (h1:P.underlying t=some (.slice e)) (h2:P.info? e=some i) (h3:i.zero=some z)
  (kl kc:IntKind) (L C:Int) (n:Nat) (hl:a.eval l = .int kl L) (hc:a.eval c = .int kc C) (hL:L=(n:Int)) (hC:C=(n:Int)) (b2:i.bytes*n≤281474976710656) (b3:n≤maxLen)
  (hK:wpList P ops Q rest (a.put o.dst (.slice (some ⟨w.heap.size,0,none⟩) n n)) (w.alloc (.cells (madeCells z.cells (n*i.size)) e))) :
  wpList P ops Q (o::rest) a w:=by
 refine wpList_plain hg fun K hK'=>?_
 subst hL
 subst hC
 have h63':(n:Int)≤9223372036854775807:=by
  have h:=b3
  simp [maxLen] at h
  omega
 have hb':(i.bytes:Int)*(n:Int)≤281474976710656:=by
  have h:((i.bytes*n:Nat):Int)≤281474976710656:=by omega
  rwa [Int.natCast_mul] at h
 have hr:=run_make (P:=P) w t e i z h1 h2 h3 kl kc n n (by omega) (Int.le_refl _) hb' h63'
 simp only [Int.toNat_natCast] at hr
 unfold Oper.wp
 simp [execOp,hop,hl,hc,hr,Result.andThen]
 exact hK' _ _ hK
theorem run_copy_new {P:Program}(w0:World)(dT sT oT:TypeId)(elem:TypeId)(hu:P.underlying dT=some (.slice elem))(hsz:(P.info? elem).map (·.size)=some 1)
  (sp:Option Addr) (dLen dCap sLen sCap:Nat)
  (cur:List Value) (t:TypeId) (cs:List Value) (hn:cs.length=Nat.min sLen dLen)
  (hpos:0<cs.length→∃ ad,sp=some ad∧∀ j v,cs[j]? = some v→(w0.alloc (.cells cur.toArray t)).cell? (ad.add j)=some v)
  (hfit:cs.length≤cur.length) (h1:∀ v∈cs,v.oneCell'=true) :
  (Builtin.copy_ #[dT,sT] oT #[.slice (some ⟨w0.heap.size,0,none⟩) dLen dCap,.slice sp sLen sCap]).run P (w0.alloc (.cells cur.toArray t)) = .ok (goInt cs.length) (w0.alloc (.cells (cs++cur.drop cs.length).toArray t)):=by
 by_cases h0:cs.length=0
 ·
  obtain rfl:cs=[]:=List.eq_nil_of_length_eq_zero h0
  rw [run_copy_none (P:=P) _ dT sT oT elem _ sp dLen dCap sLen sCap hu hsz (by simpa using hn.symm)]
  simp
 ·
  obtain ⟨ad,rfl,hsrc⟩:=hpos (by omega)
  rw [run_copy_row (P:=P) _ dT sT oT elem w0.heap.size 0 dLen dCap ad sLen sCap cur.toArray t cs hu hsz (heap_alloc_new w0 _) hn hsrc (by simpa using hfit) h1,alloc_setRow]
  simp
set_option maxHeartbeats 400000 in
theorem within_any (n lo hi:Int)(w:World) :
  Calls Tryz.prog 117 #[.int .i64 n,.int .i64 lo,.int .i64 hi] w fun e w'=>e = .returned (.bool (withinB n lo hi))∧w'=w:=by
 by_cases h:lo≤n
 ·
  go_enter Tryz.func117,Tryz.ntmps117
  go_wp2
  go_ret
  exact ⟨ret_bool (by simp [withinB,h]),rfl⟩
 ·
  go_enter Tryz.func117,Tryz.ntmps117
  go_wp2
  go_ret
  exact ⟨ret_bool (by simp [withinB];omega),rfl⟩
set_option maxHeartbeats 400000 in
theorem small_any (n:Int)(w:World) :
  Calls Tryz.prog 140 #[.int .i64 n] w fun e w'=>e = .returned (.bool (smallB n))∧w'=w:=by
 by_cases h:(n==1)=true
 ·
  go_enter Tryz.func140,Tryz.ntmps140
  go_wp2
  go_ret
  exact ⟨ret_bool (by simp [smallB,h]),rfl⟩
 ·
  have h':(n==1)=false:=by simpa using h
  clear h
  by_cases h2:(n==2)=true
  ·
   go_enter Tryz.func140,Tryz.ntmps140
   go_wp2
   go_ret
   exact ⟨ret_bool (by simp [smallB,h',h2]),rfl⟩
  ·
   have h2':(n==2)=false:=by simpa using h2
   clear h2
   go_enter Tryz.func140,Tryz.ntmps140
   go_wp2
   go_ret
   exact ⟨ret_bool (by simp [smallB,h',h2']),rfl⟩
set_option maxHeartbeats 400000 in
theorem count_any (sa:Option Addr)(len cap:Nat)(xs:List Int)(x:Int)(w:World)(h:Ints w sa len cap xs) :
  Calls Tryz.prog 118 #[.slice sa len cap,.int .i64 x] w fun e w'=>e = .returned (.int .i64 (xs.count x))∧w'=w:=by
 have hle:=h.hle
 have hm:=h.hmax
 unfold maxLen at hm
 go_enter Tryz.func118,Tryz.ntmps118
 go_wp2
 go_loop [5,6] (fun n i=>∃ k:Nat,k≤len∧i = .int .i64 k∧n = .int .i64 ((xs.take k).count x:Nat)) (fun _ i=>len-(intOf i).toNat)
 case atStart=>exact ⟨0,Nat.zero_le _,rfl,rfl⟩
 case round=>
  obtain ⟨k,hk,rfl,rfl⟩:=hrel
  have hcl:=count_le x xs k
  by_cases hlt:k<len
  ·
   obtain ⟨b,off,rfl,hc⟩:=h.hat k hlt
   have HS:Hid _:=count_snoc x xs k (by rw [h.hlen];exact hlt)
   go_wp2
   all_goals
    go_round
    case rel=>
     refine ⟨k+1,by omega,by go_num,?_⟩
     rw [HS.out]
     simp [*]
    case measure=>simp [intOf];omega
  ·
   go_wp2
   go_ret
   exact ⟨ret_int (by rw [List.take_of_length_le (by rw [h.hlen];omega)]),rfl⟩
set_option maxHeartbeats 400000 in
theorem list_any (sa:Option Addr)(len cap:Nat)(xs:List Int)(most lo hi:Int)(w:World)(h:Ints w sa len cap xs) :
  Calls Tryz.prog 142 #[.slice sa len cap,.int .i64 most,.int .i64 lo,.int .i64 hi] w fun e w'=>e = .returned (.bool (listB xs most lo hi))∧w'=w:=by
 have hle:=h.hle
 have hm:=h.hmax
 unfold maxLen at hm
 have hl:=h.hlen
 by_cases hin:withinB len 1 most=true
 ·
  have hin':=(within_iff _ _ _).1 hin
  have HL:Hid (xs.length=len):=hl
  clear hl
  go_enter Tryz.func142,Tryz.ntmps142
  go_wp2_with (go_at_call 117;refine (within_any _ _ _ _).mono ?_;rintro e w' ⟨rfl,rfl⟩)
  go_loop [9] (fun i=>∃ k:Nat,k≤len∧i = .int .i64 k∧(xs.take k).all (fun x=>withinB x lo hi)=true) (fun i=>len-(intOf i).toNat)
  case atStart=>exact ⟨0,Nat.zero_le _,rfl,rfl⟩
  case round=>
   obtain ⟨k,hk,rfl,hall⟩:=hrel
   have HA:Hid _:=hall
   clear hall
   by_cases hlt:k<len
   ·
    obtain ⟨b,off,rfl,hc⟩:=h.hat k hlt
    have HS:Hid _:=all_snoc (fun x=>withinB x lo hi) xs 0 k (by rw [h.hlen];exact hlt)
    by_cases hx:withinB (xs[k]?.getD 0) lo hi=true
    ·
     go_wp2_with (go_at_call 117;refine (within_any _ _ _ _).mono ?_;rintro e w' ⟨rfl,rfl⟩)
     go_round
     case rel=>exact ⟨k+1,by omega,by go_num,by rw [HS.out,HA.out];simpa using hx⟩
     case measure=>simp [intOf];omega
    ·
     have hx':withinB (xs[k]?.getD 0) lo hi=false:=by simpa using hx
     clear hx
     go_wp2_with (go_at_call 117;refine (within_any _ _ _ _).mono ?_;rintro e w' ⟨rfl,rfl⟩)
     go_ret
     exact ⟨ret_bool (by simp [listB,all_false_of (fun x=>withinB x lo hi) xs 0 k (by rw [h.hlen];exact hlt) (by simpa using hx')]),rfl⟩
   ·
    go_wp2
    go_ret
    refine ⟨ret_bool ?_,rfl⟩
    have:=HA.out
    rw [List.take_of_length_le (by rw [h.hlen];omega)] at this
    have e:=HL.out
    simp only [listB,this,e]
    simp
    omega
 ·
  have hin':withinB len 1 most=false:=by simpa using hin
  clear hin
  go_enter Tryz.func142,Tryz.ntmps142
  go_wp2_with (go_at_call 117;refine (within_any _ _ _ _).mono ?_;rintro e w' ⟨rfl,rfl⟩)
  go_ret
  refine ⟨ret_bool ?_,rfl⟩
  have:=(within_not _ _ _).1 hin'
  have:¬(1≤(xs.length:Int)∧(xs.length:Int)≤most):=by rw [h.hlen];omega
  simp only [listB]
  have e:(decide (1≤(xs.length:Int))&&decide ((xs.length:Int)≤most))=false:=by
   rw [← Bool.decide_and];simpa using this
  rw [e];rfl
set_option maxHeartbeats 400000 in
theorem words_any (c:Cf)(s:Sl)(w:World) :
  Calls Tryz.prog 141 #[cfgV c s] w fun e w'=>e = .returned (.bool (wordsB c))∧Below w.heap.size w w':=by
 rcases Bool.eq_false_or_eq_true (smallB c.line) with hl|hl
 ·
  have hl':=(small_iff _).1 hl
  rcases Bool.eq_false_or_eq_true (withinB c.priv c.line 64) with hp|hp
  ·
   have hp':=(within_iff _ _ _).1 hp
   rcases Bool.eq_false_or_eq_true (withinB c.shared 0 32) with hs|hs
   ·
    have hs':=(within_iff _ _ _).1 hs
    have h0:¬c.line=0:=by omega
    have h00:0<c.line:=by omega
    have h01:0≤c.priv:=by omega
    clear hl'
    rcases Bool.eq_false_or_eq_true (c.priv%c.line==0) with hq|hq
    ·
     go_enter Tryz.func141,Tryz.ntmps141
     go_wp2_with (first | (go_at_call 117;refine (within_any _ _ _ _).mono ?_;rintro e w' ⟨rfl,rfl⟩) | (go_at_call 140;refine (small_any _ _).mono ?_;rintro e w' ⟨rfl,rfl⟩))
     go_ret
     exact ⟨ret_bool (by simp [wordsB,hl,hp,hs,hq]),(Below.refl _ _).alloc (Nat.le_refl _) _⟩
    ·
     go_enter Tryz.func141,Tryz.ntmps141
     go_wp2_with (first | (go_at_call 117;refine (within_any _ _ _ _).mono ?_;rintro e w' ⟨rfl,rfl⟩) | (go_at_call 140;refine (small_any _ _).mono ?_;rintro e w' ⟨rfl,rfl⟩))
     go_ret
     exact ⟨ret_bool (by simp [wordsB,hl,hp,hs,hq]),(Below.refl _ _).alloc (Nat.le_refl _) _⟩
   ·
    go_enter Tryz.func141,Tryz.ntmps141
    go_wp2_with (first | (go_at_call 117;refine (within_any _ _ _ _).mono ?_;rintro e w' ⟨rfl,rfl⟩) | (go_at_call 140;refine (small_any _ _).mono ?_;rintro e w' ⟨rfl,rfl⟩))
    go_ret
    exact ⟨ret_bool (by simp [wordsB,hl,hp,hs]),(Below.refl _ _).alloc (Nat.le_refl _) _⟩
  ·
   go_enter Tryz.func141,Tryz.ntmps141
   go_wp2_with (first | (go_at_call 117;refine (within_any _ _ _ _).mono ?_;rintro e w' ⟨rfl,rfl⟩) | (go_at_call 140;refine (small_any _ _).mono ?_;rintro e w' ⟨rfl,rfl⟩))
   go_ret
   exact ⟨ret_bool (by simp [wordsB,hl,hp]),(Below.refl _ _).alloc (Nat.le_refl _) _⟩
 ·
  go_enter Tryz.func141,Tryz.ntmps141
  go_wp2_with (first | (go_at_call 117;refine (within_any _ _ _ _).mono ?_;rintro e w' ⟨rfl,rfl⟩) | (go_at_call 140;refine (small_any _ _).mono ?_;rintro e w' ⟨rfl,rfl⟩))
  go_ret
  exact ⟨ret_bool (by simp [wordsB,hl]),(Below.refl _ _).alloc (Nat.le_refl _) _⟩
set_option maxHeartbeats 400000 in
theorem shape_any (c:Cf)(s:Sl)(w:World) :
  Calls Tryz.prog 112 #[cfgV c s] w fun e w'=>e = .returned (.bool (shapeB c))∧Below w.heap.size w w':=by
 go_enter Tryz.func112,Tryz.ntmps112
 go_wp2_with (first | (go_at_call 117;refine (within_any _ _ _ _).mono ?_;rintro e w' ⟨rfl,rfl⟩) | (go_at_call 140;refine (small_any _ _).mono ?_;rintro e w' ⟨rfl,rfl⟩) | (go_at_call 141;refine (words_any _ s _).mono ?_;rintro e w' ⟨rfl,hb⟩))
 all_goals go_ret
 all_goals refine ⟨ret_bool ?_,?_⟩
 all_goals first
  | exact (Below.refl _ _).alloc (Nat.le_refl _) _
  | exact ((Below.refl _ _).alloc (Nat.le_refl _) _).trans (hb.mono (by simp))
  | (go_light;simp_all [shapeB])
set_option maxHeartbeats 400000 in
theorem ways_any (c:Cf)(s:Sl)(w:World)(h:CfgAt w c s)(hd1:1≤c.domains)(hd2:c.domains≤4) :
  Calls Tryz.prog 113 #[cfgV c s] w fun e w'=>e = .returned (.bool (waysB c))∧Below w.heap.size w w':=by
 have hl:=(h.ways.alloc (.cells (cfgA c s) 43))
 rcases Bool.eq_false_or_eq_true (listB c.ways 8 0 (c.domains-1)) with ht|ht
 ·
  go_enter Tryz.func113,Tryz.ntmps113
  go_wp2_with (go_at_call 142;refine (list_any _ _ _ c.ways _ _ _ _ hl).mono ?_;rintro e w' ⟨rfl,rfl⟩)
  go_loop [3] (fun i=>∃ k:Nat,(k:Int)≤c.domains∧i = .int .i64 k∧allUpto (fun d=>smallB (c.ways.count d)) k=true) (fun i=>c.domains.toNat-(intOf i).toNat)
  case atStart=>exact ⟨0,by omega,rfl,rfl⟩
  case round=>
   obtain ⟨k,hk,rfl,hall⟩:=hrel
   have HA:Hid _:=hall
   clear hall
   by_cases hlt:(k:Int)<c.domains
   ·
    rcases Bool.eq_false_or_eq_true (smallB (c.ways.count (k:Int))) with hx | hx
    ·
     go_wp2_with (first | (go_at_call 118;refine (count_any _ _ _ c.ways _ _ hl).mono ?_;rintro e w' ⟨rfl,rfl⟩) | (go_at_call 140;refine (small_any _ _).mono ?_;rintro e w' ⟨rfl,rfl⟩))
     go_round
     case rel=>exact ⟨k+1,by omega,by go_num,by simp [allUpto,HA.out,hx]⟩
     case measure=>simp [intOf];omega
    ·
     go_wp2_with (first | (go_at_call 118;refine (count_any _ _ _ c.ways _ _ hl).mono ?_;rintro e w' ⟨rfl,rfl⟩) | (go_at_call 140;refine (small_any _ _).mono ?_;rintro e w' ⟨rfl,rfl⟩))
     go_ret
     exact ⟨ret_bool (by simp [waysB,allUpto_false (fun d=>smallB (c.ways.count d)) k hx c.domains.toNat (by omega)]),(Below.refl _ _).alloc (Nat.le_refl _) _⟩
   ·
    go_wp2
    go_ret
    have e:k=c.domains.toNat:=by omega
    have:=HA.out
    rw [e] at this
    exact ⟨ret_bool (by simp [waysB,ht,this]),(Below.refl _ _).alloc (Nat.le_refl _) _⟩
 ·
  go_enter Tryz.func113,Tryz.ntmps113
  go_wp2_with (go_at_call 142;refine (list_any _ _ _ c.ways _ _ _ _ hl).mono ?_;rintro e w' ⟨rfl,rfl⟩)
  go_ret
  exact ⟨ret_bool (by simp [waysB,ht]),(Below.refl _ _).alloc (Nat.le_refl _) _⟩
set_option maxHeartbeats 400000 in
theorem slots_any (c:Cf)(s:Sl)(w:World)(h:CfgAt w c s)(hd1:1≤c.domains)(hd2:c.domains≤4) :
  Calls Tryz.prog 114 #[cfgV c s] w fun e w'=>e = .returned (.bool (slotsB c))∧Below w.heap.size w w':=by
 have hl:=(h.slots.alloc (.cells (cfgA c s) 43))
 rcases Bool.eq_false_or_eq_true (withinB c.slot 1 4) with hs|hs
 ·
  rcases Bool.eq_false_or_eq_true (listB c.slots 8 0 (c.domains-1)) with ht | ht
  ·
   go_enter Tryz.func114,Tryz.ntmps114
   go_wp2_with (first | (go_at_call 117;refine (within_any _ _ _ _).mono ?_;rintro e w' ⟨rfl,rfl⟩) | (go_at_call 142;refine (list_any _ _ _ c.slots _ _ _ _ hl).mono ?_;rintro e w' ⟨rfl,rfl⟩))
   go_loop [3] (fun i=>∃ k:Nat,(k:Int)≤c.domains∧i = .int .i64 k∧allUpto (fun d=>!((c.slots.count d:Int)==0)) k=true) (fun i=>c.domains.toNat-(intOf i).toNat)
   case atStart=>exact ⟨0,by omega,rfl,rfl⟩
   case round=>
    obtain ⟨k,hk,rfl,hall⟩:=hrel
    have HA:Hid _:=hall
    clear hall
    by_cases hlt:(k:Int)<c.domains
    ·
     rcases Bool.eq_false_or_eq_true ((c.slots.count (k:Int):Int)==0) with hx | hx
     ·
      go_wp2_with (go_at_call 118;refine (count_any _ _ _ c.slots _ _ hl).mono ?_;rintro e w' ⟨rfl,rfl⟩)
      go_ret
      exact ⟨ret_bool (by simp [slotsB,allUpto_false (fun d=>!((c.slots.count d:Int)==0)) k (by simpa using hx) c.domains.toNat (by omega)]),(Below.refl _ _).alloc (Nat.le_refl _) _⟩
     ·
      go_wp2_with (go_at_call 118;refine (count_any _ _ _ c.slots _ _ hl).mono ?_;rintro e w' ⟨rfl,rfl⟩)
      go_round
      case rel=>exact ⟨k+1,by omega,by go_num,by simp only [allUpto,HA.out,hx];rfl⟩
      case measure=>simp [intOf];omega
    ·
     go_wp2
     go_ret
     have e:k=c.domains.toNat:=by omega
     have:=HA.out
     rw [e] at this
     exact ⟨ret_bool (by simp only [slotsB,hs,ht,this];rfl),(Below.refl _ _).alloc (Nat.le_refl _) _⟩
  ·
   go_enter Tryz.func114,Tryz.ntmps114
   go_wp2_with (first | (go_at_call 117;refine (within_any _ _ _ _).mono ?_;rintro e w' ⟨rfl,rfl⟩) | (go_at_call 142;refine (list_any _ _ _ c.slots _ _ _ _ hl).mono ?_;rintro e w' ⟨rfl,rfl⟩))
   go_ret
   exact ⟨ret_bool (by simp [slotsB,ht]),(Below.refl _ _).alloc (Nat.le_refl _) _⟩
 ·
  go_enter Tryz.func114,Tryz.ntmps114
  go_wp2_with (go_at_call 117;refine (within_any _ _ _ _).mono ?_;rintro e w' ⟨rfl,rfl⟩)
  go_ret
  exact ⟨ret_bool (by simp [slotsB,hs]),(Below.refl _ _).alloc (Nat.le_refl _) _⟩
set_option maxHeartbeats 400000 in
theorem worst_any (c:Cf)(s:Sl)(w:World)(h:CfgAt w c s)(h1:1≤c.cores)(h2:c.cores≤3)(h3:1≤c.slot)(h4:c.slot≤4)(h5:c.slots.length≤8) :
  Calls Tryz.prog 76 #[cfgV c s] w fun e w'=>e = .returned (.int .i64 (worstZ c))∧Below w.heap.size w w':=by
 have hl:=h.slots.hlen
 have b1:(3*c.cores)*(s.sl:Int)≤72∧0≤(3*c.cores)*(s.sl:Int):=by
  constructor
  ·
   have:(3*c.cores)*(s.sl:Int)≤9*8:=Int.mul_le_mul (by omega) (by omega) (by omega) (by omega)
   omega
  · exact Int.mul_nonneg (by omega) (by omega)
 obtain ⟨b2,b3⟩:=b1
 have b4:(3*c.cores)*(s.sl:Int)*c.slot≤288:=by
  have:(3*c.cores)*(s.sl:Int)*c.slot≤72*4:=Int.mul_le_mul (by omega) (by omega) (by omega) (by omega)
  omega
 have b5:0≤(3*c.cores)*(s.sl:Int)*c.slot:=Int.mul_nonneg (by omega) (by omega)
 have HE:Hid (worstZ c=3*c.cores*s.sl*c.slot):=by unfold worstZ Hid;rw [hl]
 clear hl
 go_enter Tryz.func76,Tryz.ntmps76
 go_wp2
 go_ret
 exact ⟨ret_int (by rw [HE.out]),(Below.refl _ _).alloc (Nat.le_refl _) _⟩
theorem wrap_sub1 {d:Int}(h1:1≤d)(h2:d≤4):IntKind.i64.wrap (d-1)=d-1:=by
 have:d=1∨d=2∨d=3∨d=4:=by omega
 rcases this with rfl|rfl|rfl|rfl <;> rfl
set_option maxHeartbeats 400000 in
theorem turns_any (c:Cf)(s:Sl)(w:World)(h:CfgAt w c s)(hd1:1≤c.domains)(hd2:c.domains≤4) :
  Calls Tryz.prog 115 #[cfgV c s] w fun e w'=>e = .returned (.bool (turnsB c))∧Below w.heap.size w w':=by
 obtain ⟨wa,wl,wc,sa,sl,sc,ta,tl,tc⟩:=s
 have hg:Grid (w.alloc (.cells (cfgA c ⟨wa,wl,wc,sa,sl,sc,ta,tl,tc⟩) 43)) ta tl tc c.turns:=h.turns.alloc (.cells (cfgA c ⟨wa,wl,wc,sa,sl,sc,ta,tl,tc⟩) 43)
 have hlen:=hg.hlen
 have hle:=hg.hle
 have hm:=hg.hmax
 unfold maxLen at hm
 have HL:Hid (c.turns.length=tl):=hlen
 clear hlen
 rcases Bool.eq_false_or_eq_true ((tl:Int) != c.cores) with hn|hn
 ·
  go_enter Tryz.func115,Tryz.ntmps115
  go_wp2
  go_ret
  exact ⟨ret_bool (by simp only [turnsB,HL.out];simp at hn;simp [hn]),(Below.refl _ _).alloc (Nat.le_refl _) _⟩
 ·
  go_enter Tryz.func115,Tryz.ntmps115
  go_wp2
  go_loopw [3] (fun i w'=>∃ k n:Nat,k≤tl∧i = .int .i64 k∧(c.turns.take k).all (fun l=>listB l 4 (-1) (c.domains-1))=true∧w'=(w.alloc (.cells (cfgA c ⟨wa,wl,wc,sa,sl,sc,ta,tl,tc⟩) 43)).drewN n) (fun i _=>tl-(intOf i).toNat)
  case atStart=>exact ⟨0,0,by omega,rfl,rfl,rfl⟩
  case round=>
   obtain ⟨k,n,hk,rfl,hall,hwr⟩:=hrel
   have HA:Hid _:=hall
   clear hall
   have HW:Hid _:=hwr
   have c10:wr.cell? ⟨w.heap.size,10,none⟩=some (.slice ta tl tc):=by rw [hwr];simp
   have c1:wr.cell? ⟨w.heap.size,1,none⟩=some (.int .i64 c.domains):=by rw [hwr];simp
   have hgr:Grid wr ta tl tc c.turns:=by rw [hwr];exact hg.drewN n
   clear hwr
   by_cases hlt:k<tl
   ·
    obtain ⟨b,off,ia,il,ic,rfl,hc,hi⟩:=hgr.hat k hlt
    have HS:Hid _:=all_snoc (fun l=>listB l 4 (-1) (c.domains-1)) c.turns [] k (by rw [HL.out];exact hlt)
    have hrow:=all_false_of (fun l=>listB l 4 (-1) (c.domains-1)) c.turns [] k (by rw [HL.out];exact hlt)
    have HR:Hid _:=hrow
    clear hrow
    generalize c.turns.getD k []=row at *
    rcases Bool.eq_false_or_eq_true (listB row 4 (-1) (c.domains-1)) with hx|hx
    ·
     have HX:Hid _:=hx
     clear hx
     go_wp2
     go_quiet ((go_at_call 142;rw [wrap_sub1 hd1 hd2];exact Calls.quiet_of_same (list_any _ _ _ row _ _ _ _ (hi.drewN _))))
     rw [HX.out]
     go_wp2
     go_roundw
     case rel=>exact ⟨k+1,n+nq,by omega,by go_num,by rw [HS.out,HA.out,HX.out];rfl,by rw [HW.out,World.drewN_drewN]⟩
     case measure=>simp [intOf];omega
    ·
     have HX:Hid _:=hx
     clear hx
     go_wp2
     go_quiet ((go_at_call 142;rw [wrap_sub1 hd1 hd2];exact Calls.quiet_of_same (list_any _ _ _ row _ _ _ _ (hi.drewN _))))
     rw [HX.out]
     go_wp2
     go_ret
     refine ⟨ret_bool ?_,?_⟩
     · simp [turnsB,HR.out HX.out]
     · rw [HW.out];exact below_drewN (below_drewN ((Below.refl _ _).alloc (Nat.le_refl _) _) _) _
   ·
    go_wp2
    go_ret
    refine ⟨ret_bool ?_,by rw [HW.out];exact below_drewN ((Below.refl _ _).alloc (Nat.le_refl _) _) _⟩
    have e:=HL.out
    have:=HA.out
    rw [List.take_of_length_le (by rw [e];omega)] at this
    simp at hn
    simp only [turnsB,this,e,hn]
    simp
set_option maxHeartbeats 800000 in
theorem quantum_any (c:Cf)(s:Sl)(w:World)(h:CfgAt w c s)(h1:1≤c.cores)(h2:c.cores≤3)(h3:1≤c.slot)(h4:c.slot≤4)(h5:c.slots.length≤8)(h6:1≤c.near) :
  Calls Tryz.prog 116 #[cfgV c s] w fun e w'=>e = .returned (.bool (quantumB c))∧Below w.heap.size w w':=by
 obtain ⟨b1,b2⟩:=worst_bd h1 h2 h3 h4 h5
 rcases Bool.eq_false_or_eq_true (withinB c.flush c.near 16) with hf|hf
 ·
  have hf':=(within_iff _ _ _).1 hf
  have h7:1≤c.flush:=by omega
  have h8:c.flush≤16:=by omega
  clear hf'
  go_enter Tryz.func116,Tryz.ntmps116
  go_wp2_with (go_at_call 117;refine (within_any _ _ _ _).mono ?_;rintro e w' ⟨rfl,rfl⟩)
  go_region_with (go_at_call 76;refine (worst_any c s _ (by exact (h.alloc _).drew) h1 h2 h3 h4 h5).mono ?_;rintro e w1 ⟨rfl,hb⟩;obtain ⟨hc,hfz,hz⟩:=bcellN (w.heap.size+1) hb (by simp))
  all_goals go_wp2_with (go_at_call 117;refine (within_any _ _ _ _).mono ?_;rintro e w' ⟨rfl,rfl⟩)
  all_goals go_ret
  all_goals exact ⟨ret_bool (by simp [quantumB,hf]),(((Below.refl _ _).alloc (Nat.le_refl _) _).drew).trans (hb.mono (by simp))⟩
 ·
  go_enter Tryz.func116,Tryz.ntmps116
  go_wp2_with (go_at_call 117;refine (within_any _ _ _ _).mono ?_;rintro e w' ⟨rfl,rfl⟩)
  go_ret
  exact ⟨ret_bool (by simp [quantumB,hf]),(Below.refl _ _).alloc (Nat.le_refl _) _⟩
end Go.Proofs.YtehheaedbnfidaaGreat
namespace Go.Proofs.YtehheaedbnfidaaGreat
structure Cp where
 dom:Int
 line:Int
 st:Int
structure Bk where
 line:Int
 mkd:Bool
 wd:Nat→Int
structure Wk where
 busy:Bool
 dom:Int
 issue:Int
structure Mh where
 now:Int
 own:Nat→Nat→Int
 sh:Nat→Int
 nr:Nat→Nat→Cp
 ops:Nat→Nat→List OpT
 dn:Nat→Nat→Nat
 blk:Nat→Nat→Nat→Bk
 tch:Nat→Nat→List Int
 wt:Nat→List Int
 tr:Nat→List Ev
 wk:Nat→Wk
def cpE:Cp:=⟨-1,-1,0⟩
def bkE:Bk:=⟨-1,false,fun _=>0⟩
def up1 {α:Type}(f:Nat→α)(i:Nat)(v:α):Nat→α:=fun j=>if j=i then v else f j
def up2 {α:Type}(f:Nat→Nat→α)(i j:Nat)(v:α):Nat→Nat→α:=fun a b=>if a=i∧b=j then v else f a b
def up3 {α:Type}(f:Nat→Nat→Nat→α)(i j k:Nat)(v:α):Nat→Nat→Nat→α:=fun a b c=>if a=i∧b=j∧c=k then v else f a b c
def stateN (nn:Nat)(nr:Nat→Nat→Cp)(k:Nat)(d:Int)(x:Nat):Int:=
 if (nr k (x%nn)).dom=d∧(nr k (x%nn)).line=x then (nr k (x%nn)).st else 0
def putN (nn:Nat)(nr:Nat→Nat→Cp)(k:Nat)(d:Int)(x:Nat)(s:Int):Nat→Nat→Cp:=up2 nr k (x%nn) ⟨d,x,s⟩
def dropN (nn:Nat)(nr:Nat→Nat→Cp)(k:Nat)(d:Int)(x:Nat):Nat→Nat→Cp:=
 if stateN nn nr k d x=0 then nr else up2 nr k (x%nn) cpE
def dropAllN (p:Nat→Bool)(nn:Nat)(nr:Nat→Nat→Cp)(d:Int)(x:Nat):Nat→Nat→Cp:=
 fun k j=>if p k=true∧j=x%nn∧stateN nn nr k d x≠0 then cpE else nr k j
def shareAllN (p:Nat→Bool)(nn:Nat)(nr:Nat→Nat→Cp)(d:Int)(x:Nat):Nat→Nat→Cp:=
 fun k j=>if p k=true∧j=x%nn∧stateN nn nr k d x≠0 then ⟨d,x,1⟩ else nr k j
def foundN (nn:Nat)(nr:Nat→Nat→Cp)(core:Nat)(d:Int)(x:Nat):Nat→Bool
 | 0=>false
 | n+1=>foundN nn nr core d x n || (decide (n≠core)&&decide (stateN nn nr n d x≠0))
def firstW (p:Nat→Bool):Nat→Nat→Int
 | 0,_=>-1
 | n+1,j=>if p j=true then j else firstW p n (j+1)
def wayF (b:Nat→Bk)(n:Nat)(x:Int):Int:=firstW (fun j=>decide ((b j).line=x)) n 0
def roomF (b:Nat→Bk)(n:Nat)(tc:List Int):Int:=if wayF b n (-1)=-1 then victimZ n tc else wayF b n (-1)
def without (way:Int)(tc:List Int):List Int:=tc.filter (fun e=>decide (e≠way))
def touchF (tc:List Int)(way:Int):List Int:=without way tc++[way]
def wordM (pv sn:Nat)(own:Nat→Int)(sh:Nat→Int)(a:Nat):Int:=if a<pv then own a else if a-pv<sn then sh (a-pv) else 0
def readM (pv sn ln:Nat)(own:Nat→Int)(sh:Nat→Int)(x:Nat):Nat→Int:=fun i=>if i<ln∧i<4 then wordM pv sn own sh (x*ln+i) else 0
def writeM (pv ln:Nat)(own:Nat→Int)(x:Nat)(wd:Nat→Int):Nat→Int:=fun a=>if x*ln≤a∧a<x*ln+ln∧a<x*ln+4∧a<pv then wd (a-x*ln) else own a
structure Cn where
 c:Cf
 nc:Nat
 nd:Nat
 nn:Nat
 ns:Nat
 ln:Nat
 pv:Nat
 sn:Nat
 wn:Nat→Nat
def cnOf (c:Cf):Cn:=⟨c,c.cores.toNat,c.domains.toNat,c.near.toNat,c.sets.toNat,c.line.toNat,c.priv.toNat,c.shared.toNat,fun d=>c.ways.count (d:Int)⟩
def Mh.next (m:Mh)(d k:Nat):Option OpT:=(m.ops d k)[m.dn d k]?
def Mh.finish (m:Mh)(k:Nat)(v f:Int):Mh:=
 let d:=(m.wk k).dom.toNat
 { m with tr:=up1 m.tr d (m.tr d++[⟨k,m.dn d k,v,f,(m.wk k).issue,m.now⟩]),dn:=up2 m.dn d k (m.dn d k+1),wk:=up1 m.wk k ⟨false,(m.wk k).dom,(m.wk k).issue⟩ }
def Mh.valueOf (N:Cn)(m:Mh)(d:Nat)(o:OpT):Int:=
 let x:=(o.2.1 / N.ln).toNat
 let way:=wayF (m.blk d (x%N.ns)) (N.wn d) x
 if o.1=0 then (if way<0 then 0 else (m.blk d (x%N.ns) way.toNat).wd (o.2.1.toNat-x*N.ln)) else o.2.2
def Mh.perform (N:Cn)(m:Mh)(d:Nat)(o:OpT):Mh:=
 let x:=(o.2.1 / N.ln).toNat
 let way:=wayF (m.blk d (x%N.ns)) (N.wn d) x
 if way<0∨o.1=0 then m
 else
  let b:=m.blk d (x%N.ns) way.toNat
  { m with blk:=up3 m.blk d (x%N.ns) way.toNat ⟨b.line,true,up1 b.wd (o.2.1.toNat-x*N.ln) o.2.2⟩ }
def Mh.begin (N:Cn)(m:Mh)(d k:Nat)(o:OpT):Mh:=
 let m1:={ m with wk:=up1 m.wk k ⟨true,d,m.now⟩ }
 if faultF N.c o≠0 then m1
 else
  let x:=(o.2.1 / N.ln).toNat
  let s:=stateN N.nn m.nr k d x
  if (o.1=0∧s=0)∨(o.1≠0∧s≠2∧s≠3) then { m1 with wt:=up1 m.wt d (m.wt d++[(k:Int)]) }
  else
   let m2:=if o.1=1 then { m1 with nr:=putN N.nn m.nr k d x 3 } else m1
   (m2.perform N d o).finish k (m2.valueOf N d o) 0
def Mh.endFault (N:Cn)(m:Mh)(k:Nat):Mh:=
 match m.next (m.wk k).dom.toNat k with
 | none=>m
 | some o=>if faultF N.c o≠0∧(m.wk k).issue+2≤m.now then m.finish k 0 (faultF N.c o) else m
def Mh.step (N:Cn)(m:Mh)(served:Int)(k:Nat):Mh:=
 if (m.wk k).busy=true then m.endFault N k
 else if (k:Int)=served then m
 else if openB N.c k (turnZ N.c k m.now) m.now=false then m
 else match m.next (turnZ N.c k m.now).toNat k with
  | none=>m
  | some o=>m.begin N (turnZ N.c k m.now).toNat k o
def Mh.hand (N:Cn)(m:Mh)(d k:Nat)(o:OpT):Mh:=
 let x:=(o.2.1 / N.ln).toNat
 if o.1=1 then { m with nr:=putN N.nn (dropAllN (fun j=>decide (j<N.nc∧j≠k)) N.nn m.nr d x) k d x 3 }
 else { m with nr:=putN N.nn (shareAllN (fun j=>decide (j<N.nc∧j≠k)) N.nn m.nr d x) k d x (if foundN N.nn m.nr k d x N.nc=true∨N.c.priv≤o.2.1 then 1 else 2) }
def Mh.fetch (N:Cn)(m:Mh)(d x:Nat):Mh:=
 let s:=x%N.ns
 let r:=(roomF (m.blk d s) (N.wn d) (m.tch d s)).toNat
 let old:=m.blk d s r
 let m1:=if old.line=-1 then m else { m with nr:=dropAllN (fun j=>decide (j<N.nc)) N.nn m.nr d old.line.toNat }
 if old.mkd=true then { m1 with own:=up1 m.own d (writeM N.pv N.ln (m.own d) old.line.toNat old.wd),blk:=up3 m.blk d s r bkE }
 else { m1 with blk:=up3 m.blk d s r ⟨x,false,readM N.pv N.sn N.ln (m.own d) m.sh x⟩ }
def Mh.serve (N:Cn)(m:Mh)(d:Nat):Mh × Int:=
 match m.wt d with
 | []=>(m,-1)
 | core::q=>
  let k:=core.toNat
  match m.next d k with
  | none=>(m,-1)
  | some o=>
   let x:=(o.2.1 / N.ln).toNat
   let s:=x%N.ns
   let way:=wayF (m.blk d s) (N.wn d) x
   if way=-1 then (m.fetch N d x,-1)
   else
    let m1:={ m with wt:=up1 m.wt d q,tch:=up2 m.tch d s (touchF (m.tch d s) way) }
    let m2:=m1.hand N d k o
    ((m2.perform N d o).finish k (m2.valueOf N d o) 0,core)
def servedF (c:Cf)(t:Int):Int:=if t%c.slot=c.slot-1 then c.slots.getD (t / c.slot%c.slots.length).toNat 0 else -1
def Mh.service (N:Cn)(m:Mh):Mh × Int:=if servedF N.c m.now<0 then (m,-1) else m.serve N (servedF N.c m.now).toNat
def flushesB (c:Cf)(t:Int):Bool:=decide (t%c.quantum=c.quantum-c.flush)
def Mh.steps (N:Cn)(served:Int):Nat→Mh→Mh
 | 0,m=>m
 | n+1,m=>(Mh.steps N served n m).step N served n
def Mh.cycle (N:Cn)(m:Mh):Mh:=
 let m0:=if flushesB N.c m.now=true then { m with nr:=fun _ _=>cpE } else m
 Mh.steps N (m0.service N).2 N.nc (m0.service N).1
def Mh.runs (N:Cn):Nat→Mh→Mh
 | 0,m=>m
 | n+1,m=>let m1:=(Mh.runs N n m).cycle N;{ m1 with now:=m1.now+1 }
theorem latest_push (l:List Int)(w lo hi:Int):latestZ (l++[w]) lo hi=if lo≤w∧w<hi then w else latestZ l lo hi:=by
 unfold latestZ
 rw [List.reverse_append]
 show ((w::l.reverse).find? _).getD (-1)=_
 rw [List.find?_cons]
 by_cases h:lo≤w∧w<hi
 · rw [if_pos h];simp [h]
 ·
  rw [if_neg h]
  have:(decide (lo≤w)&&decide (w<hi))=false:=by simp;omega
  rw [this]
theorem find_without (l:List Int)(w lo hi:Int)(hw:¬(lo≤w∧w<hi)):latestZ (without w l) lo hi=latestZ l lo hi:=by
 unfold latestZ without
 congr 1
 rw [← List.filter_reverse]
 induction l.reverse with
 | nil=>rfl
 | cons x xs ih=>
  by_cases e:x=w
  ·
   subst e
   have:(decide (lo≤x)&&decide (x<hi))=false:=by simp;omega
   rw [List.find?_cons,this]
   simpa using ih
  ·
   rw [List.filter_cons]
   simp only [e,ne_eq,not_false_eq_true,decide_true,if_true,List.find?_cons]
   split
   · rfl
   · exact ih
def SameTouch (a b:List Int):Prop:=∀ lo hi,latestZ a lo hi=latestZ b lo hi
theorem SameTouch.touch {a b:List Int}(h:SameTouch a b)(w:Int):SameTouch (touchF a w) (b++[w]):=fun lo hi=>by
 unfold touchF
 rw [latest_push,latest_push]
 by_cases c:lo≤w∧w<hi
 · rw [if_pos c,if_pos c]
 · rw [if_neg c,if_neg c,find_without _ _ _ _ c,h]
theorem SameTouch.victim {a b:List Int}(h:SameTouch a b)(n:Int):victimZ n a=victimZ n b:=by
 unfold victimZ lowHit
 simp only [h _ _]
end Go.Proofs.YtehheaedbnfidaaGreat
