import Derived.Test.YtehheaedbnfidaaGreatClWRowC
import Derived.Test.YtehheaedbnfidaaGreatClConf5
set_option maxRecDepth 100000
namespace Go.Proofs.YtehheaedbnfidaaGreat
open Go.RowKit
theorem Tryz.nilInts (a:Option Addr)(l c:Nat)(w:World):(binOp .eql 25 (.slice a l c) (.slice none 0 0)).run Tryz.prog w = .ok (.bool a.isNone) w:=
 Go.Lib.run_eql_slice_nil w 25 3 a l c 0 0 Tryz.underlying25
theorem Tryz.nilGrid (a:Option Addr)(l c:Nat)(w:World):(binOp .eql 41 (.slice a l c) (.slice none 0 0)).run Tryz.prog w = .ok (.bool a.isNone) w:=
 Go.Lib.run_eql_slice_nil w 41 25 a l c 0 0 Tryz.underlying41
attribute [local go_sem] Tryz.nilInts Tryz.nilGrid
def lentL (xs:List Int)(n:Nat):List Value:=xs.map (Value.int .i64)++(List.replicate n (.int .i64 77)++List.replicate (8-n) (.int .i64 0))
theorem lentL_len (xs:List Int)(n:Nat)(h:n≤8):(lentL xs n).length=xs.length+8:=by simp [lentL];omega
theorem lentL_get (xs:List Int)(n i:Nat)(hn:n≤8):(lentL xs n)[i]? = if i<xs.length then (xs[i]?).map (Value.int .i64) else if i<xs.length+n then some (.int .i64 77) else if i<xs.length+8 then some (.int .i64 0) else none:=by
 unfold lentL
 by_cases h1:i<xs.length
 · rw [if_pos h1,List.getElem?_append_left (by simpa using h1),List.getElem?_map]
 ·
  rw [if_neg h1,List.getElem?_append_right (by simpa using h1),List.length_map]
  by_cases h2:i<xs.length+n
  · rw [if_pos h2,List.getElem?_append_left (by simp;omega),List.getElem?_replicate,if_pos (by omega)]
  ·
   rw [if_neg h2,List.getElem?_append_right (by simp;omega),List.getElem?_replicate,List.length_replicate]
   by_cases h3:i<xs.length+8
   · rw [if_pos h3,if_pos (by omega)]
   · rw [if_neg h3,if_neg (by omega)]
theorem lentL_set (xs:List Int)(n:Nat)(h:n<8):(lentL xs n).toArray.setIfInBounds (xs.length+n) (.int .i64 77)=(lentL xs (n+1)).toArray:=by
 apply Array.ext_getElem?
 intro i
 simp only [List.setIfInBounds_toArray,List.getElem?_toArray]
 rw [List.getElem?_set,lentL_get xs n i (by omega),lentL_get xs (n+1) i (by omega),lentL_len xs n (by omega)]
 by_cases he:xs.length+n=i
 ·
  subst he
  rw [if_pos rfl,if_pos (by omega),if_neg (by omega),if_pos (by omega)]
 ·
  rw [if_neg he]
  by_cases h1:i<xs.length
  · rw [if_pos h1,if_pos h1]
  ·
   rw [if_neg h1,if_neg h1]
   by_cases h2:i<xs.length+n
   · rw [if_pos h2,if_pos (by omega)]
   · rw [if_neg h2,if_neg (show ¬i<xs.length+(n+1) by omega)]
theorem lentL_zero (xs:List Int)(len:Nat)(h:xs.length=len):xs.map (Value.int .i64)++(List.replicate (len+8) (Value.int .i64 0)).drop (xs.map (Value.int .i64)).length=lentL xs 0:=by
 subst h
 simp [lentL]
theorem lent_copy (a:Addr)(len cap:Nat)(xs:List Int)(w:World)(h:Ints w (some a) len cap xs) :
  (Builtin.copy_ #[25,25] 3 #[.slice (some ⟨w.heap.size,0,none⟩) (len+8) (len+8),.slice (some a) len cap]).run Tryz.prog (w.alloc (.cells (madeCells #[.int .i64 0] (len+8)) 3)) = .ok (.int .i64 len) (w.alloc (.cells (lentL xs 0).toArray 3)):=by
 have e:madeCells #[Value.int .i64 0] (len+8)=(List.replicate (len+8) (Value.int .i64 0)).toArray:=made_int (len+8)
 have hl:=h.hlen
 rw [e,run_copy_new (P:=Tryz.prog) w 25 25 3 3 Tryz.underlying25 Tryz.infoInt1 (some a) (len+8) (len+8) len cap (List.replicate (len+8) (.int .i64 0)) 3 (xs.map (Value.int .i64)) (by simp;omega) (fun _=>⟨a,rfl,h.src _⟩) (by simp;omega) (ints_oneCell _ _),lentL_zero xs len hl]
 simp [goInt,hl]
set_option maxHeartbeats 400000 in
theorem lentInts_some (a:Addr)(len cap:Nat)(xs:List Int)(w:World)(h:Ints w (some a) len cap xs)(hr:len*8≤140737488351232) :
  Calls Tryz.prog 25 #[.slice (some a) len cap] w fun e w'=>e = .returned (.slice (some ⟨w.heap.size,0,none⟩) len (len+8))∧w'=w.alloc (.cells (lentL xs 8).toArray 3):=by
 have hle:=h.hle
 have HL:Hid (xs.length=len):=h.hlen
 obtain ⟨i0,hi,hz0,hz1,hz2⟩:=info_parts Tryz.infoInt
 have hcp:=lent_copy a len cap xs w h
 go_enter Tryz.func25,Tryz.ntmps25
 go_wp2_with (at_make;refine wpList_make_exact _ rfl _ _ 25 rfl 3 i0 (.int .i64 0) Tryz.underlying25 hi hz0 .i64 .i64 _ _ (len+8) rfl rfl (by simp) (by simp) (by rw [hz2];omega) (by unfold maxLen;omega) ?_;rw [hz1])
 go_loopw [5] (fun i wr=>∃ k:Nat,k≤8∧i = .int .i64 (len+k:Nat)∧wr=w.alloc (.cells (lentL xs k).toArray 3)) (fun i _=>len+8-(intOf i).toNat)
 case atStart=>exact ⟨0,by omega,rfl,rfl⟩
 case round=>
  obtain ⟨k,hk,rfl,hwr⟩:=hrel
  have HW:Hid _:=hwr
  by_cases hlt:k<8
  ·
   have c1:wr.cell? ⟨w.heap.size,len+k,none⟩=some (.int .i64 0):=by
    have e:=HL.out
    rw [hwr,alloc_cell,List.getElem?_toArray,lentL_get xs k (len+k) hk,if_neg (by omega),if_neg (by omega),if_pos (by omega)]
   have c2:wr.frozen? ⟨w.heap.size,len+k,none⟩=false:=by rw [hwr,alloc_frozen]
   clear hwr
   go_wp2
   go_roundw
   case rel=>
    refine ⟨k+1,by omega,by go_num,?_⟩
    rw [HW.out]
    have e:=HL.out
    rw [alloc_setCell,← e,lentL_set xs k hlt]
   case measure=>simp [intOf];omega
  ·
   have e:k=8:=by omega
   subst e
   clear hwr
   go_wp2
   go_ret
   exact ⟨rfl,HW.out⟩
end Go.Proofs.YtehheaedbnfidaaGreat
namespace Go.Proofs.YtehheaedbnfidaaGreat
open Go.RowKit
attribute [local go_sem] Tryz.nilInts Tryz.nilGrid
set_option maxHeartbeats 400000 in
theorem lentInts_none (w:World) :
  Calls Tryz.prog 25 #[.slice none 0 0] w fun e w'=>e = .returned (.slice none 0 0)∧w'=w:=by
 go_enter Tryz.func25,Tryz.ntmps25
 go_wp2
 go_ret
 exact ⟨rfl,rfl⟩
set_option maxHeartbeats 400000 in
theorem wholeInts_none (oa:Option Addr)(ol oc:Nat)(w:World) :
  Calls Tryz.prog 28 #[.slice oa ol oc,.slice none 0 0] w fun e w'=>e = .returned (.bool true)∧w'=w:=by
 go_enter Tryz.func28,Tryz.ntmps28
 go_wp2
 go_ret
 exact ⟨rfl,rfl⟩
theorem lent_get {xs:List Int}{len i:Nat}(hl:xs.length=len)(hi:i<len):(lentL xs 8)[i]? = some (.int .i64 (xs.getD i 0)):=by
 rw [lentL_get xs 8 i (Nat.le_refl _),if_pos (by omega)]
 simp [List.getD,List.getElem?_eq_getElem (show i<xs.length by omega)]
theorem lent_get_past {xs:List Int}{len i:Nat}(hl:xs.length=len)(hi:len≤i)(h8:i<len+8):(lentL xs 8)[i]? = some (.int .i64 77):=by
 rw [lentL_get xs 8 i (Nat.le_refl _),if_neg (by omega),if_pos (by omega)]
set_option maxHeartbeats 400000 in
theorem wholeInts_some (g:Nat)(sa:Addr)(len cap:Nat)(xs:List Int)(w:World)(h:Ints w (some sa) len cap xs)(hr:len*8≤140737488351232)(hg:Row w g (lentL xs 8) 3) :
  Calls Tryz.prog 28 #[.slice (some ⟨g,0,none⟩) len (len+8),.slice (some sa) len cap] w fun e w'=>e = .returned (.bool true)∧w'=w:=by
 have HL:Hid (xs.length=len):=h.hlen
 have hle:=h.hle
 go_enter Tryz.func28,Tryz.ntmps28
 go_wp2
 go_loop [7] (fun i=>∃ k:Nat,k≤len+8∧i = .int .i64 k) (fun i=>len+8-(intOf i).toNat)
 case atStart=>exact ⟨0,by omega,rfl⟩
 case round=>
  obtain ⟨k,hk,rfl⟩:=hrel
  by_cases hlt:k<len
  ·
   obtain ⟨b,off,hsa,hc⟩:=h.hat k hlt
   simp only [Option.some.injEq] at hsa
   subst hsa
   have c1:w.cell? ⟨g,k,none⟩=some (.int .i64 (xs.getD k 0)):=by rw [hg.cell,lent_get HL.out hlt]
   generalize xs.getD k 0=x at *
   have hx:(x != x)=false:=by simp
   have hk8:k<len+8:=by omega
   go_wp2
   go_round
   case rel=>exact ⟨k+1,by omega,by go_num⟩
   case measure=>simp [intOf];omega
  ·
   by_cases hk8:k<len+8
   ·
    have c1:w.cell? ⟨g,k,none⟩=some (.int .i64 77):=by rw [hg.cell,lent_get_past HL.out (by omega) hk8]
    go_wp2
    go_round
    case rel=>exact ⟨k+1,by omega,by go_num⟩
    case measure=>simp [intOf];omega
   ·
    go_wp2
    go_ret
    exact ⟨rfl,rfl⟩
end Go.Proofs.YtehheaedbnfidaaGreat
namespace Go.Proofs.YtehheaedbnfidaaGreat
open Go.RowKit
attribute [local go_sem] Tryz.nilInts Tryz.nilGrid
set_option maxHeartbeats 400000 in
theorem spoilInts_none (v:Int)(w:World) :
  Calls Tryz.prog 74 #[.slice none 0 0,.int .i64 v] w fun e w'=>e = .returned (.tuple #[])∧w'=w:=by
 go_enter Tryz.func74,Tryz.ntmps74
 go_wp2
 refine bodyPost_ret (results_none rfl _ _ _) rfl ?_
 exact ⟨rfl,rfl⟩
def spoilt (A:List Value)(v:Int)(k:Nat):List Value:=List.replicate k (.int .i64 v)++A.drop k
theorem spoilt_len (A:List Value)(v:Int)(k:Nat)(h:k≤A.length):(spoilt A v k).length=A.length:=by simp [spoilt];omega
theorem spoilt_zero (A:List Value)(v:Int):spoilt A v 0=A:=by simp [spoilt]
theorem spoilt_all (A:List Value)(v:Int)(k:Nat)(h:A.length=k):spoilt A v k=List.replicate k (.int .i64 v):=by
 simp [spoilt,List.drop_of_length_le (by omega:A.length≤k)]
theorem spoilt_get (A:List Value)(v:Int)(k:Nat):(spoilt A v k)[k]? = A[k]? := by
 unfold spoilt
 rw [List.getElem?_append_right (by simp)]
 simp
theorem spoilt_set (A:List Value)(v:Int)(k:Nat)(h:k<A.length):(spoilt A v k).toArray.setIfInBounds k (.int .i64 v)=(spoilt A v (k+1)).toArray:=by
 apply Array.ext_getElem?
 intro i
 simp only [List.setIfInBounds_toArray,List.getElem?_toArray]
 rw [List.getElem?_set,spoilt_len A v k (by omega)]
 unfold spoilt
 by_cases he:k=i
 ·
  subst he
  rw [if_pos rfl,if_pos h,List.getElem?_append_left (by simp),List.getElem?_replicate,if_pos (by omega)]
 ·
  rw [if_neg he]
  by_cases h1:i<k
  · rw [List.getElem?_append_left (by simpa using h1),List.getElem?_append_left (by simp;omega),List.getElem?_replicate,List.getElem?_replicate,if_pos h1,if_pos (by omega)]
  ·
   rw [List.getElem?_append_right (by simp;omega),List.getElem?_append_right (by simp;omega),List.getElem?_drop,List.getElem?_drop]
   simp only [List.length_replicate]
   congr 1
   omega
set_option maxHeartbeats 400000 in
theorem spoilInts_some (g len:Nat)(A:List Value)(v:Int)(w:World)(hr:len*8≤140737488351232)(hA:A.length=len+8)(hg:Row w g A 3) :
  Calls Tryz.prog 74 #[.slice (some ⟨g,0,none⟩) len (len+8),.int .i64 v] w fun e w'=>e = .returned (.tuple #[])∧w'=w.setRow g (List.replicate (len+8) (.int .i64 v)).toArray:=by
 have HA:Hid (A.length=len+8):=hA
 clear hA
 go_enter Tryz.func74,Tryz.ntmps74
 go_wp2
 go_loopw [5] (fun i wr=>∃ k:Nat,k≤len+8∧i = .int .i64 k∧wr=w.setRow g (spoilt A v k).toArray) (fun i _=>len+8-(intOf i).toNat)
 case atStart=>exact ⟨0,by omega,rfl,by rw [spoilt_zero,hg.setSame]⟩
 case round=>
  obtain ⟨k,hk,rfl,hwr⟩:=hrel
  have HW:Hid _:=hwr
  by_cases hlt:k<len+8
  ·
   have hrow:Row wr g (spoilt A v k) 3:=by rw [hwr];exact hg.set
   have hget:∃ x,A[k]? = some x:=⟨A[k]'(by rw [HA.out];exact hlt),List.getElem?_eq_getElem _⟩
   obtain ⟨x,hx⟩:=hget
   have c1:wr.cell? ⟨g,k,none⟩=some x:=by rw [hrow.cell,spoilt_get A v k,hx]
   have c2:wr.frozen? ⟨g,k,none⟩=false:=hrow.frozen k
   clear hwr hrow hx
   go_wp2
   go_roundw
   case rel=>
    refine ⟨k+1,by omega,by go_num,?_⟩
    rw [HW.out,setRow_setCell,spoilt_set A v k (by rw [HA.out];exact hlt)]
   case measure=>simp [intOf];omega
  ·
   have e:k=len+8:=by omega
   subst e
   clear hwr
   go_wp2
   go_end0
   exact ⟨rfl,by rw [HW.out,spoilt_all A v (len+8) HA.out]⟩
set_option maxHeartbeats 400000 in
theorem shows_any (sa:Option Addr)(len cap:Nat)(v:Int)(w:World)(h:Ints w sa len cap (List.replicate len v)) :
  Calls Tryz.prog 111 #[.slice sa len cap,.int .i64 len,.int .i64 v] w fun e w'=>e = .returned (.bool true)∧w'=w:=by
 have hle:=h.hle
 have hm:=h.hmax
 unfold maxLen at hm
 have hx:((len:Int) != (len:Int))=false:=by simp
 have hv:(v != v)=false:=by simp
 go_enter Tryz.func111,Tryz.ntmps111
 go_wp2
 go_loop [7] (fun i=>∃ k:Nat,k≤len∧i = .int .i64 k) (fun i=>len-(intOf i).toNat)
 case atStart=>exact ⟨0,by omega,rfl⟩
 case round=>
  obtain ⟨k,hk,rfl⟩:=hrel
  by_cases hlt:k<len
  ·
   obtain ⟨b,off,rfl,hc0⟩:=h.hat k hlt
   have hc:w.cell? ⟨b,off+k,none⟩=some (.int .i64 v):=by rw [hc0];simp [List.getD,hlt]
   clear hc0
   go_wp2
   go_round
   case rel=>exact ⟨k+1,by omega,by go_num⟩
   case measure=>simp [intOf];omega
  ·
   go_wp2
   go_ret
   exact ⟨rfl,rfl⟩
end Go.Proofs.YtehheaedbnfidaaGreat
namespace Go.Proofs.YtehheaedbnfidaaGreat
open Go.RowKit
set_option maxHeartbeats 400000 in
theorem Check_any (c:Cf)(s:Sl)(w:World)(h:CfgAt w c s) :
  Calls Tryz.prog 34 #[cfgV c s] w fun e w'=>e = .returned (.int .i64 (chk c))∧Below w.heap.size w w':=by
 have k0:=Kept.start w (cfgA c s) 43
 go_enter Tryz.func34,Tryz.ntmps34
 go_wp2_with fail
 refine (check_any c s _ (h.below k0.below (Nat.le_refl _))).mono ?_;rintro e w1 ⟨rfl,hb1⟩
 go_wp2
 go_ret
 exact ⟨rfl,(k0.next hb1 rfl).below⟩
structure FLoc where
 r:Nat
 rc:Nat
 b:Nat→Nat
 bc:Nat→Nat
 ta:Nat→Option Addr
 tl:Nat→Nat
 tc:Nat→Nat
def bkV (b:Bk)(i:Nat):Value:=if i=0 then .int .i64 b.line else if i=1 then .bool b.mkd else .int .i64 (b.wd (i-2))
def setV (X:FLoc)(wn i:Nat):Value:=if i%2=0 then .slice (some ⟨X.b (i / 2),0,none⟩) wn (X.bc (i / 2)) else .slice (X.ta (i / 2)) (X.tl (i / 2)) (X.tc (i / 2))
structure FarM (w:World)(ns wn:Nat)(X:FLoc)(blk:Nat→Nat→Bk)(tch:Nat→List Int):Prop where
 row:Cells w X.r (ns*2) 167 (setV X wn)
 cel:∀ s,s<ns→Cells w (X.b s) (wn*6) 171 (fun i=>bkV (blk s (i / 6)) (i%6))
 tcs:∀ s,s<ns→Ints w (X.ta s) (X.tl s) (X.tc s) (tch s)
 rcap:ns≤X.rc∧X.rc≤maxLen
 bcap:∀ s,s<ns→wn≤X.bc s∧X.bc s≤maxLen
 dis:∀ j k,j<ns→k<ns→X.b j=X.b k→j=k
 n0:0<ns
 n1:ns≤4
 w0:0<wn
 w1:wn≤4
 sm:wn=1∨wn=2∨wn=4
 tin:∀ s,s<ns→∀ e,e∈tch s→0≤e∧e<(wn:Int)
 tno:∀ s,s<ns→(tch s).Nodup
theorem nodup_le:∀ (n:Nat)(l:List Int),l.Nodup→(∀ e,e∈l→0≤e∧e<(n:Int))→l.length≤n
 | 0,[],_,_=>Nat.le_refl _
 | 0,x::l,_,h=>by have:=h x (by simp);omega
 | n+1,l,hd,h=>by
  have h1:=nodup_le n (l.filter fun e=>decide (e≠(n:Int))) (hd.filter _) (fun e he=>by
   rw [List.mem_filter] at he
   have:=h e he.1
   have h2:e≠(n:Int):=by simpa using he.2
   omega)
  have h2:l.length=(l.filter fun e=>decide (e≠(n:Int))).length+l.count (n:Int):=by
   clear h h1 hd
   obtain ⟨F,hF⟩:∃ F:Int→Bool,F=fun e=>decide (e≠(n:Int)):=⟨_,rfl⟩
   rw [← hF]
   induction l with
   | nil=>rfl
   | cons x l ih=>
    have hx:F x=decide (x≠(n:Int)):=by rw [hF]
    rw [List.filter_cons,List.count_cons,List.length_cons]
    by_cases e:x=(n:Int)
    · rw [hx];simp only [e,ne_eq,not_true,decide_false,Bool.false_eq_true,if_false,beq_self_eq_true,if_true];omega
    · rw [hx];simp only [e,ne_eq,not_false_eq_true,decide_true,if_true,List.length_cons,beq_iff_eq,if_false];omega
  have h3:l.count (n:Int)≤1:=List.nodup_iff_count.1 hd _
  omega
def FLoc.own (X:FLoc)(ns:Nat)(b:Nat):Prop:=b=X.r∨∃ s,s<ns∧b=X.b s
def FLoc.ints (X:FLoc)(ns:Nat)(b:Nat):Prop:=∃ s off,s<ns∧X.ta s=some ⟨b,off,none⟩
theorem Ints.same {w w':World}{sa:Option Addr}{len cap:Nat}{xs:List Int}(h:Ints w sa len cap xs)(hs:∀ b off,sa=some ⟨b,off,none⟩→w'.heap[b]? = w.heap[b]?):Ints w' sa len cap xs:=
 ⟨h.hlen,h.hle,h.hmax,h.hnil,fun i hi=>by
  obtain ⟨b,off,h1,h2⟩:=h.hat i hi
  refine ⟨b,off,h1,?_⟩
  rw [← h2]
  simp only [World.cell?]
  rw [hs b off h1]⟩
theorem FarM.same {w w':World}{ns wn:Nat}{X:FLoc}{blk:Nat→Nat→Bk}{tch:Nat→List Int}(h:FarM w ns wn X blk tch)(h1:∀ b,X.own ns b→w'.heap[b]? = w.heap[b]?)(h2:∀ b,X.ints ns b→w'.heap[b]? = w.heap[b]?):FarM w' ns wn X blk tch:=
 ⟨h.row.same (h1 _ (Or.inl rfl)),fun s hs=>(h.cel s hs).same (h1 _ (Or.inr ⟨s,hs,rfl⟩)),fun s hs=>(h.tcs s hs).same fun b off e=>h2 b ⟨s,off,hs,e⟩,h.rcap,h.bcap,h.dis,h.n0,h.n1,h.w0,h.w1,h.sm,h.tin,h.tno⟩
theorem FarM.below {w w':World}{ns wn m:Nat}{X:FLoc}{blk:Nat→Nat→Bk}{tch:Nat→List Int}(h:FarM w ns wn X blk tch)(hb:Below m w w')(hm:w.heap.size≤m):FarM w' ns wn X blk tch:=
 ⟨h.row.below hb hm,fun s hs=>(h.cel s hs).below hb hm,fun s hs=>(h.tcs s hs).below hb hm,h.rcap,h.bcap,h.dis,h.n0,h.n1,h.w0,h.w1,h.sm,h.tin,h.tno⟩
theorem FarM.setAt {w:World}{ns wn:Nat}{X:FLoc}{blk:Nat→Nat→Bk}{tch:Nat→List Int}(h:FarM w ns wn X blk tch){s:Nat}(hs:s<ns) :
  w.cell? ⟨X.r,s*2,none⟩=some (.slice (some ⟨X.b s,0,none⟩) wn (X.bc s))∧w.cell? ⟨X.r,s*2+1,none⟩=some (.slice (X.ta s) (X.tl s) (X.tc s)):=by
 refine ⟨?_,?_⟩
 ·
  rw [h.row.cell (by omega)]
  unfold setV
  rw [if_pos (by omega),show s*2 / 2=s by omega]
 ·
  rw [h.row.cell (by omega)]
  unfold setV
  rw [if_neg (by omega),show (s*2+1) / 2=s by omega]
theorem blk_at {w:World}{g n:Nat}{b:Nat→Bk}(h:Cells w g (n*6) 171 (fun i=>bkV (b (i / 6)) (i%6))){j:Nat}(hj:j<n) :
  w.cell? ⟨g,j*6,none⟩=some (.int .i64 (b j).line)∧w.cell? ⟨g,j*6+1,none⟩=some (.bool (b j).mkd)∧w.cell? ⟨g,j*6+2,none⟩=some (.int .i64 ((b j).wd 0))∧w.cell? ⟨g,j*6+3,none⟩=some (.int .i64 ((b j).wd 1))∧w.cell? ⟨g,j*6+4,none⟩=some (.int .i64 ((b j).wd 2))∧w.cell? ⟨g,j*6+5,none⟩=some (.int .i64 ((b j).wd 3)):=by
 refine ⟨?_,?_,?_,?_,?_,?_⟩
 · rw [h.cell (by omega),show j*6 / 6=j by omega,show j*6%6=0 by omega];rfl
 · rw [h.cell (by omega),show (j*6+1) / 6=j by omega,show (j*6+1)%6=1 by omega];rfl
 · rw [h.cell (by omega),show (j*6+2) / 6=j by omega,show (j*6+2)%6=2 by omega];rfl
 · rw [h.cell (by omega),show (j*6+3) / 6=j by omega,show (j*6+3)%6=3 by omega];rfl
 · rw [h.cell (by omega),show (j*6+4) / 6=j by omega,show (j*6+4)%6=4 by omega];rfl
 · rw [h.cell (by omega),show (j*6+5) / 6=j by omega,show (j*6+5)%6=5 by omega];rfl
set_option maxHeartbeats 1600000 in
theorem fsetOf_any (ns:Nat)(X:FLoc)(g o x q:Nat)(w:World)(hp:w.cell? ⟨g,o,none⟩=some (.slice (some ⟨X.r,0,none⟩) ns X.rc))(n0:0<ns)(n1:ns≤4)(hx:x≤1000000)(hq:Hid (q=x%ns)) :
  Calls Tryz.prog 158 #[.pointer (some ⟨g,o,none⟩),.int .i64 x] w fun e w'=>e = .returned (.int .i64 q)∧w'=w:=by
 have HE:Hid ((q:Int)=(x:Int)%(ns:Int)):=by have:=hq.out;unfold Hid;omega
 have hz:((ns:Int)==0)=false:=by simp;omega
 go_enter Tryz.func158,Tryz.ntmps158
 go_wp2
 go_ret
 exact ⟨ret_int HE.out.symm,rfl⟩
set_option maxHeartbeats 1600000 in
theorem fwayOf_any (g n cap:Nat)(b:Nat→Bk)(x:Int)(w:World)(h:Cells w g (n*6) 171 (fun i=>bkV (b (i / 6)) (i%6)))(hn:n≤4) :
  Calls Tryz.prog 159 #[.slice (some ⟨g,0,none⟩) n cap,.int .i64 x] w fun e w'=>e = .returned (.int .i64 (wayF b n x))∧w'=w:=by
 have HW:Hid (wayF b n x=firstW (fun j=>decide ((b j).line=x)) (n-0) 0):=rfl
 go_enter Tryz.func159,Tryz.ntmps159
 go_wp2_with fail
 go_loop [5] (fun u=>∃ j:Nat,j≤n∧u = .int .i64 j∧wayF b n x=firstW (fun j=>decide ((b j).line=x)) (n-j) j) (fun u=>n-(intOf u).toNat)
 case atStart=>exact ⟨0,by omega,rfl,HW.out⟩
 case round=>
  obtain ⟨j,hj,rfl,hf⟩:=hrel
  have HF:Hid _:=hf
  clear hf
  by_cases hlt:j<n
  ·
   obtain ⟨e1,_,_,_,_,_⟩:=blk_at h hlt
   by_cases hl:(b j).line=x
   ·
    have HR:Hid (wayF b n x=j):=by unfold Hid;rw [HF.out,show n-j=(n-(j+1))+1 by omega,firstW,if_pos (by simp [hl])]
    rw [hl] at e1
    clear hl
    go_wp2
    go_ret
    exact ⟨ret_int HR.out.symm,rfl⟩
   ·
    have HR:Hid (wayF b n x=firstW (fun j=>decide ((b j).line=x)) (n-(j+1)) (j+1)):=by unfold Hid;rw [HF.out,show n-j=(n-(j+1))+1 by omega,firstW,if_neg (by simp [hl])]
    go_wp2
    go_round
    case rel=>exact ⟨j+1,by omega,by go_num,HR.out⟩
    case measure=>simp [intOf];omega
  ·
   have HR:Hid (wayF b n x=-1):=by unfold Hid;rw [HF.out,show n-j=0 by omega];rfl
   go_wp2
   go_ret
   exact ⟨ret_int HR.out.symm,rfl⟩
set_option maxHeartbeats 1600000 in
theorem fFind_any (ns wn:Nat)(X:FLoc)(blk:Nat→Nat→Bk)(tch:Nat→List Int)(g o x q:Nat)(w:World)(h:FarM w ns wn X blk tch)(hp:w.cell? ⟨g,o,none⟩=some (.slice (some ⟨X.r,0,none⟩) ns X.rc))(hx:x≤1000000)(hq:Hid (q=x%ns)) :
  Calls Tryz.prog 150 #[.pointer (some ⟨g,o,none⟩),.int .i64 x] w fun e w'=>e = .returned (.int .i64 (wayF (blk q) wn x))∧w'=w:=by
 have hqs:q<ns:=by rw [hq.out];exact Nat.mod_lt _ h.n0
 obtain ⟨e1,e2⟩:=h.setAt hqs
 have n1:=h.n1
 go_enter Tryz.func150,Tryz.ntmps150
 go_wp2_with (first
  | (go_at_call 158;refine (fsetOf_any ns X g o x q _ hp h.n0 h.n1 hx hq).mono ?_;rintro e w' ⟨rfl,rfl⟩)
  | (go_at_call 159;refine (fwayOf_any _ wn _ (blk q) x _ (h.cel q hqs) h.w1).mono ?_;rintro e w' ⟨rfl,rfl⟩))
 go_ret
 exact ⟨rfl,rfl⟩
end Go.Proofs.YtehheaedbnfidaaGreat
