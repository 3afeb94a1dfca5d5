import Derived.Lib.SliceRun
import Derived.Test.YtehheaedbnfidaaGreatClMachL
import Derived.Test.YtehheaedbnfidaaGreatClMachU
import Derived.Test.YtehheaedbnfidaaGreatClWRefQ
set_option maxRecDepth 100000
namespace Go.Proofs.YtehheaedbnfidaaGreat
open Go.RowKit
def traceME (N:Cn)(d:Int):Int:=if d<0∨N.c.domains≤d then 6 else 0
theorem flat_one {α:Type}(f:α→List Value)(hf:∀ a,∀ v∈f a,v.oneCell'=true)(l:List α):∀ v∈l.flatMap f,v.oneCell'=true:=fun v hv=>by
 rw [List.mem_flatMap] at hv
 obtain ⟨a,_,h2⟩:=hv
 exact hf a v h2
theorem flat_len6 (l:List Ev):(l.flatMap eventL).length=l.length*6:=by
 induction l with
 | nil=>rfl
 | cons x xs ih=>rw [List.flatMap_cons,List.length_append,ih];show 6+xs.length*6=(xs.length+1)*6;omega
def traceV (N:Cn)(m:Mh)(d:Int)(g:Nat):Value:=if d<0∨N.c.domains≤d then .slice none 0 0 else .slice (some ⟨g,0,none⟩) (m.tr d.toNat).length (m.tr d.toNat).length
def traceW (N:Cn)(m:Mh)(d:Int)(w:World):World:=if d<0∨N.c.domains≤d then w else w.alloc (.cells ((m.tr d.toNat).flatMap eventL).toArray 58)
set_option maxHeartbeats 1600000 in
theorem ktrace_any (N:Cn)(X:XLoc)(m:Mh)(d:Int)(w:World)(h:MachM w N X m)(ok:MhOk N m) :
  Calls Tryz.prog 84 #[.pointer (some ⟨X.g,0,none⟩),.int .i64 d] w fun e w'=>e = .returned (.tuple #[traceV N m d w.heap.size,.int .i64 (traceME N d)])∧w'=traceW N m d w:=by
 obtain ⟨i0,hi0,hz0,hz1,hz2⟩:=info_parts Tryz.infoEventM
 obtain ⟨n1,n2,n3,n4,n5,n6,n7,n8,n9,n10,n11,n12,n13,n14,n15⟩:=h.nums
 have c18:w.cell? ⟨X.g,18,none⟩=some (.slice (some ⟨X.dm,0,none⟩) N.nd X.dc):=by rw [h.row.cell];rfl
 have HND:Hid _:=n2
 by_cases hbad:d<0∨N.c.domains≤d
 ·
  have HE:Hid (traceME N d=6):=by unfold Hid traceME;rw [if_pos hbad]
  have HV:Hid (traceV N m d w.heap.size = .slice none 0 0):=by unfold Hid traceV;rw [if_pos hbad]
  have HW:Hid (traceW N m d w=w):=by unfold Hid traceW;rw [if_pos hbad]
  have cases:d<0∨(0≤d∧(N.nd:Int)≤d):=by omega
  clear hbad n1 n2 n3 n4 n5 n6 n7 h
  rcases cases with b1|⟨b1,b2⟩
  all_goals
   go_enter Tryz.func84,Tryz.ntmps84
   go_wp2
   go_ret2
   exact ⟨by rw [HV.out,HE.out];rfl,HW.out.symm⟩
 ·
  obtain ⟨i,rfl⟩:=Int.eq_ofNat_of_zero_le (show 0≤d by omega)
  have hi:i<N.nd:=by omega
  have HE:Hid (traceME N i=0):=by unfold Hid traceME;rw [if_neg hbad]
  have HV:Hid (traceV N m i w.heap.size = .slice (some ⟨w.heap.size,0,none⟩) (m.tr i).length (m.tr i).length):=by unfold Hid traceV;rw [if_neg hbad,Int.toNat_natCast]
  have HW:Hid (traceW N m i w=w.alloc (.cells ((m.tr i).flatMap eventL).toArray 58)):=by unfold Hid traceW;rw [if_neg hbad,Int.toNat_natCast]
  obtain ⟨_,_,_,d3⟩:=dom_at h hi
  obtain ⟨htl,hown⟩:=h.trc i hi
  have hlen:=ok.trl n8 i
  have lg:=h.row.lt
  have ld:=h.dom.lt
  have hcp:=run_copy_made (P:=Tryz.prog) w 56 56 3 58 6 Tryz.underlying56 (by rw [hi0];simp [hz1]) (X.ta i) (m.tr i).length (m.tr i).length (X.tc i) (#[.int .i64 0,.int .i64 0,.int .i64 0,.int .i64 0,.int .i64 0,.int .i64 0]) 58 ((m.tr i).flatMap eventL) (flat_len6 _) (fun h0=>by
   rcases hown.2 with ⟨_,h2⟩|⟨g',cap',cur,hv,_,hh,hn',hm,hs,ht⟩
   · omega
   ·
    simp only [Value.slice.injEq] at hv
    refine ⟨⟨g',0,none⟩,hv.1,fun j v hj=>?_⟩
    have hr:Row w g' cur.toList 58:=by unfold Row;simpa using hh
    have hjl:j<((m.tr i).flatMap eventL).length:=(List.getElem?_eq_some_iff.1 hj).1
    rw [add_plain',Nat.zero_add,hr.cell]
    rw [← ht,List.getElem?_take] at hj
    split at hj
    · exact hj
    · cases hj) (flat_one _ (fun a v hv=>by simp [eventL] at hv;rcases hv with e | e | e | e | e | e <;> subst e <;> rfl) _)
  rw [htl] at d3
  have HL:Hid _:=hlen
  generalize (m.tr i).length=n at *
  clear hbad n1 n2 n3 n4 n5 n6 n7 h ok hown htl
  go_enter Tryz.func84,Tryz.ntmps84
  go_wp2_with (at_make;refine wpList_make_exact _ rfl _ _ 56 rfl 58 i0 _ Tryz.underlying56 hi0 hz0 .i64 .i64 _ _ n rfl rfl (by simp) (by simp) (by rw [hz2];have:=HL.out;omega) (by unfold maxLen;have:=HL.out;omega) ?_;rw [hz1])
  go_ret2
  exact ⟨by rw [HV.out,HE.out];rfl,HW.out.symm⟩
theorem wGive_any (N:Cn)(X:XLoc)(m:Mh)(d k:Int)(sa:Option Addr)(len cap:Nat)(os:List OpT)(w:World)(h:MachM w N X m)(hO:OpsAt w sa len cap os) :
  Calls Tryz.prog 53 #[.pointer (some ⟨X.g,0,none⟩),.int .i64 d,.int .i64 k,.slice sa len cap] w fun e w'=>e = .returned (.int .i64 (giveME N m d k os))∧∃ X',MachM w' N X' (giveMM N m d k os)∧Goes w w' X X':=by
 have hC:=kgive_any N X m d k sa len cap os w h hO
 clear h hO
 go_enter Tryz.func53,Tryz.ntmps53
 go_wp2_with fail
 refine hC.mono ?_;rintro e w1 ⟨rfl,X',hM,hG⟩
 go_wp2
 go_ret
 exact ⟨rfl,X',hM,hG⟩
theorem wFill_any (N:Cn)(X:XLoc)(m:Mh)(d a v:Int)(w:World)(h:MachM w N X m) :
  Calls Tryz.prog 57 #[.pointer (some ⟨X.g,0,none⟩),.int .i64 d,.int .i64 a,.int .i64 v] w fun e w'=>e = .returned (.int .i64 (fillME N m d a))∧MachM w' N X (fillMM N m d a v)∧Goes w w' X X:=by
 have hC:=kfill_any N X m d a v w h
 clear h
 go_enter Tryz.func57,Tryz.ntmps57
 go_wp2_with fail
 refine hC.mono ?_;rintro e w1 ⟨rfl,hM,hG⟩
 go_wp2
 go_ret
 exact ⟨rfl,hM,hG⟩
theorem wShare_any (N:Cn)(X:XLoc)(m:Mh)(a v:Int)(w:World)(h:MachM w N X m) :
  Calls Tryz.prog 59 #[.pointer (some ⟨X.g,0,none⟩),.int .i64 a,.int .i64 v] w fun e w'=>e = .returned (.int .i64 (shareME N m a))∧MachM w' N X (shareMM N m a v)∧Goes w w' X X:=by
 have hC:=kshare_any N X m a v w h
 clear h
 go_enter Tryz.func59,Tryz.ntmps59
 go_wp2_with fail
 refine hC.mono ?_;rintro e w1 ⟨rfl,hM,hG⟩
 go_wp2
 go_ret
 exact ⟨rfl,hM,hG⟩
theorem wRun_any (N:Cn)(X:XLoc)(m:Mh)(n:Int)(w:World)(h:MachM w N X m)(ok:MhOk N m) :
  Calls Tryz.prog 61 #[.pointer (some ⟨X.g,0,none⟩),.int .i64 n] w fun e w'=>e = .returned (.int .i64 (runME m n))∧∃ X',MachM w' N X' (runMM N m n)∧Goes w w' X X':=by
 have hC:=krun_any N X m n w h ok
 clear h ok
 go_enter Tryz.func61,Tryz.ntmps61
 go_wp2_with fail
 refine hC.mono ?_;rintro e w1 ⟨rfl,X',hM,hG⟩
 go_wp2
 go_ret
 exact ⟨rfl,X',hM,hG⟩
theorem wNow_any (N:Cn)(X:XLoc)(m:Mh)(w:World)(h:MachM w N X m) :
  Calls Tryz.prog 63 #[.pointer (some ⟨X.g,0,none⟩)] w fun e w'=>e = .returned (.int .i64 m.now)∧w'=w:=by
 have hC:=know_any N X m w h
 clear h
 go_enter Tryz.func63,Tryz.ntmps63
 go_wp2_with fail
 refine hC.mono ?_;rintro e w1 ⟨rfl,rfl⟩
 go_wp2
 go_ret
 exact ⟨rfl,rfl⟩
theorem wTrace_any (N:Cn)(X:XLoc)(m:Mh)(d:Int)(w:World)(h:MachM w N X m)(ok:MhOk N m) :
  Calls Tryz.prog 43 #[.pointer (some ⟨X.g,0,none⟩),.int .i64 d] w fun e w'=>e = .returned (.tuple #[traceV N m d w.heap.size,.int .i64 (traceME N d)])∧w'=traceW N m d w:=by
 have hC:=ktrace_any N X m d w h ok
 obtain ⟨sa,len,cap,hv⟩:∃ sa len cap,traceV N m d w.heap.size = .slice sa len cap:=by
  unfold traceV
  split
  · exact ⟨_,_,_,rfl⟩
  · exact ⟨_,_,_,rfl⟩
 rw [hv] at hC ⊢
 clear h ok hv
 go_enter Tryz.func43,Tryz.ntmps43
 go_wp2_with fail
 refine hC.mono ?_;rintro e w1 ⟨rfl,rfl⟩
 go_wp2
 go_ret2
 exact ⟨rfl,rfl⟩
end Go.Proofs.YtehheaedbnfidaaGreat
namespace Go.Proofs.YtehheaedbnfidaaGreat
def mkM (ops:Nat→Nat→List OpT)(own:Nat→Nat→Int)(sh:Nat→Int):Mh:=
 ⟨0,own,sh,fun _ _=>cpE,ops,fun _ _=>0,fun _ _ _=>bkE,fun _ _=>[],fun _=>[],fun _=>[],fun _=>⟨false,0,0⟩⟩
theorem sum_zero:∀ n,sumN (fun _=>0) n=0
 | 0=>rfl
 | n+1=>by rw [sumN,sum_zero n]
theorem mkM_ok (N:Cn){ops:Nat→Nat→List OpT}(own:Nat→Nat→Int)(sh:Nat→Int)(h1:∀ d k,(ops d k).length≤64)(h2:∀ d k o,o∈ops d k→o.1=0∨o.1=1):MhOk N (mkM ops own sh):=by
 refine ⟨h1,h2,fun d k=>Nat.zero_le _,fun d=>(sum_zero _).symm,fun k _ hb=>?_,fun d _ c hc=>?_,fun d _=>List.nodup_nil,fun k _=>⟨Int.le_refl _,Int.le_refl _⟩,fun d s j=>Or.inl rfl,fun d s j _=>rfl⟩
 · cases hb
 · cases hc
theorem runs_add (N:Cn)(m:Mh)(a:Nat):∀ b,Mh.runs N b (Mh.runs N a m)=Mh.runs N (a+b) m
 | 0=>rfl
 | b+1=>by
  rw [runs_step,runs_add N m a b,Nat.add_succ,runs_step]
theorem give_mk (N:Cn)(ops:Nat→Nat→List OpT)(own:Nat→Nat→Int)(sh:Nat→Int)(t:Nat)(hnow:(Mh.runs N t (mkM ops own sh)).now=t)(d k:Int)(os:List OpT) :
  giveMM N (Mh.runs N t (mkM ops own sh)) d k os=if giveME N (Mh.runs N t (mkM ops own sh)) d k os=0 then Mh.runs N t (mkM (up2 ops d.toNat k.toNat os) own sh) else Mh.runs N t (mkM ops own sh):=by
 unfold giveMM
 by_cases h:giveME N (Mh.runs N t (mkM ops own sh)) d k os=0
 ·
  rw [if_pos h,if_pos h]
  have ht:t=0:=by
   unfold giveME at h
   rw [hnow] at h
   split at h
   · omega
   ·
    split at h
    · omega
    · omega
  subst ht
  show ({ mkM ops own sh with ops:=up2 ops d.toNat k.toNat os,dn:=up2 (fun _ _=>0) d.toNat k.toNat 0 }:Mh)=mkM (up2 ops d.toNat k.toNat os) own sh
  have:up2 (fun _ _=>0) d.toNat k.toNat 0=fun _ _=>(0:Nat):=by funext a b;simp [up2]
  rw [this]
  rfl
 · rw [if_neg h,if_neg h]
theorem fill_mk (N:Cn)(ops:Nat→Nat→List OpT)(own:Nat→Nat→Int)(sh:Nat→Int)(t:Nat)(hnow:(Mh.runs N t (mkM ops own sh)).now=t)(d a v:Int) :
  fillMM N (Mh.runs N t (mkM ops own sh)) d a v=if fillME N (Mh.runs N t (mkM ops own sh)) d a=0 then Mh.runs N t (mkM ops (up1 own d.toNat (up1 (own d.toNat) a.toNat v)) sh) else Mh.runs N t (mkM ops own sh):=by
 unfold fillMM
 by_cases h:fillME N (Mh.runs N t (mkM ops own sh)) d a=0
 ·
  rw [if_pos h,if_pos h]
  have ht:t=0:=by
   unfold fillME at h
   rw [hnow] at h
   split at h
   · omega
   ·
    split at h
    · omega
    · omega
  subst ht
  rfl
 · rw [if_neg h,if_neg h]
theorem share_mk (N:Cn)(ops:Nat→Nat→List OpT)(own:Nat→Nat→Int)(sh:Nat→Int)(t:Nat)(hnow:(Mh.runs N t (mkM ops own sh)).now=t)(a v:Int) :
  shareMM N (Mh.runs N t (mkM ops own sh)) a v=if shareME N (Mh.runs N t (mkM ops own sh)) a=0 then Mh.runs N t (mkM ops own (up1 sh a.toNat v)) else Mh.runs N t (mkM ops own sh):=by
 unfold shareMM
 by_cases h:shareME N (Mh.runs N t (mkM ops own sh)) a=0
 ·
  rw [if_pos h,if_pos h]
  have ht:t=0:=by
   unfold shareME at h
   rw [hnow] at h
   split at h
   · omega
   ·
    split at h
    · omega
    · omega
  subst ht
  rfl
 · rw [if_neg h,if_neg h]
theorem run_mk (N:Cn)(ops:Nat→Nat→List OpT)(own:Nat→Nat→Int)(sh:Nat→Int)(t:Nat)(n:Int) :
  runMM N (Mh.runs N t (mkM ops own sh)) n=if runME (Mh.runs N t (mkM ops own sh)) n=0 then Mh.runs N (t+n.toNat) (mkM ops own sh) else Mh.runs N t (mkM ops own sh):=by
 unfold runMM
 rw [runs_add]
end Go.Proofs.YtehheaedbnfidaaGreat
namespace Go.Proofs.YtehheaedbnfidaaGreat
open Go.RowKit
theorem Tryz.nilOps (w:World)(a:Option Addr)(l c:Nat):(binOp .eql 28 (.slice a l c) (.slice none 0 0)).run Tryz.prog w = .ok (.bool a.isNone) w:=
 Go.Lib.run_eql_slice_nil w 28 69 a l c 0 0 Tryz.underlying28
attribute [local go_sem] Tryz.nilOps
theorem opsL_flat (os:List OpT):opsL os=os.flatMap opL:=rfl
theorem opsL_len (os:List OpT):(opsL os).length=os.length*3:=by
 induction os with
 | nil=>rfl
 | cons x xs ih=>rw [opsL_flat,List.flatMap_cons,List.length_append,← opsL_flat,ih];show 3+xs.length*3=(xs.length+1)*3;omega
theorem opsL_one (os:List OpT):∀ v∈opsL os,v.oneCell'=true:=fun v hv=>by
 rw [opsL_flat,List.mem_flatMap] at hv
 obtain ⟨a,_,h2⟩:=hv
 simp [opL] at h2
 rcases h2 with e|e|e <;> subst e <;> rfl
theorem opsL_at {os:List OpT}{i:Nat}(h:i<os.length):(opsL os)[i*3]? = some (.int .i64 (os.getD i opZ).1)∧(opsL os)[i*3+1]? = some (.int .i64 (os.getD i opZ).2.1)∧(opsL os)[i*3+2]? = some (.int .i64 (os.getD i opZ).2.2):=by
 have hg:os[i]? = some (os.getD i opZ):=by rw [List.getD_eq_getElem?_getD,List.getElem?_eq_getElem h];rfl
 rw [opsL_flat]
 exact flat_op hg
theorem opsL_set:∀ (os:List OpT)(i:Nat)(a b c:Int),i<os.length→(((opsL os).set (i*3) (.int .i64 a)).set (i*3+1) (.int .i64 b)).set (i*3+2) (.int .i64 c)=opsL (os.set i (a,b,c))
 | [],i,_,_,_,h=>by simp at h
 | o::os,0,a,b,c,_=>by
  rw [opsL_flat,opsL_flat,List.set_cons_zero,List.flatMap_cons,List.flatMap_cons]
  rfl
 | o::os,i+1,a,b,c,h=>by
  have ih:=opsL_set os i a b c (by simpa using h)
  rw [opsL_flat,opsL_flat,List.set_cons_succ,List.flatMap_cons,List.flatMap_cons,← opsL_flat,← opsL_flat,← ih]
  have hl:(opL o).length=3:=rfl
  rw [List.set_append_right _ _ (by rw [hl];omega),List.set_append_right _ _ (by rw [hl];omega),List.set_append_right _ _ (by rw [hl];omega),hl,show (i+1)*3-3=i*3 by omega,show (i+1)*3+1-3=i*3+1 by omega,show (i+1)*3+2-3=i*3+2 by omega]
theorem OpsAt.src {w:World}{sa:Option Addr}{len cap:Nat}{os:List OpT}(h:OpsAt w sa len cap os)(h0:0<len):∃ ad,sa=some ad∧∀ q v,(opsL os)[q]? = some v→w.cell? (ad.add q)=some v:=by
 obtain ⟨b,off,e2,_⟩:=h.hat 0 h0
 refine ⟨⟨b,off,none⟩,e2,fun q v hq=>?_⟩
 have hql:q<(opsL os).length:=(List.getElem?_eq_some_iff.1 hq).1
 rw [opsL_len,h.hlen] at hql
 obtain ⟨b',off',e3,f1,f2,f3⟩:=h.hat (q / 3) (by omega)
 rw [e2] at e3
 simp only [Option.some.injEq,Addr.mk.injEq] at e3
 obtain ⟨rfl,rfl,_⟩:=e3
 obtain ⟨g1,g2,g3⟩:=opsL_at (os:=os) (i:=q / 3) (by rw [h.hlen];omega)
 rw [add_plain']
 have:q=q / 3*3∨q=q / 3*3+1∨q=q / 3*3+2:=by omega
 rcases this with e4|e4|e4
 ·
  rw [e4] at hq ⊢
  rw [g1] at hq
  rw [f1,hq]
 ·
  rw [e4] at hq ⊢
  rw [g2] at hq
  rw [← Nat.add_assoc,f2,hq]
 ·
  rw [e4] at hq ⊢
  rw [g3] at hq
  rw [← Nat.add_assoc,f3,hq]
theorem run_copy_less {P:Program}(w0:World)(dT sT oT:TypeId)(elem:TypeId)(sz:Nat)(hu:P.underlying dT=some (.slice elem))(hsz:(P.info? elem).map (·.size)=some sz)
  (sp:Option Addr) (dl n dCap sCap:Nat) (hdl:n≤dl)
  (cur:List Value) (t:TypeId) (cs:List Value) (hn:cs.length=n*sz)
  (hpos:0<n→∃ ad,sp=some ad∧∀ j v,cs[j]? = some v→(w0.alloc (.cells cur.toArray t)).cell? (ad.add j)=some v)
  (hfit:cs.length≤cur.length) (h1:∀ v∈cs,v.oneCell'=true) :
  (Builtin.copy_ #[dT,sT] oT #[.slice (some ⟨w0.heap.size,0,none⟩) dl dCap,.slice sp n sCap]).run P (w0.alloc (.cells cur.toArray t)) = .ok (goInt n) (w0.alloc (.cells (cs++cur.drop cs.length).toArray t)):=by
 cases hq:P.info? elem with
 | none=>simp [hq] at hsz
 | some i=>
  have hi:i.size=sz:=by simpa [hq] using hsz
  have hmin:n.min dl=n:=Nat.min_eq_left hdl
  by_cases hz:n=0
  ·
   subst hz
   have hc:cs=[]:=List.eq_nil_of_length_eq_zero (by simpa using hn)
   subst hc
   cases sp with
   | none=>simp [Builtin.copy_,run_underlying hu,Builtin.lenOf,Builtin.firstCells,sizeOf,typeInfo,hq,storeCells]
   | some a=>
    have hl:(loadCells a 0).run P (w0.alloc (.cells cur.toArray t)) = .ok #[] (w0.alloc (.cells cur.toArray t)):=by simpa using run_loadCells_list (P:=P) (w0.alloc (.cells cur.toArray t)) a [] (by simp)
    simp [Builtin.copy_,run_underlying hu,Builtin.lenOf,Builtin.firstCells,sizeOf,typeInfo,hq,storeCells,hl]
  ·
   obtain ⟨ad,rfl,hsrc⟩:=hpos (by omega)
   have hl:=run_loadCells_list (P:=P) (w0.alloc (.cells cur.toArray t)) ad cs hsrc
   rw [hn] at hl
   have hst:=run_storeCells_at P w0.heap.size 0 t cs 0 cur.toArray (w0.alloc (.cells cur.toArray t)) (heap_alloc_new w0 _) (by simpa using hfit) h1
   rw [alloc_setRow] at hst
   simp [Builtin.copy_,run_underlying hu,Builtin.lenOf,Builtin.firstCells,sizeOf,typeInfo,hq,hi,hl,hst,hmin]
def lentO (os:List OpT)(k:Nat):List OpT:=os++(List.replicate k (77,77,77)++List.replicate (8-k) (0,0,0))
theorem lentO_len (os:List OpT)(k:Nat)(h:k≤8):(lentO os k).length=os.length+8:=by simp [lentO];omega
theorem lentO_set (os:List OpT)(k:Nat)(h:k<8):(lentO os k).set (os.length+k) (77,77,77)=lentO os (k+1):=by
 unfold lentO
 rw [List.set_append_right _ _ (by omega),show os.length+k-os.length=k by omega,List.set_append_right _ _ (by simp)]
 congr 1
 rw [List.length_replicate,Nat.sub_self,show 8-k=(8-(k+1))+1 by omega,List.replicate_succ,List.set_cons_zero,List.replicate_succ',List.append_assoc]
 rfl
theorem lentO_at {os:List OpT}{i:Nat}(h:i<os.length):(lentO os 8).getD i opZ=os.getD i opZ:=by
 unfold lentO
 rw [List.getD_eq_getElem?_getD,List.getD_eq_getElem?_getD,List.getElem?_append_left h]
theorem lentO_past {os:List OpT}{i:Nat}(h:os.length≤i)(h8:i<os.length+8):(lentO os 8).getD i opZ=(77,77,77):=by
 unfold lentO
 rw [List.getD_eq_getElem?_getD,List.getElem?_append_right h,List.getElem?_append_left (by simp;omega),List.getElem?_replicate,if_pos (by omega)]
 rfl
theorem made_three (n:Nat):madeCells #[Value.int .i64 0,.int .i64 0,.int .i64 0] n=(List.replicate n (Value.int .i64 0)).toArray:=by
 apply Array.ext
 · simp [madeCells]
 ·
  intro i h1 h2
  have hm:i%3=0∨i%3=1∨i%3=2:=by omega
  simp only [madeCells,Array.getElem_map,Array.getElem_range,List.getElem_toArray,List.getElem_replicate]
  show (#[Value.int .i64 0,.int .i64 0,.int .i64 0]:Array Value)[i%3]! = _
  rcases hm with e|e|e <;> rw [e] <;> rfl
theorem opsL_zero:∀ n,opsL (List.replicate n ((0:Int),(0:Int),(0:Int)))=List.replicate (n*3) (Value.int .i64 0)
 | 0=>rfl
 | n+1=>by
  have ih:=opsL_zero n
  rw [show (n+1)*3=n*3+1+1+1 by omega,List.replicate_succ,List.replicate_succ,List.replicate_succ,List.replicate_succ,← ih]
  rfl
theorem opsL_append (a b:List OpT):opsL (a++b)=opsL a++opsL b:=List.flatMap_append
theorem lentO_zero (os:List OpT)(len:Nat)(h:os.length=len):opsL os++(List.replicate ((len+8)*3) (Value.int .i64 0)).drop (opsL os).length=opsL (lentO os 0):=by
 unfold lentO
 rw [List.replicate_zero,List.nil_append,opsL_append,opsL_zero,opsL_len,h,List.drop_replicate]
 congr 2
 omega
set_option maxHeartbeats 1600000 in
theorem lentOps_some (a:Addr)(len cap:Nat)(os:List OpT)(w:World)(h:OpsAt w (some a) len cap os)(hr:len*24≤140737488351232) :
  Calls Tryz.prog 52 #[.slice (some a) len cap] w fun e w'=>e = .returned (.slice (some ⟨w.heap.size,0,none⟩) len (len+8))∧w'=w.alloc (.cells (opsL (lentO os 8)).toArray 69):=by
 have hle:=h.hle
 have HL:Hid (os.length=len):=h.hlen
 obtain ⟨i0,hi,hz0,hz1,hz2⟩:=info_parts Tryz.infoOp
 have hcp:=run_copy_less (P:=Tryz.prog) w 28 28 3 69 3 Tryz.underlying28 (by rw [hi];simp [hz1]) (some a) (len+8) len (len+8) cap (by omega) (List.replicate ((len+8)*3) (Value.int .i64 0)) 69 (opsL os) (by rw [opsL_len,h.hlen]) (fun h0=>by
  obtain ⟨ad,e,hc⟩:=h.src h0
  refine ⟨ad,e,fun j v hj=>?_⟩
  have h2:=hc j v hj
  rw [← h2]
  exact Below.cell ((Below.refl w.heap.size w).alloc (Nat.le_refl _) _) (cell_lt h2)) (by rw [opsL_len,h.hlen];simp;omega) (opsL_one os)
 rw [lentO_zero os len h.hlen,← made_three] at hcp
 clear h
 go_enter Tryz.func52,Tryz.ntmps52
 go_wp2_with (at_make;refine wpList_make_exact _ rfl _ _ 28 rfl 69 i0 _ Tryz.underlying28 hi hz0 .i64 .i64 _ _ (len+8) rfl rfl (by simp) (by simp) (by rw [hz2];omega) (by unfold maxLen;omega) ?_;rw [hz1])
 go_loopw [5] (fun i wr=>∃ k:Nat,k≤8∧i = .int .i64 (len+k:Nat)∧wr=w.alloc (.cells (opsL (lentO os k)).toArray 69)) (fun i _=>len+8-(intOf i).toNat)
 case atStart=>exact ⟨0,by omega,rfl,rfl⟩
 case round=>
  obtain ⟨k,hk,rfl,hwr⟩:=hrel
  have HW:Hid _:=hwr
  by_cases hlt:k<8
  ·
   have hr3:Row wr w.heap.size (opsL (lentO os k)) 69:=by rw [hwr];exact heap_alloc_new w _
   obtain ⟨g1,g2,g3⟩:=opsL_at (os:=lentO os k) (i:=len+k) (by rw [lentO_len os k hk,HL.out];omega)
   have c1:wr.cell? ⟨w.heap.size,(len+k)*3,none⟩=some (.int .i64 ((lentO os k).getD (len+k) opZ).1):=(hr3.cell _).trans g1
   have c2:wr.cell? ⟨w.heap.size,(len+k)*3+1,none⟩=some (.int .i64 ((lentO os k).getD (len+k) opZ).2.1):=(hr3.cell _).trans g2
   have c3:wr.cell? ⟨w.heap.size,(len+k)*3+2,none⟩=some (.int .i64 ((lentO os k).getD (len+k) opZ).2.2):=(hr3.cell _).trans g3
   have f1:=hr3.frozen ((len+k)*3)
   have f2:=hr3.frozen ((len+k)*3+1)
   have f3:=hr3.frozen ((len+k)*3+2)
   have lr:=hr3.lt
   generalize (lentO os k).getD (len+k) opZ=oz at *
   clear hwr g1 g2 g3 hr3
   go_wp2
   go_roundw
   case rel=>
    refine ⟨k+1,by omega,by go_num,?_⟩
    rw [HW.out]
    have e:=HL.out
    rw [alloc_setCell,alloc_setCell,alloc_setCell,← e,List.setIfInBounds_toArray,List.setIfInBounds_toArray,List.setIfInBounds_toArray,opsL_set _ _ _ _ _ (by rw [lentO_len os k hk];omega),lentO_set os k hlt]
   case measure=>simp [intOf];omega
  ·
   have e:k=8:=by omega
   subst e
   clear hwr
   go_wp2
   go_ret
   exact ⟨rfl,HW.out⟩
theorem lentOps_none (w:World) :
  Calls Tryz.prog 52 #[.slice none 0 0] w fun e w'=>e = .returned (.slice none 0 0)∧w'=w:=by
 go_enter Tryz.func52,Tryz.ntmps52
 go_wp2
 go_ret
 exact ⟨rfl,rfl⟩
theorem wholeOps_none (oa:Option Addr)(ol oc:Nat)(w:World) :
  Calls Tryz.prog 55 #[.slice oa ol oc,.slice none 0 0] w fun e w'=>e = .returned (.bool true)∧w'=w:=by
 go_enter Tryz.func55,Tryz.ntmps55
 go_wp2
 go_ret
 exact ⟨rfl,rfl⟩
end Go.Proofs.YtehheaedbnfidaaGreat
namespace Go.Proofs.YtehheaedbnfidaaGreat
open Go.RowKit
theorem Tryz.infoIntsN:(Tryz.prog.info? 25).map (fun i=>(i.zero,i.size,i.bytes))=some (some (.slice none 0 0),1,24):=by kernel_rfl
set_option maxHeartbeats 1600000 in
theorem kzeros_any (n:Nat)(hn:n≤64)(w:World) :
  Calls Tryz.prog 137 #[.int .i64 n] w fun e w'=>∃ za zc,e = .returned (.slice za n zc)∧w'.ownsRow w.heap.size 3 1 (.slice za n zc) n (List.replicate n (.int .i64 0))∧Below w.heap.size w w':=by
 obtain ⟨i0,hi0,hz0,hz1,hz2⟩:=info_parts Tryz.infoInt
 go_enter Tryz.func137,Tryz.ntmps137
 go_wp2_with fail
 go_loopw [3,4] (fun l u wr=>∃ (i:Nat) (za:Option Addr) (zc:Nat),i≤n∧u = .int .i64 i∧l = .slice za i zc∧wr.ownsRow w.heap.size 3 1 (.slice za i zc) i (List.replicate i (.int .i64 0))∧Below w.heap.size w wr) (fun _ u _=>n-(intOf u).toNat)
 case atStart=>exact ⟨0,none,0,by omega,rfl,rfl,by simp [World.ownsRow],Below.refl _ _⟩
 case round=>
  obtain ⟨i,za,zc,hi,rfl,rfl,hown,hb⟩:=hrel
  have HO:Hid _:=hown
  have HB:Hid _:=hb
  have hbs:=hb.size
  have HRW:Hid (∀ k,(Value.slice za i zc).ownBlock=some k→w.heap.size≤k):=fun k hk=>(owns_lt hown k hk).2
  clear hown hb
  by_cases hlt:i<n
  ·
   have LM:Hid (i+1≤maxLen):=by unfold Hid maxLen;omega
   have L8:Hid ((i+1)*8≤140737488355328):=by unfold Hid;omega
   have LB:Hid (w.heap.size≤(wr.alloc (.cells #[.int .i64 0] 3)).heap.size):=by unfold Hid;simp;omega
   go_wp2_with (at_builtin;refine wpList_append_lies _ rfl _ _ 25 rfl w.heap.size 3 i0 (.int .i64 0) 1 8 Tryz.underlying25 hi0 hz0 hz1 hz2 rfl (by decide) (.slice za i zc) i (List.replicate i (.int .i64 0)) rfl ?o1 ⟨wr.heap.size,0,none⟩ 1 1 [.int .i64 0] ?o9 rfl ?o3 ?o4 (by omega) ?o5 ?o6 ?o7 _ rfl ?o8)
   case o1=>exact World.ownsRow.alloc HO.out _
   try case o3=>exact World.news_of_block (cs:=#[.int .i64 0]) (t:=3) (fr:=(0,0)) (heap_alloc_new wr _)
   case o4=>simp [Value.oneCell']
   case o5=>exact LM.out
   case o6=>exact L8.out
   case o7=>first | exact LB.out | omega
   try case o9=>rfl
   case o8=>
    intro gg cap2 w4 hown4 hgrow4 hat4 hlt4
    have hb4:Below w.heap.size w w4:=below_grown (HB.out.alloc hbs _) LB.out hgrow4 HRW.out
    have HB4:Hid _:=hb4
    have HO4:Hid (w4.ownsRow w.heap.size 3 1 (.slice (some ⟨gg,0,none⟩) (i+1) cap2) (i+1) (List.replicate (i+1) (.int .i64 0))):=by
     unfold Hid
     rw [List.replicate_succ']
     exact hown4
    clear hown4 hgrow4 hat4 hb4
    go_wp2_with fail
    go_roundw
    case rel=>first | exact ⟨i+1,_,cap2,by omega,by go_num,rfl,HO4.out,HB4.out⟩ | ((repeat apply Exists.intro);exact ⟨⟨i+1,_,cap2,by omega,by go_num,rfl,HO4.out,HB4.out⟩,rfl⟩)
    case measure=>simp [intOf];omega
  ·
   have ei:i=n:=by omega
   subst ei
   go_wp2
   go_ret
   exact ⟨za,zc,rfl,HO.out,HB.out⟩
theorem owns_cells {w:World}{base g n cap size:Nat}{e:TypeId}{xs:List Value}(h:w.ownsRow base e size (.slice (some ⟨g,0,none⟩) n cap) n xs)(f:Nat→Value)(hf:∀ i,i<n*size→xs[i]? = some (f i)):Cells w g (n*size) e f∧n≤cap∧cap≤maxLen∧base≤g∧g<w.heap.size:=by
 have hl:=owns_lt h g rfl
 obtain ⟨h1,h2⟩:=h
 rcases h2 with ⟨h3,_⟩|⟨g',cap',cur,hv,hg,hh,hn',hm,hs,ht⟩
 · cases h3
 ·
  simp only [Value.slice.injEq,Option.some.injEq,Addr.mk.injEq] at hv
  obtain ⟨⟨rfl,_⟩,_,rfl⟩:=hv
  have hr:Row w g cur.toList e:=by unfold Row;simpa using hh
  refine ⟨⟨cur.toList,hr,fun i hi=>?_⟩,hn',hm,hl.2,hl.1⟩
  have:=hf i hi
  rw [← ht,List.getElem?_take,if_pos hi] at this
  exact this
abbrev cpL (c:Cp):List Value:=[.int .i64 c.dom,.int .i64 c.line,.int .i64 c.st]
theorem rep_at {n i:Nat}(hi:i<n*3):((List.replicate n cpE).flatMap cpL)[i]? = some (cpV cpE (i%3)):=by
 induction n generalizing i with
 | zero=>omega
 | succ n ih=>
  rw [List.replicate_succ,List.flatMap_cons]
  by_cases h:i<3
  ·
   have:i=0∨i=1∨i=2:=by omega
   rcases this with e|e|e <;> subst e <;> rfl
  ·
   obtain ⟨j,rfl⟩:∃ j,i=j+3:=⟨i-3,by omega⟩
   have:=ih (i:=j) (by omega)
   rw [show (j+3)%3=j%3 by omega,← this]
   rfl
theorem Tryz.infoCopy:(Tryz.prog.info? 62).map (fun i=>(i.zero,i.size,i.bytes))=some (some (.agg #[.int .i64 0,.int .i64 0,.int .i64 0]),3,24):=by kernel_rfl
theorem Tryz.infoCopies:(Tryz.prog.info? 60).map (fun i=>(i.zero,i.size,i.bytes))=some (some (.slice none 0 0),1,24):=by kernel_rfl
structure NearP (w wr:World)(j nn:Nat)(va:Option Addr)(vc:Nat)(b bc:Nat→Nat):Prop where
 box:Row wr (w.heap.size+1) [.slice va j vc] 94
 res:Row wr w.heap.size [.slice none 0 0] 94
 row:wr.ownsRow (w.heap.size+2) 60 1 (.slice va j vc) j ((List.range j).map fun k=>.slice (some ⟨b k,0,none⟩) nn (bc k))
 cel:∀ k,k<j→Cells wr (b k) (nn*3) 62 (fun i=>cpV cpE (i%3))∧w.heap.size+2≤b k∧nn≤bc k∧bc k≤maxLen
 dis:∀ i k,i<j→k<j→b i=b k→i=k
 bel:Below w.heap.size w wr
theorem NearP.below {w wr w':World}{j nn:Nat}{va:Option Addr}{vc:Nat}{b bc:Nat→Nat}(h:NearP w wr j nn va vc b bc)(hb:Below wr.heap.size wr w'):NearP w w' j nn va vc b bc:=
 ⟨h.box.below hb h.box.lt,h.res.below hb h.res.lt,owns_same h.row fun g hg=>hb.block g (owns_lt h.row g hg).1,fun k hk=>⟨(h.cel k hk).1.below hb (Nat.le_refl _),(h.cel k hk).2⟩,h.dis,h.bel.trans (hb.mono h.bel.size)⟩
theorem NearP.more {w wr w1 w2:World}{j nn gl lc gg cap:Nat}{va:Option Addr}{vc:Nat}{b bc:Nat→Nat}(h:NearP w wr j nn va vc b bc)(h0:wr.heap.size≤gl)(hb1:Below wr.heap.size wr w1)
  (hc:Cells w1 gl (nn*3) 62 (fun i=>cpV cpE (i%3))) (hl:nn≤lc∧lc≤maxLen) (hg:w1.grownBy w2 (Value.slice va j vc).ownBlock)
  (ho:w2.ownsRow (w.heap.size+2) 60 1 (.slice (some ⟨gg,0,none⟩) (j+1) cap) (j+1) (((List.range j).map fun k=>.slice (some ⟨b k,0,none⟩) nn (bc k))++[.slice (some ⟨gl,0,none⟩) nn lc])) :
  NearP w (w2.setCell ⟨w.heap.size+1,0,none⟩ (.slice (some ⟨gg,0,none⟩) (j+1) cap)) (j+1) nn (some ⟨gg,0,none⟩) cap (up1 b j gl) (up1 bc j lc):=by
 have h1:=h.below hb1
 have hsz:=h.bel.size
 have hr2:w.heap.size+2≤wr.heap.size:=by have:=h.box.lt;omega
 have n0:∀ {g A t},Row w1 g A t→t≠60→Row w2 g A t:=fun hr ht=>by
  unfold Row
  rw [hg.block _ hr.lt (fun he=>own_ne h1.row hr ht he.symm)]
  exact hr
 have n1:∀ {g n f},Cells w1 g n 62 f→Cells w2 g n 62 f:=fun ⟨cur,hr,hf⟩=>⟨cur,n0 hr (by decide),hf⟩
 have hbox:=n0 h1.box (by decide)
 have hne:∀ g,w.heap.size+2≤g→g≠w.heap.size+1:=fun g hg=>by omega
 refine ⟨hbox.setCell 0 _,(n0 h1.res (by decide)).setCellOther _ _ (by omega),?_,fun k hk=>?_,fun i k hi hk e=>?_,?_⟩
 ·
  have hL:((List.range (j+1)).map fun k=>Value.slice (some ⟨up1 b j gl k,0,none⟩) nn (up1 bc j lc k))=((List.range j).map fun k=>.slice (some ⟨b k,0,none⟩) nn (bc k))++[.slice (some ⟨gl,0,none⟩) nn lc]:=by
   rw [List.range_succ,List.map_append]
   congr 1
   ·
    apply List.map_congr_left
    intro k hk
    have:k≠j:=by have:=List.mem_range.1 hk;omega
    simp [up1,this]
   · simp [up1]
  rw [hL]
  exact owns_same ho fun g hg'=>Below.heap_setCell _ _ _ _ (hne g (owns_lt ho g hg').2)
 ·
  by_cases e:k=j
  ·
   subst e
   simp only [up1,if_true]
   exact ⟨(n1 hc).setOther _ _ (by omega),by omega,hl⟩
  ·
   have:=h1.cel k (by omega)
   simp only [up1,e,if_false]
   exact ⟨(n1 this.1).setOther _ _ (hne _ this.2.1),this.2⟩
 ·
  by_cases e1:i=j <;> by_cases e2:k=j
  · omega
  ·
   subst e1
   simp only [up1,if_true,e2,if_false] at e
   have:=(h.cel k (by omega)).1.lt
   omega
  ·
   subst e2
   simp only [up1,if_true,e1,if_false] at e
   have:=(h.cel i (by omega)).1.lt
   omega
  ·
   simp only [up1,e1,e2,if_false] at e
   exact h.dis i k (by omega) (by omega) e
 · exact (below_grown h1.bel (by have:=h1.box.lt;omega) hg (fun g hg'=>by have:=(owns_lt h1.row g hg').2;omega)).setCell (show w.heap.size≤w.heap.size+1 by omega) _
set_option maxHeartbeats 3200000 in
theorem nnew_any (nc nn:Nat)(hc:nc≤3)(hc0:0<nc)(hn:nn≤4)(hn0:0<nn)(w:World) :
  Calls Tryz.prog 107 #[.int .i64 nc,.int .i64 nn] w fun e w'=>∃ X:NLoc,e = .returned (.agg #[.slice (some ⟨X.r,0,none⟩) nc X.rc])∧NearM w' nc nn X (fun _ _=>cpE)∧Below w.heap.size w w'∧w.heap.size≤X.r∧∀ k,k<nc→w.heap.size≤X.b k:=by
 obtain ⟨i0,hi0,hz0,hz1,hz2⟩:=info_parts Tryz.infoCopy
 obtain ⟨j0,hj0,hy0,hy1,hy2⟩:=info_parts Tryz.infoCopies
 go_enter Tryz.func107,Tryz.ntmps107
 go_wp2_with fail
 have hP0:NearP w ((w.alloc (.cells #[.slice none 0 0] 94)).alloc (.cells #[.slice none 0 0] 94)) 0 nn none 0 (fun _=>0) (fun _=>0):=by
  refine ⟨?_,Row.alloc (heap_alloc_new w _) _,by simp [World.ownsRow],fun k hk=>by omega,fun i k hi=>by omega,((Below.refl _ _).alloc (Nat.le_refl _) _).alloc (by simp) _⟩
  have:=heap_alloc_new (w.alloc (.cells #[.slice none 0 0] 94)) (.cells #[.slice none 0 0] 94)
  rw [World.size_alloc] at this
  exact this
 have HP0:Hid _:=hP0
 clear hP0
 go_loopw [6] (fun u wr=>∃ (j:Nat) (va:Option Addr) (vc:Nat) (b bc:Nat→Nat),j≤nc∧u = .int .i64 j∧NearP w wr j nn va vc b bc) (fun u _=>nc-(intOf u).toNat)
 case atStart=>exact ⟨0,none,0,_,_,by omega,rfl,HP0.out⟩
 case round=>
  obtain ⟨j,va,vc,b,bc,hj,rfl,hP⟩:=hrel
  have HP:Hid _:=hP
  by_cases hlt:j<nc
  ·
   obtain ⟨wo,hwo⟩:∃ wo,wo=wr:=⟨_,rfl⟩
   have HWO:Hid _:=hwo
   clear hP hwo
   go_wp2_with fail
   go_loopw [7,8] (fun l u wx=>∃ (i:Nat) (la:Option Addr) (lc:Nat),i≤nn∧u = .int .i64 i∧l = .slice la i lc∧wx.ownsRow wo.heap.size 62 3 (.slice la i lc) i ((List.replicate i cpE).flatMap cpL)∧Below wo.heap.size wo wx) (fun _ u _=>nn-(intOf u).toNat)
   case atStart=>exact ⟨0,none,0,by omega,rfl,rfl,by simp [World.ownsRow],by rw [HWO.out];exact Below.refl _ _⟩
   case round=>
    obtain ⟨i,la,lc,hi,rfl,rfl,hown,hb⟩:=hrel
    have HO:Hid _:=hown
    have HB:Hid _:=hb
    have hbs:=hb.size
    have HRW:Hid (∀ k,(Value.slice la i lc).ownBlock=some k→wo.heap.size≤k):=fun k hk=>(owns_lt hown k hk).2
    clear hb
    by_cases hli:i<nn
    ·
     have LM:Hid (i+1≤maxLen):=by unfold Hid maxLen;omega
     have L8:Hid ((i+1)*24≤140737488355328):=by unfold Hid;omega
     clear hown
     go_wp2_with (first
      | (go_at_call 138;refine (nempty_any _).mono ?_;rintro e w2 ⟨rfl,rfl⟩)
      | (at_builtin;refine wpList_append_lies _ rfl _ _ 60 rfl wo.heap.size 62 i0 _ 3 24 Tryz.underlying60 hi0 hz0 hz1 hz2 rfl (by decide) (.slice la i lc) i ((List.replicate i cpE).flatMap cpL) rfl ?o1 ⟨wr.heap.size+1,0,none⟩ 1 1 (cpL cpE) ?o9 rfl ?o3 ?o4 (by omega) ?o5 ?o6 ?o7 _ rfl ?o8))
     case o1=>exact World.ownsRow.alloc (World.ownsRow.alloc HO.out _) _
     case o3=>
      have hnb:=heap_alloc_new (wr.alloc (.cells #[.int .i64 (-1),.int .i64 (-1),.int .i64 0] 62)) (.cells #[.int .i64 (-1),.int .i64 (-1),.int .i64 0] 62)
      rw [World.size_alloc] at hnb
      exact World.news_of_block (cs:=#[.int .i64 (-1),.int .i64 (-1),.int .i64 0]) (t:=62) (fr:=(0,0)) hnb
     case o4=>simp [Value.oneCell']
     case o5=>exact LM.out
     case o6=>exact L8.out
     case o7=>simp;omega
     case o9=>rfl
     case o8=>
      intro gg cap2 w4 hown4 hgrow4 hat4 hlt4
      have hb4:Below wo.heap.size wo w4:=below_grown ((HB.out.alloc hbs _).alloc (by simp;omega) _) (by simp;omega) hgrow4 HRW.out
      have HB4:Hid _:=hb4
      have HO4:Hid (w4.ownsRow wo.heap.size 62 3 (.slice (some ⟨gg,0,none⟩) (i+1) cap2) (i+1) ((List.replicate (i+1) cpE).flatMap cpL)):=by
       unfold Hid
       rw [List.replicate_succ',List.flatMap_append]
       exact hown4
      clear hown4 hgrow4 hat4 hb4
      go_wp2_with fail
      go_roundw
      case rel=>first | exact ⟨i+1,_,cap2,by omega,by go_num,rfl,HO4.out,HB4.out⟩ | ((repeat apply Exists.intro);exact ⟨⟨i+1,_,cap2,by omega,by go_num,rfl,HO4.out,HB4.out⟩,rfl⟩)
      case measure=>simp [intOf];omega
    ·
     have ei:i=nn:=by omega
     subst ei
     obtain ⟨gl,lc',hv,hgl,hgl2⟩:=World.ownsRow.form hown hn0
     simp only [Value.slice.injEq] at hv
     obtain ⟨rfl,_,rfl⟩:=hv
     have hcl:=owns_cells hown (fun i=>cpV cpE (i%3)) (fun q hq=>rep_at hq)
     have P0:=HP.out
     rw [← HWO.out] at P0
     have P1:=P0.below HB.out
     have cb:wr.cell? ⟨w.heap.size+1,0,none⟩=some (.slice va j vc):=P1.box.cell 0
     have fb:=P1.box.frozen 0
     have lb:=P1.box.lt
     have HC:Hid _:=hcl
     have HP1:Hid _:=P1
     have HP00:Hid _:=P0
     have LM:Hid (j+1≤maxLen):=by unfold Hid maxLen;omega
     have L8:Hid ((j+1)*24≤140737488355328):=by unfold Hid;omega
     have HRJ:Hid _:=P1.row
     clear hown hcl P0 P1
     go_wp2_with (at_builtin;refine wpList_append_lies _ rfl _ _ 31 rfl (w.heap.size+2) 60 j0 _ 1 24 Tryz.underlying31 hj0 hy0 hy1 hy2 rfl (by decide) (.slice va j vc) j ((List.range j).map fun k=>.slice (some ⟨b k,0,none⟩) i (bc k)) rfl ?p1 ⟨wr.heap.size,0,none⟩ 1 1 [.slice (some ⟨gl,0,none⟩) i lc] ?p9 rfl ?p3 ?p4 (by omega) ?p5 ?p6 ?p7 _ rfl ?p8)
     case p1=>exact World.ownsRow.alloc HRJ.out _
     try case p3=>exact World.news_of_block (cs:=#[.slice (some ⟨gl,0,none⟩) i lc]) (t:=60) (fr:=(0,0)) (heap_alloc_new wr _)
     case p4=>simp [Value.oneCell']
     case p5=>exact LM.out
     case p6=>exact L8.out
     case p7=>simp;omega
     try case p9=>rfl
     case p8=>
      intro gg cap2 w4 hown4 hgrow4 hat4 hlt4
      have hbA:Below wr.heap.size wr (wr.alloc (.cells #[.slice (some ⟨gl,0,none⟩) i lc] 60)):=(Below.refl _ _).alloc (Nat.le_refl _) _
      have hM:=HP00.out.more (gl:=gl) (lc:=lc) HC.out.2.2.2.1 (HB.out.trans (hbA.mono hbs)) (HC.out.1.below hbA (Nat.le_refl _)) ⟨HC.out.2.1,HC.out.2.2.1⟩ hgrow4 hown4
      have rb:Row w4 (w.heap.size+1) [.slice va j vc] 94:=by
       unfold Row
       rw [hgrow4.block _ (by simp;omega) (fun he=>own_ne (World.ownsRow.alloc HRJ.out _) (HP1.out.box.below hbA lb) (by decide) he.symm)]
       exact HP1.out.box.below hbA lb
      have c4:w4.cell? ⟨w.heap.size+1,0,none⟩=some (.slice va j vc):=rb.cell 0
      have f4:=rb.frozen 0
      have HMM:Hid _:=hM
      clear hown4 hgrow4 hat4 hbA hM rb cb fb lb
      go_wp2_with fail
      go_roundw
      case rel=>first | exact ⟨j+1,_,_,_,_,by omega,by go_num,HMM.out⟩ | ((repeat apply Exists.intro);exact ⟨⟨j+1,_,_,_,_,by omega,by go_num,HMM.out⟩,rfl⟩)
      case measure=>simp [intOf];omega
  ·
   have ej:j=nc:=by omega
   subst ej
   have cb:wr.cell? ⟨w.heap.size+1,0,none⟩=some (.slice va j vc):=hP.box.cell 0
   have cr:wr.cell? ⟨w.heap.size,0,none⟩=some (.slice none 0 0):=hP.res.cell 0
   have fr:=hP.res.frozen 0
   have q:Row (wr.setCell ⟨w.heap.size,0,none⟩ (.slice va j vc)) w.heap.size [.slice va j vc] 94:=hP.res.setCell 0 _
   have q0:=q.cell 0
   obtain ⟨g,cap,hv,hg1,hg2⟩:=World.ownsRow.form hP.row hc0
   simp only [Value.slice.injEq] at hv
   obtain ⟨rfl,_,rfl⟩:=hv
   have hrow:=owns_cells hP.row (fun k=>.slice (some ⟨b k,0,none⟩) nn (bc k)) (fun k hk=>by
    rw [List.getElem?_map,List.getElem?_range (by omega)];rfl)
   rw [Nat.mul_one] at hrow
   have hNM:NearM (wr.setCell ⟨w.heap.size,0,none⟩ (.slice (some ⟨g,0,none⟩) j vc)) j nn ⟨g,vc,b,bc⟩ (fun _ _=>cpE):=
    ⟨hrow.1.setOther _ _ (show g≠w.heap.size by have:=hrow.2.2.2.1;omega),fun k hk=>(hP.cel k hk).1.setOther _ _ (show b k≠w.heap.size by have:=(hP.cel k hk).2.1;omega),⟨hrow.2.1,hrow.2.2.1⟩,fun k hk=>(hP.cel k hk).2.2,hP.dis,hn0,hn,hc⟩
   have HNM:Hid _:=hNM
   have HBL:Hid (Below w.heap.size w (wr.setCell ⟨w.heap.size,0,none⟩ (.slice (some ⟨g,0,none⟩) j vc))):=hP.bel.setCell (Nat.le_refl _) _
   have HX:Hid (w.heap.size≤g∧∀ k,k<j→w.heap.size≤b k):=⟨by have:=hrow.2.2.2.1;omega,fun k hk=>by have:=(hP.cel k hk).2.1;omega⟩
   clear hP HP hrow hNM q
   go_wp2
   refine bodyPost_ret (v:=.agg #[.slice (some ⟨g,0,none⟩) j vc]) (by simp [results,Tryz.results107,go_sem,q0]) rfl ⟨⟨g,vc,b,bc⟩,rfl,HNM.out,HBL.out,HX.out.1,HX.out.2⟩
set_option maxHeartbeats 800000 in
theorem step_own (gw:Nat)(st:St)(w:World)(R:World→Prop)
  (ho:Calls Tryz.prog 11 #[.pointer (some ⟨gw,0,none⟩),opV st] (w.alloc (.cells (opA st) 36)) fun x w'=>x = .returned (.bool true)∧R w') :
  Calls Tryz.prog 9 #[.pointer (some ⟨gw,0,none⟩),opV st] w fun x w'=>x = .returned (.bool true)∧R w':=by
 have HO:Hid _:=ho
 clear ho
 go_enter Tryz.func9,Tryz.ntmps9
 go_wp2_with fail
 refine Calls.mono HO.out ?_
 rintro x w1 ⟨rfl,r⟩
 have HR:Hid _:=r
 clear r
 go_wp2
 go_ret
 exact ⟨rfl,HR.out⟩
set_option maxHeartbeats 800000 in
theorem step_out (gw:Nat)(st:St)(w:World)(hk:st.k<1∨20<st.k) :
  Calls Tryz.prog 9 #[.pointer (some ⟨gw,0,none⟩),opV st] w fun x w'=>x = .returned (.bool true)∧Below w.heap.size w w':=by
 have bW:Below w.heap.size w (w.alloc (.cells (opA st) 36)):=(Below.refl _ _).alloc (Nat.le_refl _) _
 have rO:Row (w.alloc (.cells (opA st) 36)) w.heap.size [.int .i64 st.k,.int .i64 st.a,.int .i64 st.b,.int .i64 st.c,.int .i64 st.d] 36:=heap_alloc_new w _
 rcases hk with hk|hk
 ·
  have hd:decide (st.k<5)=true:=by simp;omega
  have hk5:st.k<5:=by omega
  go_enter Tryz.func9,Tryz.ntmps9
  go_wp2_with fail
  refine (owner_other gw st _ (by omega)).mono ?_
  rintro x w1 ⟨rfl,b1⟩
  have q1:=row_q (rO.below b1 rO.lt)
  have B1:Hid _:=b1
  clear b1
  go_wp2
  go_ret
  exact ⟨rfl,below_step bW B1.out rfl⟩
 ·
  have hd:decide (st.k<5)=false:=by simp;omega
  have hd2:decide (20<st.k)=true:=by simp;omega
  go_enter Tryz.func9,Tryz.ntmps9
  go_wp2_with fail
  refine (owner_other gw st _ (by omega)).mono ?_
  rintro x w1 ⟨rfl,b1⟩
  have q1:=row_q (rO.below b1 rO.lt)
  have B1:Hid _:=b1
  clear b1
  go_wp2
  go_ret
  exact ⟨rfl,below_step bW B1.out rfl⟩
set_option maxHeartbeats 1600000 in
theorem step_nocs (gw base:Nat)(o:Own)(m e p b:Value)(ts:List Int)(os:List (Int × Int × Int))(st:St)(w:World)(h:WSt w gw base o m e p b ts os)
  (hk1:5≤st.k) (hk2:st.k≤11) (hk3:st.k≠10) (hpos:o.cl=0) :
  Calls Tryz.prog 9 #[.pointer (some ⟨gw,0,none⟩),opV st] w fun x w'=>x = .returned (.bool true)∧Below w.heap.size w w':=by
 obtain ⟨k,a,bb,cc,dd⟩:=st
 obtain ⟨ca,cl,ccap,ta,tl,tc,oa,ol,oc⟩:=o
 simp only at hk1 hk2 hk3 hpos
 subst hpos
 have bW:Below w.heap.size w (w.alloc (.cells (opA ⟨k,a,bb,cc,dd⟩) 36)):=(Below.refl _ _).alloc (Nat.le_refl _) _
 have rO:Row (w.alloc (.cells (opA ⟨k,a,bb,cc,dd⟩) 36)) w.heap.size [.int .i64 k,.int .i64 a,.int .i64 bb,.int .i64 cc,.int .i64 dd] 36:=heap_alloc_new w _
 have hW:=h.below bW rfl
 have n10:(k==10)=false:=by simpa using hk3
 have n5:decide (k<5)=false:=by simp;omega
 have n20:decide (20<k)=false:=by simp;omega
 clear hk3
 go_enter Tryz.func9,Tryz.ntmps9
 go_wp2_with fail
 refine (owner_other gw ⟨k,a,bb,cc,dd⟩ _ (by simp only [];omega)).mono ?_
 rintro x w1 ⟨rfl,b1⟩
 have h1:=hW.below b1 rfl
 have q1:=row_q (rO.below b1 rO.lt)
 have bW1:=below_step bW b1 rfl
 have c0:w1.cell? ⟨gw,0,none⟩=some (.slice ca 0 ccap):=by rw [h1.row.cell];rfl
 have BW:Hid _:=bW1
 clear b1 bW1 bW hW rO
 go_wp2
 go_ret
 exact ⟨rfl,BW.out⟩
end Go.Proofs.YtehheaedbnfidaaGreat
namespace Go.Proofs.YtehheaedbnfidaaGreat
theorem mbegin_fault {N:Cn}{m:Mh}{d k:Nat}{o:OpT}(hf:faultF N.c o≠0):m.begin N d k o={ m with wk:=up1 m.wk k ⟨true,d,m.now⟩ }:=by
 unfold Mh.begin
 simp only
 rw [if_pos hf]
theorem mbegin_wait {N:Cn}{m:Mh}{d k x:Nat}{o:OpT}(hf:faultF N.c o=0)(hx:(o.2.1 / (N.ln:Int)).toNat=x)(hs:(o.1=0∧stateN N.nn m.nr k d x=0)∨(o.1≠0∧stateN N.nn m.nr k d x≠2∧stateN N.nn m.nr k d x≠3)):m.begin N d k o={ m with wk:=up1 m.wk k ⟨true,d,m.now⟩,wt:=up1 m.wt d (m.wt d++[(k:Int)]) }:=by
 unfold Mh.begin
 simp only [hx]
 rw [if_neg (by rw [hf];simp),if_pos hs]
theorem mbegin_load {N:Cn}{m:Mh}{d k x:Nat}{o:OpT}(hf:faultF N.c o=0)(hx:(o.2.1 / (N.ln:Int)).toNat=x)(ho:o.1=0)(hs:stateN N.nn m.nr k d x≠0):m.begin N d k o=({ m with wk:=up1 m.wk k ⟨true,d,m.now⟩ }:Mh).finish k (({ m with wk:=up1 m.wk k ⟨true,d,m.now⟩ }:Mh).valueOf N d o) 0:=by
 unfold Mh.begin
 simp only [hx]
 rw [if_neg (by rw [hf];simp),if_neg (by omega),if_neg (by omega),perform_load ho]
theorem mbegin_store {N:Cn}{m:Mh}{d k x:Nat}{o:OpT}(hf:faultF N.c o=0)(hx:(o.2.1 / (N.ln:Int)).toNat=x)(ho:o.1=1)(hs:stateN N.nn m.nr k d x=2∨stateN N.nn m.nr k d x=3):m.begin N d k o=(({ m with wk:=up1 m.wk k ⟨true,d,m.now⟩,nr:=putN N.nn m.nr k d x 3 }:Mh).perform N d o).finish k o.2.2 0:=by
 unfold Mh.begin
 simp only [hx]
 rw [if_neg (by rw [hf];simp),if_neg (by omega),if_pos ho,value_store ho]
theorem state_range {c:Cf}{k x t:Int}:∀ (lw:Bool) (L:List Ent),0≤stateF c k x t lw L∧stateF c k x t lw L≤3
 | _,[]=>by unfold stateF;omega
 | lw,e::L=>by
  have i1:=state_range (c:=c) (k:=k) (x:=x) (t:=t) true L
  have i2:=state_range (c:=c) (k:=k) (x:=x) (t:=t) lw L
  unfold stateF
  repeat' split
  all_goals first | omega | exact i1 | exact i2
set_option maxHeartbeats 1600000 in
theorem Rel.begin {M:MDat}{N:Cn}{d k:Nat}{t:Int}{m:Mh}{S:So}{B:Nat}{o:OpT}(hN:Nm M.c N)(hc:N.c=M.c)(h:Rel M N d t m S)(hs:SoOk M d S B)(hk:k<N.nc)(ho:m.next d k=some o)(t1:turnZ M.c k t=d)(t2:t%M.c.quantum<M.c.quantum-M.c.flush) :
  Rel M N d t (m.begin N d k o) (So.begin M d k S t):=by
 have hoa:=h.core.opOf hk ho
 have hkin:o.1=0∨o.1=1:=h.core.kin k hk o (by
  unfold Mh.next at ho
  obtain ⟨h1,h2⟩:=List.getElem?_eq_some_iff.1 ho
  rw [← h2];exact List.getElem_mem h1)
 have hl:=hs.lens hN
 have hL:=h.log
 unfold So.begin
 rw [hoa]
 by_cases hf:faultF M.c o≠0
 ·
  simp only [if_pos hf]
  rw [mbegin_fault (by rw [hc];exact hf)]
  exact ⟨h.core.begun hl hk (by decide),hL⟩
 ·
  simp only [if_neg hf]
  have hf0:faultF M.c o=0:=by omega
  obtain ⟨a,ha,hap,hx1,hx2,hx3,hx4,hst⟩:=line_of hN hf0
  have hns:=hL.near k (a / N.ln) hk
  have hnc:M.c.cores.toNat=N.nc:=by have:=hN.nc;omega
  rw [hx2]
  obtain ⟨r0,r3⟩:=state_range (c:=M.c) (k:=k) (x:=((a / N.ln:Nat):Int)) (t:=t) false S.log
  by_cases hq:stateF M.c k ((a / N.ln:Nat):Int) t false S.log=0∨(o.1=1∧stateF M.c k ((a / N.ln:Nat):Int) t false S.log=1)
  ·
   simp only [if_pos hq]
   rw [mbegin_wait (by rw [hc];exact hf0) hx1 (by rw [hns];omega)]
   have h1:=h.core.begun hl hk (w:=1) (by decide)
   exact ⟨⟨h1.now,h1.evs,h1.nx,by
    show up1 m.wt d (m.wt d++[(k:Int)]) d=S.queue++[(k:Int)]
    rw [up1_same,h.core.wt],h1.bz,h1.bg,h1.ops,h1.kin⟩,hL⟩
  ·
   simp only [if_neg hq]
   have hne:stateN N.nn m.nr k d (a / N.ln)≠0:=by rw [hns];omega
   have hway:0≤whereF ((a / N.ln:Nat):Int) S.log:=hL.inc k _ hk (by rw [← hns];exact hne)
   have hwh:=hL.far.wh (a / N.ln)
   have hsl:a / N.ln%N.ns<N.ns:=Nat.mod_lt _ hN.s0
   have hat:o.2.1.toNat=a:=by rw [ha];exact Int.toNat_natCast a
   rcases way_spec (m.blk d (a / N.ln%N.ns)) (N.wn d) ((a / N.ln:Nat):Int) with hw|⟨r,hr,hw,hline⟩
   · rw [hwh,hw] at hway;omega
   ·
    by_cases h1:o.1=1
    ·
     simp only [if_pos h1]
     rw [mbegin_store (by rw [hc];exact hf0) hx1 h1 (by rw [hns];omega),perform_store' h1 hx1 hw _ ?hb]
     case hb=>rfl
     have hG:=hL.hit (v:=o.2.2) (w2:=0) hN hk (hst h1) hr hline hne t1 t2
     rw [← up3_at] at hG
     have hb:=h.core.begun hl hk (w:=1) (by decide)
     have hC:=((hb.same (m':={ m with wk:=up1 m.wk k ⟨true,d,m.now⟩,nr:=putN N.nn m.nr k d (a / N.ln) 3,blk:=up3 m.blk d (a / N.ln%N.ns) r ⟨(m.blk d (a / N.ln%N.ns) r).line,true,up1 (m.blk d (a / N.ln%N.ns) r).wd (o.2.1.toNat-a / N.ln*N.ln) o.2.2⟩ }) rfl rfl rfl rfl rfl rfl).told ⟨t,4,k,((a / N.ln:Nat):Int),0,false,false,o.2.1,o.2.2⟩).finish (k:=k) ⟨by show (S.how.set k 1).length=_;rw [List.length_set];exact hl.hl,hl.nl,hl.fl,by show (S.began.set k t).length=_;rw [List.length_set];exact hl.bl⟩ hk (by show (S.how.set k 1).getD k 0≠0;rw [getD_set (by rw [hl.hl];exact hk),if_pos rfl];decide) o.2.2 0
     have hdone:((({ S with began:=S.began.set k t,how:=S.how.set k 1 }:So).told ⟨t,4,k,((a / N.ln:Nat):Int),0,false,false,o.2.1,o.2.2⟩).done k t o.2.2 0)=((({ S with began:=S.began.set k t }:So).told ⟨t,4,k,((a / N.ln:Nat):Int),0,false,false,o.2.1,o.2.2⟩).done k t o.2.2 0):=by
      unfold So.done So.told
      simp only [List.set_set]
     rw [hdone] at hC
     refine ⟨hC,?_⟩
     show RelL M.c N (firstF0 M d) d t (up3 m.blk d (a / N.ln%N.ns) r ⟨(m.blk d (a / N.ln%N.ns) r).line,true,up1 (m.blk d (a / N.ln%N.ns) r).wd (o.2.1.toNat-a / N.ln*N.ln) o.2.2⟩ d) (m.tch d) (m.own d) (putN N.nn m.nr k d (a / N.ln) 3) m.sh (⟨t,4,k,((a / N.ln:Nat):Int),0,false,false,o.2.1,o.2.2⟩::S.log)
     rw [hat,hline,ha]
     exact hG
    ·
     simp only [if_neg h1]
     have h0:o.1=0:=by omega
     rw [mbegin_load (by rw [hc];exact hf0) hx1 h0 hne,value_load' h0 hx1 hw _ ?hb]
     case hb=>rfl
     have hv:(m.blk d (a / N.ln%N.ns) r).wd (o.2.1.toNat-a / N.ln*N.ln)=wordF o.2.1 (firstF0 M d o.2.1) S.log:=by
      rw [hat,hL.far.wd _ r _ hsl hr (by omega) (by rw [hline];omega),hline]
      have:((a / N.ln:Nat):Int)*N.ln+((a-a / N.ln*N.ln:Nat):Int)=o.2.1:=by
       rw [ha,← Int.natCast_mul,← Int.natCast_add];congr 1;omega
      rw [this]
     rw [hv]
     have hb:=h.core.begun hl hk (w:=1) (by decide)
     have hC:=hb.finish (k:=k) ⟨by show (S.how.set k 1).length=_;rw [List.length_set];exact hl.hl,hl.nl,hl.fl,by show (S.began.set k t).length=_;rw [List.length_set];exact hl.bl⟩ hk (by show (S.how.set k 1).getD k 0≠0;rw [getD_set (by rw [hl.hl];exact hk),if_pos rfl];decide) (wordF o.2.1 (firstF0 M d o.2.1) S.log) 0
     have hdone:(({ S with began:=S.began.set k t,how:=S.how.set k 1 }:So).done k t (wordF o.2.1 (firstF0 M d o.2.1) S.log) 0)=(({ S with began:=S.began.set k t }:So).done k t (wordF o.2.1 (firstF0 M d o.2.1) S.log) 0):=by
      unfold So.done
      simp only [List.set_set]
     rw [hdone] at hC
     exact ⟨hC,hL⟩
structure Other (c:Cf)(t:Int)(N:Cn)(d:Nat)(m m':Mh):Prop where
 now:m'.now=m.now
 tr:m'.tr d=m.tr d
 dn:m'.dn d=m.dn d
 wt:m'.wt d=m.wt d
 ops:m'.ops d=m.ops d
 blk:m'.blk d=m.blk d
 tch:m'.tch d=m.tch d
 own:m'.own d=m.own d
 sh:m'.sh=m.sh
 wk:∀ k,k<N.nc→(((m'.wk k).busy=true∧(m'.wk k).dom=(d:Int))↔((m.wk k).busy=true∧(m.wk k).dom=(d:Int)))∧((m.wk k).busy=true→(m.wk k).dom=(d:Int)→(m'.wk k).issue=(m.wk k).issue)
 near:∀ (L:List Ent),(∀ k:Nat,turnZ c k t≠d→∀ x:Nat,stateF c k x t false L=0)→NearR c N.nn N.nc m.nr d t L→NearR c N.nn N.nc m'.nr d t L
theorem Rel.other {M:MDat}{N:Cn}{d:Nat}{t:Int}{m m':Mh}{S:So}(hN:Nm M.c N)(h:Rel M N d t m S)(o:Other M.c t N d m m'):Rel M N d t m' S:=by
 refine ⟨h.core.frame o.now o.tr o.dn o.wt o.ops (fun k hk=>(o.wk k hk).1) (fun k hk=>(o.wk k hk).2),?_⟩
 rw [o.blk,o.tch,o.own,o.sh]
 exact h.log.near' (o.near _ (fun k hk x=>h.log.lt.away (right_of hN.right) hk x) h.log.near)
theorem Other.refl {c:Cf}{t:Int}{N:Cn}{d:Nat}{m:Mh}:Other c t N d m m:=⟨rfl,rfl,rfl,rfl,rfl,rfl,rfl,rfl,rfl,fun _ _=>⟨Iff.rfl,fun _ _=>rfl⟩,fun _ _ h=>h⟩
theorem Other.trans {cf:Cf}{t:Int}{N:Cn}{d:Nat}{a b c:Mh}(h:Other cf t N d a b)(g:Other cf t N d b c):Other cf t N d a c:=
 ⟨g.now.trans h.now,g.tr.trans h.tr,g.dn.trans h.dn,g.wt.trans h.wt,g.ops.trans h.ops,g.blk.trans h.blk,g.tch.trans h.tch,g.own.trans h.own,g.sh.trans h.sh,fun k hk=>⟨(g.wk k hk).1.trans (h.wk k hk).1,fun h1 h2=>by
  obtain ⟨q1,q2⟩:=(h.wk k hk).1.2 ⟨h1,h2⟩
  rw [(g.wk k hk).2 q1 q2];exact (h.wk k hk).2 h1 h2⟩,fun L h1 h2=>g.near L h1 (h.near L h1 h2)⟩
theorem lturn_range {c:Cf}(h:chk c=0){k:Nat}{t:Int}(hk:(k:Int)<c.cores)(ho:openB c k (turnZ c k t) t=true):0≤turnZ c k t∧turnZ c k t<c.domains:=by
 have R:=right_of h
 unfold openB at ho
 simp only [Bool.and_eq_true,decide_eq_true_eq] at ho
 refine ⟨ho.1.2,?_⟩
 have hi:k<c.turns.length:=by have:=R.tl;omega
 have hrow:=grid_row R hi
 have e:c.turns.getD k []=c.turns[k]:=by simp [List.getD,hi]
 have hl:=R.each _ (List.getElem_mem hi)
 rw [← e] at hl
 unfold turnZ rowOf
 obtain ⟨j,hj,hjl⟩:=mod_nat (a:=t / c.quantum) (n:=(c.turns.getD k []).length) (by omega)
 rw [hj,Int.toNat_natCast]
 unfold listB at hl
 simp only [Bool.and_eq_true,List.all_eq_true] at hl
 have hm:∀ (l:List Int) (j:Nat),j<l.length→l.getD j 0∈l:=fun l j hj=>by
  rw [List.getD_eq_getElem?_getD,List.getElem?_eq_getElem hj]
  exact List.getElem_mem hj
 have hm:=hm _ j hjl
 have:=hl.2 _ hm
 rw [within_iff] at this
 omega
theorem lserved_range {c:Cf}(h:chk c=0)(t:Int):servedF c t=-1∨(0≤servedF c t∧servedF c t<c.domains):=by
 have R:=right_of h
 unfold servedF
 split
 ·
  right
  obtain ⟨j,hj,hjl⟩:=mod_nat (a:=t / c.slot) (n:=c.slots.length) (by have:=R.t1;omega)
  rw [hj,Int.toNat_natCast]
  have hm:∀ (l:List Int) (j:Nat),j<l.length→l.getD j 0∈l:=fun l j hj=>by
   rw [List.getD_eq_getElem?_getD,List.getElem?_eq_getElem hj]
   exact List.getElem_mem hj
  have hm:=hm _ j hjl
  have hs:=(chk_zero h).2.2.1
  simp only [slotsB,listB,Bool.and_eq_true,List.all_eq_true] at hs
  have:=hs.1.2.2 _ hm
  rw [within_iff] at this
  omega
 · exact Or.inl rfl
theorem serves_served {c:Cf}{d:Nat}{t:Int}:servesB c d t=true↔servedF c t=(d:Int):=by
 unfold servesB servedF
 by_cases h:t%c.slot=c.slot-1
 · rw [if_pos h];simp [h]
 · rw [if_neg h];simp [h]
theorem Other.perform {c:Cf}{t:Int}{N:Cn}{d e:Nat}{m:Mh}(hne:e≠d)(o:OpT):Other c t N d m (m.perform N e o):=by
 unfold Mh.perform
 simp only
 split
 · exact Other.refl
 · exact ⟨rfl,rfl,rfl,rfl,rfl,up3_other _ _ _ _ (fun q=>hne q.symm),rfl,rfl,rfl,fun _ _=>⟨Iff.rfl,fun _ _=>rfl⟩,fun _ _ h=>h⟩
theorem Other.finish {c:Cf}{t:Int}{N:Cn}{d e k:Nat}{m:Mh}(hne:e≠d)(hk:(m.wk k).dom=(e:Int))(v f:Int):Other c t N d m (m.finish k v f):=by
 have dd:(m.wk k).dom.toNat=e:=by rw [hk];exact Int.toNat_natCast e
 have hne':d≠e:=fun q=>hne q.symm
 unfold Mh.finish
 simp only [dd]
 refine ⟨rfl,up1_other _ _ hne',up2_other _ _ _ hne',rfl,rfl,rfl,rfl,rfl,rfl,fun j _=>?_,fun _ _ h=>h⟩
 by_cases q:j=k
 ·
  subst q
  simp only [up1_same]
  exact ⟨⟨fun h=>absurd h.1 (by decide),fun h=>absurd (h.2.symm.trans hk) (by omega)⟩,fun _ _=>by trivial⟩
 ·
  have e2:up1 m.wk k ⟨false,(m.wk k).dom,(m.wk k).issue⟩ j=m.wk j:=up1_other _ _ q
  dsimp only
  rw [e2]
  exact ⟨Iff.rfl,fun _ _=>rfl⟩
theorem Other.hand {c:Cf}{t:Int}{N:Cn}{d e k:Nat}{m:Mh}(hne:e≠d)(hk:turnZ c k t≠d)(o:OpT):Other c t N d m (m.hand N e k o):=by
 have hne':(e:Int)≠(d:Int):=by omega
 unfold Mh.hand
 simp only
 split
 · exact ⟨rfl,rfl,rfl,rfl,rfl,rfl,rfl,rfl,rfl,fun _ _=>⟨Iff.rfl,fun _ _=>rfl⟩,fun L hz h=>(h.otherDrop hne' _ _).otherPut hne' _ _ (hz k hk)⟩
 · exact ⟨rfl,rfl,rfl,rfl,rfl,rfl,rfl,rfl,rfl,fun _ _=>⟨Iff.rfl,fun _ _=>rfl⟩,fun L hz h=>(h.otherShare hne' _ _).otherPut hne' _ _ (hz k hk)⟩
theorem Other.fetch {c:Cf}{t:Int}{N:Cn}{d e x:Nat}{m:Mh}(hne:e≠d):Other c t N d m (m.fetch N e x):=by
 have hne':(e:Int)≠(d:Int):=by omega
 have hne2:d≠e:=fun q=>hne q.symm
 unfold Mh.fetch
 simp only
 by_cases h1:(m.blk e (x%N.ns) (roomF (m.blk e (x%N.ns)) (N.wn e) (m.tch e (x%N.ns))).toNat).line=-1
 ·
  simp only [h1,if_true]
  split
  · exact ⟨rfl,rfl,rfl,rfl,rfl,up3_other _ _ _ _ hne2,rfl,up1_other _ _ hne2,rfl,fun _ _=>⟨Iff.rfl,fun _ _=>rfl⟩,fun _ _ h=>h⟩
  · exact ⟨rfl,rfl,rfl,rfl,rfl,up3_other _ _ _ _ hne2,rfl,rfl,rfl,fun _ _=>⟨Iff.rfl,fun _ _=>rfl⟩,fun _ _ h=>h⟩
 ·
  simp only [h1,if_false]
  split
  · exact ⟨rfl,rfl,rfl,rfl,rfl,up3_other _ _ _ _ hne2,rfl,up1_other _ _ hne2,rfl,fun _ _=>⟨Iff.rfl,fun _ _=>rfl⟩,fun _ _ h=>h.otherDrop hne' _ _⟩
  · exact ⟨rfl,rfl,rfl,rfl,rfl,up3_other _ _ _ _ hne2,rfl,rfl,rfl,fun _ _=>⟨Iff.rfl,fun _ _=>rfl⟩,fun _ _ h=>h.otherDrop hne' _ _⟩
theorem hand_wk {N:Cn}{m:Mh}{e k:Nat}{o:OpT}:(m.hand N e k o).wk=m.wk:=by
 unfold Mh.hand;simp only;split <;> rfl
theorem perform_wk {N:Cn}{m:Mh}{e:Nat}{o:OpT}:(m.perform N e o).wk=m.wk:=by
 unfold Mh.perform;simp only;split <;> rfl
theorem fetch_wk {N:Cn}{m:Mh}{e x:Nat}:(m.fetch N e x).wk=m.wk:=by
 unfold Mh.fetch;simp only;split <;> split <;> rfl
theorem Other.serve {c:Cf}{t:Int}{N:Cn}{d e:Nat}{m:Mh}(hne:e≠d)(hw:∀ core q,m.wt e=core::q→∃ k:Nat,core=(k:Int)∧(m.wk k).dom=(e:Int)∧turnZ c k t=(e:Int)):Other c t N d m (m.serve N e).1:=by
 have hne2:d≠e:=fun q=>hne q.symm
 unfold Mh.serve
 cases hq:m.wt e with
 | nil=>exact Other.refl
 | cons core q=>
  obtain ⟨k,rfl,h1,h2⟩:=hw core q hq
  simp only [Int.toNat_natCast]
  cases hn:m.next e k with
  | none=>exact Other.refl
  | some o=>
   simp only
   split
   · exact Other.fetch hne
   ·
    refine Other.trans (b:={ m with wt:=up1 m.wt e q,tch:=up2 m.tch e ((o.2.1 / (N.ln:Int)).toNat%N.ns) (touchF (m.tch e ((o.2.1 / (N.ln:Int)).toNat%N.ns)) (wayF (m.blk e ((o.2.1 / (N.ln:Int)).toNat%N.ns)) (N.wn e) ((o.2.1 / (N.ln:Int)).toNat:Nat))) }) ?_ ?_
    · exact ⟨rfl,rfl,rfl,up1_other _ _ hne2,rfl,rfl,up2_other _ _ _ hne2,rfl,rfl,fun _ _=>⟨Iff.rfl,fun _ _=>rfl⟩,fun _ _ h=>h⟩
    ·
     refine Other.trans (Other.hand (k:=k) hne (by omega) o) (Other.trans (Other.perform hne o) (Other.finish hne ?_ _ _))
     rw [perform_wk,hand_wk]
     exact h1
theorem Other.begin {c:Cf}{t:Int}{N:Cn}{d e k:Nat}{m:Mh}(hne:e≠d)(hk:turnZ c k t=(e:Int))(hb:(m.wk k).busy=false)(o:OpT):Other c t N d m (m.begin N e k o):=by
 have hne2:d≠e:=fun q=>hne q.symm
 have hne':(e:Int)≠(d:Int):=by omega
 have hwk:∀ j,(((up1 m.wk k ⟨true,(e:Int),m.now⟩ j).busy=true∧(up1 m.wk k ⟨true,(e:Int),m.now⟩ j).dom=(d:Int))↔((m.wk j).busy=true∧(m.wk j).dom=(d:Int)))∧((m.wk j).busy=true→(m.wk j).dom=(d:Int)→(up1 m.wk k ⟨true,(e:Int),m.now⟩ j).issue=(m.wk j).issue):=fun j=>by
  by_cases q:j=k
  ·
   subst q
   simp only [up1_same]
   exact ⟨⟨fun h=>absurd h.2 hne',fun h=>by rw [hb] at h;exact absurd h.1 (by decide)⟩,fun h=>by rw [hb] at h;exact absurd h (by decide)⟩
  ·
   have e2:up1 m.wk k ⟨true,(e:Int),m.now⟩ j=m.wk j:=up1_other _ _ q
   rw [e2]
   exact ⟨Iff.rfl,fun _ _=>rfl⟩
 have h1:Other c t N d m { m with wk:=up1 m.wk k ⟨true,(e:Int),m.now⟩ }:=⟨rfl,rfl,rfl,rfl,rfl,rfl,rfl,rfl,rfl,fun j _=>hwk j,fun _ _ h=>h⟩
 have hdom:∀ m':Mh,m'.wk=up1 m.wk k ⟨true,(e:Int),m.now⟩→(m'.wk k).dom=(e:Int):=fun m' q=>by rw [q,up1_same]
 unfold Mh.begin
 simp only
 split
 · exact h1
 ·
  split
  · exact ⟨rfl,rfl,rfl,up1_other _ _ hne2,rfl,rfl,rfl,rfl,rfl,fun j _=>hwk j,fun _ _ h=>h⟩
  ·
   split
   ·
    refine h1.trans (Other.trans (b:={ m with wk:=up1 m.wk k ⟨true,(e:Int),m.now⟩,nr:=putN N.nn m.nr k e (o.2.1 / (N.ln:Int)).toNat 3 }) ?_ ((Other.perform hne o).trans (Other.finish hne (hdom _ perform_wk) _ _)))
    exact ⟨rfl,rfl,rfl,rfl,rfl,rfl,rfl,rfl,rfl,fun _ _=>⟨Iff.rfl,fun _ _=>rfl⟩,fun L hz h=>h.otherPut hne' _ _ (hz k (by omega))⟩
   · exact h1.trans ((Other.perform hne o).trans (Other.finish hne (hdom _ perform_wk) _ _))
def Doms (N:Cn)(m:Mh):Prop:=∀ k,k<N.nc→(m.wk k).busy=true→∃ e,e<N.nd∧(m.wk k).dom=(e:Int)
theorem Doms.same {N:Cn}{m m':Mh}(h:Doms N m)(e:m'.wk=m.wk):Doms N m':=fun k hk hb=>by rw [e] at hb ⊢;exact h k hk hb
theorem Doms.finish {N:Cn}{m:Mh}(h:Doms N m)(k:Nat)(v f:Int):Doms N (m.finish k v f):=fun j hj hb=>by
 unfold Mh.finish at hb ⊢
 simp only at hb ⊢
 by_cases q:j=k
 · subst q;rw [up1_same] at hb;exact absurd hb (by simp)
 · rw [up1_other _ _ q] at hb ⊢;exact h j hj hb
theorem Doms.serve {N:Cn}{m:Mh}(h:Doms N m)(e:Nat):Doms N (m.serve N e).1:=by
 unfold Mh.serve
 cases hq:m.wt e with
 | nil=>exact h
 | cons core q=>
  simp only
  cases hn:m.next e core.toNat with
  | none=>exact h
  | some o=>
   simp only
   split
   · exact h.same fetch_wk
   ·
    refine Doms.finish ?_ _ _ _
    exact h.same (by rw [perform_wk,hand_wk])
theorem Doms.begin {N:Cn}{m:Mh}(h:Doms N m){e:Nat}(he:e<N.nd)(k:Nat)(o:OpT):Doms N (m.begin N e k o):=by
 have h1:∀ m':Mh,m'.wk=up1 m.wk k ⟨true,(e:Int),m.now⟩→Doms N m':=fun m' q j hj hb=>by
  rw [q] at hb ⊢
  by_cases q2:j=k
  · subst q2;rw [up1_same];exact ⟨e,he,rfl⟩
  · rw [up1_other _ _ q2] at hb ⊢;exact h j hj hb
 unfold Mh.begin
 simp only
 split
 · exact h1 _ rfl
 ·
  split
  · exact h1 _ rfl
  ·
   split
   · exact Doms.finish (h1 _ perform_wk) _ _ _
   · exact Doms.finish (h1 _ perform_wk) _ _ _
theorem works_closed {M:MDat}{d k:Nat}{S:So}{t:Int}(h0:S.how.getD k 0=0)(h:t<S.free.getD k 0∨((progF M d k).length:Int)≤S.next.getD k 0∨openB M.c k d t=false):So.works M d k S t=S:=by
 unfold So.works
 rw [if_neg (by omega),if_pos (Or.inr h)]
theorem open_other {c:Cf}{k:Nat}{d t:Int}(h:turnZ c k t≠d):openB c k d t=false:=by
 unfold openB
 simp [h]
theorem Rel.step {M:MDat}{N:Cn}{k:Nat}{t:Int}{m:Mh}{S:Nat→So}{served:Int}(hN:Nm M.c N)(hc:N.c=M.c)(hk:k<N.nc)
  (hrel:∀ d,d<N.nd→Rel M N d t m (S d)) (hok:∀ d,d<N.nd→∃ B,SoOk M d (S d) B) (hdom:Doms N m)
  (hturn:∀ d:Nat,d<N.nd→(S d).how.getD k 0≠0→turnZ M.c k t=(d:Int))
  (hfault:∀ d,d<N.nd→(S d).how.getD k 0=2→faultF M.c (opAt M d k (S d))≠0∧t≤(S d).began.getD k 0+2)
  (hfree:∀ d,d<N.nd→(S d).free.getD k 0≤t∨(k:Int)=served)
  (hserved:(k:Int)=served→∃ e,e<N.nd∧turnZ M.c k t=(e:Int)∧t<(S e).free.getD k 0) :
  (∀ d,d<N.nd→Rel M N d t (m.step N served k) (So.works M d k (S d) t))∧Doms N (m.step N served k):=by
 have hnc:M.c.cores.toNat=N.nc:=by have:=hN.nc;omega
 unfold Mh.step
 by_cases hb:(m.wk k).busy=true
 ·
  rw [if_pos hb]
  obtain ⟨e,he,hde⟩:=hdom k hk hb
  have hre:=hrel e he
  have hhow:(S e).how.getD k 0≠0:=(hre.core.bz k hk).2 ⟨hb,hde⟩
  have hte:=hturn e he hhow
  obtain ⟨B,hs⟩:=hok e he
  have hw:=hs.hw k (by omega)
  obtain ⟨o,ho,hoa,_⟩:=hre.core.has hk (by omega)
  have hbg:=hre.core.bg k hk hhow
  have hnow:=hre.core.now
  have hoth:∀ d,d<N.nd→d≠e→So.works M d k (S d) t=S d:=fun d hd hne=>by
   refine works_closed ?_ (Or.inr (Or.inr (open_other (by omega))))
   refine Classical.byContradiction fun q=>?_
   have:=((hrel d hd).core.bz k hk).1 q
   omega
  have hend:m.endFault N k=if faultF M.c o≠0∧(m.wk k).issue+2≤m.now then m.finish k 0 (faultF M.c o) else m:=by
   unfold Mh.endFault
   have dd:(m.wk k).dom.toNat=e:=by rw [hde];exact Int.toNat_natCast e
   rw [dd,ho,hc]
  rw [hend]
  by_cases hf:faultF M.c o≠0∧(m.wk k).issue+2≤m.now
  ·
   rw [if_pos hf]
   refine ⟨fun d hd=>?_,hdom.finish _ _ _⟩
   by_cases q:d=e
   ·
    subst q
    have h2:(S d).how.getD k 0=2:=by
     rcases hw with w|⟨w|w,_⟩
     · exact absurd w hhow
     ·
      have:=hs.w1 k (by omega) w
      rw [hoa] at this;exact absurd this hf.1
     · exact w
    have:=(hfault d hd h2).2
    have hwk:So.works M d k (S d) t=(S d).done k t 0 (faultF M.c o):=by
     unfold So.works
     rw [if_pos ⟨h2,by omega⟩,hoa]
    rw [hwk]
    exact ⟨hre.core.finish (hs.lens hN) hk hhow 0 _,hre.log⟩
   ·
    rw [hoth d hd q]
    exact (hrel d hd).other hN (Other.finish (fun q2=>q q2.symm) hde _ _)
  ·
   rw [if_neg hf]
   refine ⟨fun d hd=>?_,hdom⟩
   by_cases q:d=e
   ·
    subst q
    have hwk:So.works M d k (S d) t=S d:=by
     unfold So.works
     rw [if_neg (fun w=>hf ⟨by rw [← hoa];exact (hfault d hd w.1).1,by omega⟩),if_pos (Or.inl hhow)]
    rw [hwk];exact hre
   · rw [hoth d hd q];exact hrel d hd
 ·
  rw [if_neg hb]
  have hb':(m.wk k).busy=false:=by simpa using hb
  have h0:∀ d,d<N.nd→(S d).how.getD k 0=0:=fun d hd=>Classical.byContradiction fun q=>hb (((hrel d hd).core.bz k hk).1 q).1
  by_cases hsv:(k:Int)=served
  ·
   rw [if_pos hsv]
   obtain ⟨e,he,h1,h2⟩:=hserved hsv
   refine ⟨fun d hd=>?_,hdom⟩
   by_cases q:d=e
   · subst q;rw [works_closed (h0 d hd) (Or.inl h2)];exact hrel d hd
   · rw [works_closed (h0 d hd) (Or.inr (Or.inr (open_other (by omega))))];exact hrel d hd
  ·
   rw [if_neg hsv]
   have hfr:∀ d,d<N.nd→(S d).free.getD k 0≤t:=fun d hd=>(hfree d hd).resolve_right hsv
   have hm:m.now=t∨N.nd=0:=by
    by_cases q:N.nd=0
    · exact Or.inr q
    · exact Or.inl (hrel 0 (by omega)).core.now
   have hnd0:N.nd≠0:=by have:=(right_of hN.right).d1;have:=hN.nd;omega
   have hnow:m.now=t:=hm.resolve_right hnd0
   rw [hnow,hc]
   by_cases hop:openB M.c k (turnZ M.c k t) t=false
   ·
    rw [if_pos hop]
    refine ⟨fun d hd=>?_,hdom⟩
    have:openB M.c k d t=false:=by
     by_cases q:turnZ M.c k t=(d:Int)
     · rw [← q];exact hop
     · exact open_other q
    rw [works_closed (h0 d hd) (Or.inr (Or.inr this))];exact hrel d hd
   ·
    rw [if_neg hop]
    have hop':openB M.c k (turnZ M.c k t) t=true:=by simpa using hop
    obtain ⟨r0,r1⟩:=lturn_range hN.right (by have:=hN.nc;omega) hop'
    obtain ⟨e,hte⟩:∃ e:Nat,turnZ M.c k t=(e:Int):=⟨_,(Int.toNat_of_nonneg r0).symm⟩
    have he:e<N.nd:=by have:=hN.nd;omega
    rw [hte,Int.toNat_natCast]
    have hoe:openB M.c k e t=true:=by rw [← hte];exact hop'
    cases hn:m.next e k with
    | none=>
     refine ⟨fun d hd=>?_,hdom⟩
     by_cases q:d=e
     · subst q;rw [works_closed (h0 d hd) (Or.inr (Or.inl ((hrel d hd).core.lacks hk hn)))];exact hrel d hd
     · rw [works_closed (h0 d hd) (Or.inr (Or.inr (open_other (by omega))))];exact hrel d hd
    | some o=>
     refine ⟨fun d hd=>?_,hdom.begin he _ _⟩
     by_cases q:d=e
     ·
      subst q
      obtain ⟨B,hs⟩:=hok d hd
      have hlt:(S d).next.getD k 0<(progF M d k).length:=by
       have h1:=(hrel d hd).core.nx k hk
       have h2:=(hrel d hd).core.ops k hk
       unfold Mh.next at hn
       obtain ⟨h3,_⟩:=List.getElem?_eq_some_iff.1 hn
       rw [← h2,h1];omega
      have hwk:So.works M d k (S d) t=So.begin M d k (S d) t:=by
       unfold So.works
       have:=h0 d hd
       have:=hfr d hd
       rw [if_neg (by omega),if_neg (fun w=>?_)]
       rcases w with w|w|w|w
       · omega
       · omega
       · omega
       · rw [hoe] at w;exact absurd w (by decide)
      rw [hwk]
      have hop2:=hoe
      unfold openB at hop2
      simp only [Bool.and_eq_true,decide_eq_true_eq] at hop2
      have w0:=(right_of hN.right).w0
      exact (hrel d hd).begin hN hc hs hk hn hte (by omega)
     ·
      rw [works_closed (h0 d hd) (Or.inr (Or.inr (open_other (by omega))))]
      exact (hrel d hd).other hN (Other.begin (fun q2=>q q2.symm) hte hb' o)
theorem worksAll_snoc {M:MDat}{d:Nat}{t:Int}:∀ (n j:Nat) (S:So),So.worksAll M d t (n+1) j S=So.works M d (j+n) (So.worksAll M d t n j S) t
 | 0,_,_=>rfl
 | n+1,j,S=>by
  have:=worksAll_snoc (M:=M) (d:=d) (t:=t) n (j+1) (So.works M d j S t)
  rw [So.worksAll,this,So.worksAll]
  congr 1
  omega
theorem worksAll_ahead {M:MDat}{d:Nat}{t:Int}{k:Nat}:∀ (n:Nat) (S:So),n≤k→viewF (So.worksAll M d t n 0 S) k=viewF S k
 | 0,_,_=>rfl
 | n+1,S,h=>by
  rw [worksAll_snoc,view_works_other (by omega)]
  exact worksAll_ahead n S (by omega)
theorem view_op {M:MDat}{d k:Nat}{S S':So}(h:viewF S k=viewF S' k):opAt M d k S=opAt M d k S':=by
 have:S.next.getD k 0=S'.next.getD k 0:=congrArg (fun v=>v.2.1) h
 unfold opAt
 rw [this]
theorem Rel.service {M:MDat}{N:Cn}{t:Int}{m:Mh}{S:Nat→So}(hN:Nm M.c N)(hc:N.c=M.c)(hnow:m.now=t)
  (hrel:∀ d,d<N.nd→Rel M N d t m (S d)) (hok:∀ d,d<N.nd→∃ B,SoOk M d (S d) B) (hdom:Doms N m)
  (hturn:∀ d:Nat,d<N.nd→∀ k,k<N.nc→(S d).how.getD k 0≠0→turnZ M.c k t=(d:Int)∧t%M.c.quantum<M.c.quantum-M.c.flush)
  (hfree:∀ d,d<N.nd→∀ k,(S d).free.getD k 0≤t) :
  (∀ d,d<N.nd→Rel M N d t (m.service N).1 (So.service M d (S d) t))∧Doms N (m.service N).1∧
  (∀ d,d<N.nd→∀ k:Nat,(So.service M d (S d) t).free.getD k 0≤t∨(k:Int)=(m.service N).2)∧
  (∀ k:Nat,k<N.nc→(k:Int)=(m.service N).2→∃ e,e<N.nd∧turnZ M.c k t=(e:Int)∧t<(So.service M e (S e) t).free.getD k 0):=by
 unfold Mh.service
 rw [hc,hnow]
 have skip:∀ d:Nat,servedF M.c t≠(d:Int)→So.service M d (S d) t=S d:=fun d hd=>by
  unfold So.service
  rw [if_neg (fun q=>hd (serves_served.1 q))]
 by_cases hneg:servedF M.c t<0
 ·
  rw [if_pos hneg]
  refine ⟨fun d hd=>by rw [skip d (by omega)];exact hrel d hd,hdom,fun d hd k=>by rw [skip d (by omega)];exact Or.inl (hfree d hd k),fun k _ q=>?_⟩
  have:(k:Int)=-1:=q
  omega
 ·
  rw [if_neg hneg]
  obtain ⟨e,he'⟩:∃ e:Nat,servedF M.c t=(e:Int):=⟨_,(Int.toNat_of_nonneg (by omega)).symm⟩
  have he:e<N.nd:=by
   have:=lserved_range hN.right t
   have:=hN.nd
   omega
  rw [he',Int.toNat_natCast]
  have own:So.service M e (S e) t=So.serve M e (S e) t:=by
   unfold So.service
   rw [if_pos (serves_served.2 he')]
  obtain ⟨B,hs⟩:=hok e he
  obtain ⟨h1,h2⟩:=(hrel e he).serve hN hc he hs (hturn e he)
  have hl:=hs.lens hN
  refine ⟨fun d hd=>?_,hdom.serve e,fun d hd k=>?_,fun k hk q=>?_⟩
  ·
   by_cases g:d=e
   · subst g;rw [own];exact h1
   ·
    rw [skip d (by omega)]
    refine (hrel d hd).other hN (Other.serve (fun q=>g q.symm) fun core q hq=>?_)
    have hq':(S e).queue=core::q:=(hrel e he).core.wt.symm.trans hq
    obtain ⟨k,e1,e2,e3⟩:=hs.qu core (by rw [hq'];exact List.mem_cons_self ..)
    have hk:k<N.nc:=by have:=hN.nc;omega
    have hh:(S e).how.getD k 0≠0:=by omega
    exact ⟨k,e1,(((hrel e he).core.bz k hk).1 hh).2,(hturn e he k hk hh).1⟩
  ·
   by_cases g:d=e
   ·
    subst g
    rw [own]
    rcases h2 with ⟨_,q⟩|⟨j,q1,q2,q3,q4⟩
    · rw [q];exact Or.inl (hfree d hd k)
    ·
     rw [q4,q2]
     by_cases w:k=j
     · right;rw [w]
     ·
      left
      rw [getD_set (by rw [hl.fl];exact q1),if_neg w]
      exact hfree d hd k
   · rw [skip d (by omega)];exact Or.inl (hfree d hd k)
  ·
   rcases h2 with ⟨q1,_⟩ | ⟨j,q1,q2,q3,q4⟩
   · omega
   ·
    have:k=j:=by omega
    subst this
    refine ⟨e,he,(hturn e he k hk q3).1,?_⟩
    rw [own,q4,getD_set (by rw [hl.fl];exact q1),if_pos rfl]
    omega
theorem Rel.steps {M:MDat}{N:Cn}{t:Int}{m:Mh}{S:Nat→So}{served:Int}(hN:Nm M.c N)(hc:N.c=M.c)(t0:0≤t)(t1:t≤10000)
  (hrel:∀ d,d<N.nd→Rel M N d t m (S d)) (hok:∀ d,d<N.nd→∃ B,SoOk M d (S d) B) (hdom:Doms N m)
  (hturn:∀ d:Nat,d<N.nd→∀ k,k<N.nc→(S d).how.getD k 0≠0→turnZ M.c k t=(d:Int))
  (hfault:∀ d,d<N.nd→∀ k,k<N.nc→(S d).how.getD k 0=2→faultF M.c (opAt M d k (S d))≠0∧t≤(S d).began.getD k 0+2)
  (hfree:∀ d,d<N.nd→∀ k:Nat,(S d).free.getD k 0≤t∨(k:Int)=served)
  (hserved:∀ k:Nat,k<N.nc→(k:Int)=served→∃ e,e<N.nd∧turnZ M.c k t=(e:Int)∧t<(S e).free.getD k 0) :
  ∀ n,n≤N.nc→(∀ d,d<N.nd→Rel M N d t (Mh.steps N served n m) (So.worksAll M d t n 0 (S d)))∧Doms N (Mh.steps N served n m)
 | 0,_=>⟨hrel,hdom⟩
 | n+1,h=>by
  obtain ⟨ih1,ih2⟩:=Rel.steps hN hc t0 t1 hrel hok hdom hturn hfault hfree hserved n (by omega)
  have hnc:M.c.cores.toNat=N.nc:=by have:=hN.nc;omega
  have vw:∀ d,viewF (So.worksAll M d t n 0 (S d)) n=viewF (S d) n:=fun d=>worksAll_ahead n (S d) (Nat.le_refl _)
  have v1:∀ d,(So.worksAll M d t n 0 (S d)).how.getD n 0=(S d).how.getD n 0:=fun d=>congrArg (fun v=>v.1) (vw d)
  have v3:∀ d,(So.worksAll M d t n 0 (S d)).free.getD n 0=(S d).free.getD n 0:=fun d=>congrArg (fun v=>v.2.2.1) (vw d)
  have v4:∀ d,(So.worksAll M d t n 0 (S d)).began.getD n 0=(S d).began.getD n 0:=fun d=>congrArg (fun v=>v.2.2.2) (vw d)
  have:=Rel.step (k:=n) (S:=fun d=>So.worksAll M d t n 0 (S d)) (served:=served) hN hc (by omega) ih1 (fun d hd=>by
   obtain ⟨B,hs⟩:=hok d hd
   exact ⟨_,SoOk.worksAll hN.right t0 t1 n 0 hs (by omega)⟩) ih2 (fun d hd hh=>hturn d hd n (by omega) (by rw [← v1 d];exact hh)) (fun d hd hh=>by
   rw [v4,view_op (vw d)]
   exact hfault d hd n (by omega) (by rw [← v1 d];exact hh)) (fun d hd=>by rw [v3];exact hfree d hd n) (fun q=>by
   obtain ⟨e,h1,h2,h3⟩:=hserved n (by omega) q
   exact ⟨e,h1,h2,by rw [v3];exact h3⟩)
  refine ⟨fun d hd=>?_,this.2⟩
  rw [worksAll_snoc,Nat.zero_add]
  exact this.1 d hd
structure Links (M:MDat)(N:Cn)(T:Nat)(m:Mh):Prop where
 core:∀ d,d<N.nd→RelC M N d T m (So.upto M d T)
 log:∀ d,d<N.nd→RelL M.c N (firstF0 M d) d ((T:Int)-1) (m.blk d) (m.tch d) (m.own d) m.nr m.sh (So.upto M d T).log
 doms:Doms N m
theorem turn_is {c:Cf}{k:Nat}{d t:Int}(h:turnIs c k d (t / c.quantum)=true):turnZ c k t=d:=by
 unfold turnIs at h
 unfold turnZ
 simpa using h
theorem RelC.tick {M:MDat}{N:Cn}{d:Nat}{t:Int}{m:Mh}{S:So}(h:RelC M N d t m S):RelC M N d (t+1) { m with now:=m.now+1 } S:=
 ⟨by show m.now+1=t+1;rw [h.now],h.evs,h.nx,h.wt,h.bz,h.bg,h.ops,h.kin⟩
theorem Links.cycle {M:MDat}{N:Cn}{T:Nat}{m:Mh}(hN:Nm M.c N)(hc:N.c=M.c)(hT:T+1≤10000)(h:Links M N T m):Links M N (T+1) { m.cycle N with now:=(m.cycle N).now+1 }:=by
 have hnc:M.c.cores.toNat=N.nc:=by have:=hN.nc;omega
 have hnd:=hN.nd
 have hnd0:0<N.nd:=by have:=(right_of hN.right).d1;omega
 have hnow:m.now=T:=(h.core 0 hnd0).now
 obtain ⟨m0,hm0⟩:∃ m0:Mh,m0=if flushesB N.c m.now=true then { m with nr:=fun _ _=>cpE } else m:=⟨_,rfl⟩
 have hrel0:∀ d,d<N.nd→Rel M N d T m0 (So.upto M d T):=fun d hd=>by
  have hL:=(h.log d hd).next hN
  have e:(T:Int)-1+1=T:=by omega
  rw [e] at hL
  rw [hm0,hc,hnow]
  by_cases g:flushesB M.c (T:Int)=true
  ·
   rw [if_pos g] at hL ⊢
   exact ⟨(h.core d hd).same (by exact hnow.symm) rfl rfl rfl rfl rfl,hL⟩
  ·
   rw [if_neg g] at hL ⊢
   exact ⟨h.core d hd,hL⟩
 have hdom0:Doms N m0:=h.doms.same (by rw [hm0];split <;> rfl)
 have hnow0:m0.now=T:=(hrel0 0 hnd0).core.now
 have hok:∀ d,d<N.nd→∃ B,SoOk M d (So.upto M d T) B:=fun d _=>⟨_,SoOk.upto hN.right T (by omega)⟩
 have hut:∀ d:Nat,d<N.nd→∀ k,k<N.nc→(So.upto M d T).how.getD k 0≠0→turnZ M.c k T=(d:Int)∧(T:Int)%M.c.quantum<M.c.quantum-M.c.flush:=fun d hd k hk hh=>by
  obtain ⟨_,h2,h3⟩:=under_turn (d:=d) (T:=T) (k:=k) hN.right (by omega) (by omega) (by omega) hh
  exact ⟨turn_is h2,h3⟩
 obtain ⟨s1,s2,s3,s4⟩:=Rel.service hN hc hnow0 hrel0 hok hdom0 hut (fun d _ k=>free_upto T k)
 have st:=Rel.steps (S:=fun d=>So.service M d (So.upto M d T) T) (served:=(m0.service N).2) hN hc (by omega:(0:Int)≤T) (by omega) s1 (fun d hd=>by
  obtain ⟨B,hs⟩:=hok d hd
  exact ⟨_,hs.service hN.right (by omega) (by omega)⟩) s2 (fun d hd k hk hh=>by
  obtain ⟨B,hs⟩:=hok d hd
  refine (hut d hd k hk ?_).1
  rcases service_view (t:=(T:Int)) hs (k:=k) (by omega) with q|⟨q1,q2⟩
  ·
   have:(So.service M d (So.upto M d T) T).how.getD k 0=(So.upto M d T).how.getD k 0:=congrArg (fun v=>v.1) q
   rw [← this];exact hh
  · omega) (fun d hd k hk hh=>by
  obtain ⟨B,hs⟩:=hok d hd
  obtain ⟨q1,q2⟩:=service_how hh
  have hf:=fault_service (t:=(T:Int)) hs (book_upto (d:=d) hN.right T (by omega)).1
  refine ⟨hf k (by omega) hh,?_⟩
  rw [q2]
  exact fail_upto hN.right T (by omega) k (by omega) q1) s3 s4 N.nc (Nat.le_refl _)
 have hcy:m.cycle N=Mh.steps N (m0.service N).2 N.nc (m0.service N).1:=by
  unfold Mh.cycle
  rw [← hm0]
 rw [hcy]
 refine ⟨fun d hd=>?_,fun d hd=>?_,st.2.same rfl⟩
 ·
  have q:=(st.1 d hd).core.tick
  rw [← hnc] at q
  rw [← hnc]
  exact q
 ·
  have q:=(st.1 d hd).log
  have e:(((T+1:Nat):Int)-1)=T:=by omega
  rw [e]
  rw [← hnc] at q
  rw [← hnc]
  exact q
structure Laid (M:MDat)(N:Cn)(ops:Nat→Nat→List OpT)(own:Nat→Nat→Int)(sh:Nat→Int):Prop where
 prog:∀ d k,d<N.nd→k<N.nc→ops d k=progF M d k
 kin:∀ d k,d<N.nd→k<N.nc→∀ o∈ops d k,o.1=0∨o.1=1
 first:∀ d a:Nat,d<N.nd→a<N.pv→own d a=firstF0 M d a
 share:∀ d a:Nat,d<N.nd→N.pv≤a→a<N.pv+N.sn→sh (a-N.pv)=firstF0 M d a
theorem links_start {M:MDat}{N:Cn}{ops:Nat→Nat→List OpT}{own:Nat→Nat→Int}{sh:Nat→Int}(h:Laid M N ops own sh)(b:Wk)(hb:b.busy=false):Links M N 0 ⟨0,own,sh,fun _ _=>cpE,ops,fun _ _=>0,fun _ _ _=>bkE,fun _ _=>[],fun _=>[],fun _=>[],fun _=>b⟩:=by
 have z:∀ k,(List.replicate M.c.cores.toNat (0:Int)).getD k 0=0:=fun k=>by
  rw [List.getD_eq_getElem?_getD,List.getElem?_replicate];split <;> rfl
 refine ⟨fun d hd=>⟨rfl,rfl,fun k _=>z k,rfl,fun k _=>⟨fun q=>absurd (z k) q,fun q=>?_⟩,fun k _ q=>absurd (z k) q,fun k hk=>h.prog d k hd hk,fun k hk=>h.kin d k hd hk⟩,fun d hd=>RelL.start (fun a ha=>h.first d a hd ha) (fun a h1 h2=>h.share d a hd h1 h2),fun k _ q=>?_⟩
 ·
  have:b.busy=true:=q.1
  rw [hb] at this;cases this
 ·
  have:b.busy=true:=q
  rw [hb] at this;cases this
theorem links_runs {M:MDat}{N:Cn}{m:Mh}(hN:Nm M.c N)(hc:N.c=M.c)(h:Links M N 0 m):∀ T,T≤10000→Links M N T (Mh.runs N T m)
 | 0,_=>h
 | T+1,hT=>(links_runs hN hc h T (by omega)).cycle hN hc hT
end Go.Proofs.YtehheaedbnfidaaGreat
