import Derived.Test.YtehheaedbnfidaaGreatRows
import Derived.Test.YtehheaedbnfidaaGreatClWStepN
set_option maxRecDepth 100000
namespace Go.Proofs.YtehheaedbnfidaaGreat
open Go.RowKit
set_option maxHeartbeats 1600000 in
theorem nears_any (w:World)(ca:Option Addr)(cl cc:Nat)(cfs:Nat→Cf)(sa:Option Addr)(sl sc:Nat)(sts:Nat→St)(h1:CsAt w ca cl cc cfs)(h2:ScAt w sa sl sc sts) :
  Calls Tryz.prog 4 #[.slice ca cl cc,.slice sa sl sc] w fun x w'=>x = .returned (.bool true)∧Below w.heap.size w w':=by
 have ba:Below w.heap.size w (w.alloc (.cells #[.int .i64 11,.int .i64 12,.int .i64 13,.int .i64 14,.int .i64 15,.int .i64 18] 3)):=(Below.refl _ _).alloc (Nat.le_refl _) _
 have r1:Row (w.alloc (.cells #[.int .i64 11,.int .i64 12,.int .i64 13,.int .i64 14,.int .i64 15,.int .i64 18] 3)) w.heap.size [.int .i64 11,.int .i64 12,.int .i64 13,.int .i64 14,.int .i64 15,.int .i64 18] 3:=heap_alloc_new w _
 have q1:(w.alloc (.cells #[.int .i64 11,.int .i64 12,.int .i64 13,.int .i64 14,.int .i64 15,.int .i64 18] 3)).heap.size=w.heap.size+1:=by simp
 go_enter Tryz.func4,Tryz.ntmps4
 go_wp2_with fail
 generalize w.alloc (.cells #[.int .i64 11,.int .i64 12,.int .i64 13,.int .i64 14,.int .i64 15,.int .i64 18] 3)=V at *
 have bb:Below w.heap.size w (V.alloc (.cells #[.int .i64 18] 3)):=ba.alloc (by omega) _
 have r2:Row (V.alloc (.cells #[.int .i64 18] 3)) (w.heap.size+1) [.int .i64 18] 3:=by rw [← q1];exact heap_alloc_new V _
 have r3:Row (V.alloc (.cells #[.int .i64 18] 3)) w.heap.size [.int .i64 11,.int .i64 12,.int .i64 13,.int .i64 14,.int .i64 15,.int .i64 18] 3:=Row.alloc r1 _
 generalize V.alloc (.cells #[.int .i64 18] 3)=W at *
 clear r1 ba q1
 have hcs:=h1.below bb (Nat.le_refl _)
 have hsc:=h2.below bb (Nat.le_refl _)
 have hz:=hsc.hmax
 have hzl:=hsc.hle
 refine (playsZ_any W ca cl cc sa sl sc sts _ 6 6 [11,12,13,14,15,18] _ 1 1 [18] hsc (ints_litY (A:=[11,12,13,14,15,18]) r3 (by decide)) (ints_litY (A:=[18]) r2 (by decide)) (IY W ca cl cc) (IY.start W ca cl cc (fun _=>locXY) (fun _=>mkM (fun _ _=>[]) (fun _ _=>0) (fun _=>0)) (fun _=>locLY) (fun _=>datLY)) (fun Z i wr h=>h.bel) (fun Z i wr h=>h.lt) (fun Z i wr w' h b=>h.below b) (fun Z i wr h=>h.succ) ?_ (fun Z i wr hi h=>h.looks (by omega))).mono ?_
 ·
  intro Z i wr hi hk hI
  obtain ⟨_,_,_,_,hr⟩:=hsc.hat i hi
  by_cases h5:(sts i).k<5
  · exact hI.own (sts i) h5 (by omega)
  ·
   have e:(sts i).k=11∨(sts i).k=12∨(sts i).k=13∨(sts i).k=14∨(sts i).k=15∨(sts i).k=18:=by
    rcases hk with hk|hk
    · exact absurd hk h5
    · simpa using hk
   rcases e with e|e|e|e|e|e
   · exact hI.made hcs (sts i) hr e (by omega)
   · exact hI.given (sts i) hr (by omega) (by omega) (by omega)
   · exact hI.given (sts i) hr (by omega) (by omega) (by omega)
   · exact hI.given (sts i) hr (by omega) (by omega) (by omega)
   · exact hI.given (sts i) hr (by omega) (by omega) (by omega)
   · exact hI.near (sts i) hr e (by omega)
 ·
  rintro x w' ⟨rfl,b⟩
  go_wp2
  go_ret
  exact ⟨rfl,below_step bb b rfl⟩
end Go.Proofs.YtehheaedbnfidaaGreat
namespace Go.Proofs.YtehheaedbnfidaaGreat
open Go.ChangeShapes Go.WideShapes Go.ChangeAt Go.RowKit
theorem Tryz.own:ownKnob Tryz.prog.godebug=none:=by kernel_rfl
theorem Tryz.laidOut:laidOutB Tryz.prog=true:=by kernel_rfl
theorem nears_lifted (os:Os)(started:os.Started)(H:Type)(enc:TypeId × Value→H) :
  ReturnsInHanded {} Tryz.checked os 4 .any (Rows.nearsSpec.pre6 enc Tryz.prog Tryz.f4 Rows.nearsRow.domain false) (Rows.nearsSpec.post enc Tryz.prog Tryz.f4 false true false false):=by
 refine returnsInHanded_of_change_sized (C:=Tryz.checked) Tryz.own started (by kernel_rfl) Tryz.func4
  (ChangeSpec.witness6 (enc:=enc) (C:=Tryz.checked) false ⟨#[],#[.slice none 0 0,.slice none 0 0],[]⟩ 8 (by kernel_rfl) (by kernel_rfl) (by kernel_rfl) (by kernel_rfl)) ?_
 intro W base args ds gs before hval0 hW _ hsz0 _
 have hsz:(DataW.weightsEach Tryz.prog (Tryz.f4.params.toList++Rows.nearsSpec.plain.varTypes Tryz.prog) (ds++gs)).all (·≤reachBytes)=true:=hsz0
 clear hsz0
 have hval:∀ (j:Nat) t v,Tryz.f4.params[j]? = some t→args[j]? = some v→Value.okWide Tryz.prog W .any base t v:=hval0
 have hW':=hW
 obtain ⟨p,q,hA0,hV,rfl,_,_⟩:=hW
 have hA:DataW.TrodAll enc Tryz.prog W 0 (fun _=>true) true Tryz.f4.params.toList args.toList ds p:=hA0
 rw [Tryz.params4] at hA hval hsz
 obtain ⟨v0,v1,d0,d1,p0,p1,rfl,rfl,rfl,h0,h1⟩:=trodAll_two hA
 obtain ⟨rfl,rfl⟩:=trodVars_none hV
 clear hA0 hval0
 simp only [List.append_nil] at hW'
 have lt0:∀ x∈p0,x.block<W.heap.size:=fun x hx=>hW'.lt x (by simp [hx])
 have lt1:∀ x∈p1,x.block<W.heap.size:=fun x hx=>hW'.lt x (by simp [hx])
 have z0:Sized Tryz.prog 22 d0:=fun n hn=>by
  have:=List.all_eq_true.1 hsz _ (DataW.weights_mem_each (j:=0) (t:=22) rfl rfl n hn)
  simpa using this
 have z1:Sized Tryz.prog 23 d1:=fun n hn=>by
  have:=List.all_eq_true.1 hsz _ (DataW.weights_mem_each (j:=1) (t:=23) rfl rfl n hn)
  simpa using this
 obtain ⟨a0,l0,c0,rfl⟩:=okWide_slice Tryz.underlying22 (hval 0 22 v0 rfl rfl)
 obtain ⟨a1,l1,c1,rfl⟩:=okWide_slice Tryz.underlying23 (hval 1 23 v1 rfl rfl)
 have h0k:=h0
 have h1k:=h1
 obtain ⟨f0,hf0⟩:=h0
 obtain ⟨f1,hf1⟩:=h1
 obtain ⟨ca,cl,cc,cfs,e0,hcs⟩:=read_cs (n:=f0) (v:=.slice a0 l0 c0) (by simpa [Value.cells] using hf0) z0
 obtain ⟨sa,sl,sc,sts,e1,hsc⟩:=read_sc (n:=f1) (v:=.slice a1 l1 c1) (by simpa [Value.cells] using hf1) z1
 simp only [Value.slice.injEq] at e0 e1
 obtain ⟨rfl,rfl,rfl⟩:=e0
 obtain ⟨rfl,rfl,rfl⟩:=e1
 refine (nears_any W _ _ _ cfs _ _ _ sts hcs hsc).mono fun e W' ⟨he,hb⟩=>?_
 subst he
 have ar0:=Below.trod Tryz.laidOut (by kernel_rfl) (of_decide_eq_true (by kernel_rfl)) h0k hb lt0
 have ar1:=Below.trod Tryz.laidOut (by kernel_rfl) (of_decide_eq_true (by kernel_rfl)) h1k hb lt1
 refine ⟨_,rfl,_,_,_,[],p0++p1,[],hW',?_,trodAll_mk2 ar0 ar1,rfl,hb.frame _,fun h=>by cases h⟩
 exact trodAll_mk1 (shut_bool Tryz.underlying4 true)
theorem nears_holds:Rows.NearsSaid:=
 OpenClaim.holds_of_wide 4 Tryz.f4 rfl rfl rfl rfl rfl rfl rfl ⟨rfl,rfl,rfl,rfl,rfl⟩ rfl rfl rfl rfl rfl (by kernel_rfl) Tryz.func4 (by kernel_rfl)
  (of_decide_eq_true (by kernel_rfl)) (by unfold Func.isWrapper;first | (rw [if_pos (by decide +kernel)];kernel_rfl) | (rw [if_neg (by decide +kernel)];exact ⟨rfl,rfl⟩))
  (fun os started H enc _=>nears_lifted os started H enc)
#print axioms nears_holds
end Go.Proofs.YtehheaedbnfidaaGreat
