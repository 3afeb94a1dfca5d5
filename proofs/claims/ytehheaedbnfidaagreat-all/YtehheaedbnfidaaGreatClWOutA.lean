import Derived.Test.YtehheaedbnfidaaGreatRows
import Derived.Test.YtehheaedbnfidaaGreatClWStepN
import Derived.Test.YtehheaedbnfidaaGreatClWStepF
import Derived.Test.YtehheaedbnfidaaGreatClWRefV2
set_option maxRecDepth 100000
namespace Go.Proofs.YtehheaedbnfidaaGreat
open Go.RowKit
theorem IY.plan {W:World}{ca:Option Addr}{cl cc:Nat}{Z:Nat→Prop}{k:Nat}{wr:World}{cfs:Nat→Cf}(h:IY W ca cl cc Z k wr)(hcs:CsAt W ca cl cc cfs)(st:St)(hr:StR st)(hk1:5≤st.k)(hk2:st.k≤9) :
  Calls Tryz.prog 9 #[.pointer (some ⟨W.heap.size,0,none⟩),opV st] wr fun x w'=>x = .returned (.bool true)∧StepY W ca cl cc Z k wr w':=by
 have hI:=h
 obtain ⟨o,ts,os,zone,n,X,m,L,M,ma,mc,D,⟨h1,h2,h3⟩,h4,hO,hb,hD,rfl⟩:=h
 subst h1 h2 h3
 by_cases hp:o.cl=0
 ·
  refine (step_nocs W.heap.size W.heap.size o _ _ _ _ ts os st wr h4.ws hk1 (by omega) (by omega) hp).mono ?_
  rintro x w' ⟨rfl,b⟩
  exact ⟨rfl,hI.same b⟩
 ·
  refine (step_plan W.heap.size W.heap.size o _ _ _ _ ts os st wr h4.ws hr cfs (hcs.below h4.bel (Nat.le_refl _)) hk1 hk2 (by omega) (fun c s w hc hr=>?_)).mono ?_
  ·
   have e:st.k=5∨st.k=6∨st.k=7∨st.k=8∨st.k=9:=by omega
   rcases e with e|e|e|e|e
   · exact plan_check c s st w hc hr e
   · exact plan_worst c s st w hc hr e
   · exact plan_enough c s st w hc hr e
   · exact plan_turn c s st w hc hr e turn_any
   · exact plan_wait c s st w hc hr e wait_any
  ·
   rintro x w' ⟨rfl,b⟩
   exact ⟨rfl,hI.same b⟩
theorem IY.victim {W:World}{ca:Option Addr}{cl cc:Nat}{Z:Nat→Prop}{k:Nat}{wr:World}(h:IY W ca cl cc Z k wr)(st:St)(hk:st.k=10)(hz:k*40≤140737488351232) :
  Calls Tryz.prog 9 #[.pointer (some ⟨W.heap.size,0,none⟩),opV st] wr fun x w'=>x = .returned (.bool true)∧StepY W ca cl cc Z k wr w':=by
 have hI:=h
 obtain ⟨o,ts,os,zone,n,X,m,L,M,ma,mc,D,h1,h4,hO,hb,hD,rfl⟩:=h
 refine (step_chosen W.heap.size W.heap.size o _ _ _ _ ts os st wr h4.ws (by omega) hk victim_any).mono ?_
 rintro x w' ⟨rfl,b⟩
 exact ⟨rfl,hI.same b⟩
set_option maxHeartbeats 1600000 in
theorem all_any (w:World)(ca:Option Addr)(cl cc:Nat)(cfs:Nat→Cf)(sa:Option Addr)(sl sc:Nat)(sts:Nat→St)(h1:CsAt w ca cl cc cfs)(h2:ScAt w sa sl sc sts) :
  Calls Tryz.prog 6 #[.slice ca cl cc,.slice sa sl sc] w fun x w'=>x = .returned (.bool true)∧Below w.heap.size w w':=by
 have ba:Below w.heap.size w (w.alloc (.cells #[.int .i64 5,.int .i64 6,.int .i64 7,.int .i64 8,.int .i64 9,.int .i64 10,.int .i64 11,.int .i64 12,.int .i64 13,.int .i64 14,.int .i64 15,.int .i64 16,.int .i64 17,.int .i64 18,.int .i64 19,.int .i64 20] 3)):=(Below.refl _ _).alloc (Nat.le_refl _) _
 have r1:Row (w.alloc (.cells #[.int .i64 5,.int .i64 6,.int .i64 7,.int .i64 8,.int .i64 9,.int .i64 10,.int .i64 11,.int .i64 12,.int .i64 13,.int .i64 14,.int .i64 15,.int .i64 16,.int .i64 17,.int .i64 18,.int .i64 19,.int .i64 20] 3)) w.heap.size [.int .i64 5,.int .i64 6,.int .i64 7,.int .i64 8,.int .i64 9,.int .i64 10,.int .i64 11,.int .i64 12,.int .i64 13,.int .i64 14,.int .i64 15,.int .i64 16,.int .i64 17,.int .i64 18,.int .i64 19,.int .i64 20] 3:=heap_alloc_new w _
 go_enter Tryz.func6,Tryz.ntmps6
 go_wp2_with fail
 generalize w.alloc (.cells #[.int .i64 5,.int .i64 6,.int .i64 7,.int .i64 8,.int .i64 9,.int .i64 10,.int .i64 11,.int .i64 12,.int .i64 13,.int .i64 14,.int .i64 15,.int .i64 16,.int .i64 17,.int .i64 18,.int .i64 19,.int .i64 20] 3)=W at *
 have bb:=ba
 have r3:=r1
 have r2:=r1
 clear r1 ba
 have hcs:=h1.below bb (Nat.le_refl _)
 have hsc:=h2.below bb (Nat.le_refl _)
 have hz:=hsc.hmax
 have hzl:=hsc.hle
 refine (playsZ_any W ca cl cc sa sl sc sts _ 16 16 [5,6,7,8,9,10,11,12,13,14,15,16,17,18,19,20] _ 16 16 [5,6,7,8,9,10,11,12,13,14,15,16,17,18,19,20] hsc (ints_litY (A:=[5,6,7,8,9,10,11,12,13,14,15,16,17,18,19,20]) r3 (by decide)) (ints_litY (A:=[5,6,7,8,9,10,11,12,13,14,15,16,17,18,19,20]) r2 (by decide)) (IY W ca cl cc) (IY.start W ca cl cc (fun _=>locXY) (fun _=>mkM (fun _ _=>[]) (fun _ _=>0) (fun _=>0)) (fun _=>locLY) (fun _=>datLY)) (fun Z i wr h=>h.bel) (fun Z i wr h=>h.lt) (fun Z i wr w' h b=>h.below b) (fun Z i wr h=>h.succ) ?_ (fun Z i wr hi h=>h.looks (by omega))).mono ?_
 ·
  intro Z i wr hi hk hI
  obtain ⟨_,_,_,_,hr⟩:=hsc.hat i hi
  by_cases h5:(sts i).k<5
  · exact hI.own (sts i) h5 (by omega)
  ·
   have e:(sts i).k=5∨(sts i).k=6∨(sts i).k=7∨(sts i).k=8∨(sts i).k=9∨(sts i).k=10∨(sts i).k=11∨(sts i).k=12∨(sts i).k=13∨(sts i).k=14∨(sts i).k=15∨(sts i).k=16∨(sts i).k=17∨(sts i).k=18∨(sts i).k=19∨(sts i).k=20:=by
    rcases hk with hk|hk
    · exact absurd hk h5
    · simpa using hk
   rcases e with e|e|e|e|e|e|e|e|e|e|e|e|e|e|e|e
   · exact hI.plan hcs (sts i) hr (by omega) (by omega)
   · exact hI.plan hcs (sts i) hr (by omega) (by omega)
   · exact hI.plan hcs (sts i) hr (by omega) (by omega)
   · exact hI.plan hcs (sts i) hr (by omega) (by omega)
   · exact hI.plan hcs (sts i) hr (by omega) (by omega)
   · exact hI.victim (sts i) e (by omega)
   · exact hI.made hcs (sts i) hr e (by omega)
   · exact hI.given (sts i) hr (by omega) (by omega) (by omega)
   · exact hI.given (sts i) hr (by omega) (by omega) (by omega)
   · exact hI.given (sts i) hr (by omega) (by omega) (by omega)
   · exact hI.given (sts i) hr (by omega) (by omega) (by omega)
   · exact hI.given (sts i) hr (by omega) (by omega) (by omega)
   · exact hI.trace (sts i) hr e (by omega)
   · exact hI.near (sts i) hr e (by omega)
   · exact hI.far (sts i) hr e (by omega)
   · exact hI.memory (sts i) hr e
 ·
  rintro x w' ⟨rfl,b⟩
  go_wp2
  go_ret
  exact ⟨rfl,below_step bb b rfl⟩
end Go.Proofs.YtehheaedbnfidaaGreat
namespace Go.Proofs.YtehheaedbnfidaaGreat
open Go.ChangeShapes Go.WideShapes Go.ChangeAt Go.RowKit
theorem Tryz.own:ownKnob Tryz.prog.godebug=none:=by kernel_rfl
theorem Tryz.laidOut:laidOutB Tryz.prog=true:=by kernel_rfl
theorem all_lifted (os:Os)(started:os.Started)(H:Type)(enc:TypeId × Value→H) :
  ReturnsInHanded {} Tryz.checked os 6 .any (Rows.allSpec.pre6 enc Tryz.prog Tryz.f6 Rows.allRow.domain false) (Rows.allSpec.post enc Tryz.prog Tryz.f6 false true false false):=by
 refine returnsInHanded_of_change_sized (C:=Tryz.checked) Tryz.own started (by kernel_rfl) Tryz.func6
  (ChangeSpec.witness6 (enc:=enc) (C:=Tryz.checked) false ⟨#[],#[.slice none 0 0,.slice none 0 0],[]⟩ 8 (by kernel_rfl) (by kernel_rfl) (by kernel_rfl) (by kernel_rfl)) ?_
 intro W base args ds gs before hval0 hW _ hsz0 _
 have hsz:(DataW.weightsEach Tryz.prog (Tryz.f6.params.toList++Rows.allSpec.plain.varTypes Tryz.prog) (ds++gs)).all (·≤reachBytes)=true:=hsz0
 clear hsz0
 have hval:∀ (j:Nat) t v,Tryz.f6.params[j]? = some t→args[j]? = some v→Value.okWide Tryz.prog W .any base t v:=hval0
 have hW':=hW
 obtain ⟨p,q,hA0,hV,rfl,_,_⟩:=hW
 have hA:DataW.TrodAll enc Tryz.prog W 0 (fun _=>true) true Tryz.f6.params.toList args.toList ds p:=hA0
 rw [Tryz.params6] at hA hval hsz
 obtain ⟨v0,v1,d0,d1,p0,p1,rfl,rfl,rfl,h0,h1⟩:=trodAll_two hA
 obtain ⟨rfl,rfl⟩:=trodVars_none hV
 clear hA0 hval0
 simp only [List.append_nil] at hW'
 have lt0:∀ x∈p0,x.block<W.heap.size:=fun x hx=>hW'.lt x (by simp [hx])
 have lt1:∀ x∈p1,x.block<W.heap.size:=fun x hx=>hW'.lt x (by simp [hx])
 have z0:Sized Tryz.prog 22 d0:=fun n hn=>by
  have:=List.all_eq_true.1 hsz _ (DataW.weights_mem_each (j:=0) (t:=22) rfl rfl n hn)
  simpa using this
 have z1:Sized Tryz.prog 23 d1:=fun n hn=>by
  have:=List.all_eq_true.1 hsz _ (DataW.weights_mem_each (j:=1) (t:=23) rfl rfl n hn)
  simpa using this
 obtain ⟨a0,l0,c0,rfl⟩:=okWide_slice Tryz.underlying22 (hval 0 22 v0 rfl rfl)
 obtain ⟨a1,l1,c1,rfl⟩:=okWide_slice Tryz.underlying23 (hval 1 23 v1 rfl rfl)
 have h0k:=h0
 have h1k:=h1
 obtain ⟨f0,hf0⟩:=h0
 obtain ⟨f1,hf1⟩:=h1
 obtain ⟨ca,cl,cc,cfs,e0,hcs⟩:=read_cs (n:=f0) (v:=.slice a0 l0 c0) (by simpa [Value.cells] using hf0) z0
 obtain ⟨sa,sl,sc,sts,e1,hsc⟩:=read_sc (n:=f1) (v:=.slice a1 l1 c1) (by simpa [Value.cells] using hf1) z1
 simp only [Value.slice.injEq] at e0 e1
 obtain ⟨rfl,rfl,rfl⟩:=e0
 obtain ⟨rfl,rfl,rfl⟩:=e1
 refine (all_any W _ _ _ cfs _ _ _ sts hcs hsc).mono fun e W' ⟨he,hb⟩=>?_
 subst he
 have ar0:=Below.trod Tryz.laidOut (by kernel_rfl) (of_decide_eq_true (by kernel_rfl)) h0k hb lt0
 have ar1:=Below.trod Tryz.laidOut (by kernel_rfl) (of_decide_eq_true (by kernel_rfl)) h1k hb lt1
 refine ⟨_,rfl,_,_,_,[],p0++p1,[],hW',?_,trodAll_mk2 ar0 ar1,rfl,hb.frame _,fun h=>by cases h⟩
 exact trodAll_mk1 (shut_bool Tryz.underlying4 true)
theorem all_holds:Rows.AllSaid:=
 OpenClaim.holds_of_wide 6 Tryz.f6 rfl rfl rfl rfl rfl rfl rfl ⟨rfl,rfl,rfl,rfl,rfl⟩ rfl rfl rfl rfl rfl (by kernel_rfl) Tryz.func6 (by kernel_rfl)
  (of_decide_eq_true (by kernel_rfl)) (by unfold Func.isWrapper;first | (rw [if_pos (by decide +kernel)];kernel_rfl) | (rw [if_neg (by decide +kernel)];exact ⟨rfl,rfl⟩))
  (fun os started H enc _=>all_lifted os started H enc)
#print axioms all_holds
end Go.Proofs.YtehheaedbnfidaaGreat
