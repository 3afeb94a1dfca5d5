/-
  TimedP, TimedL
-/
import Derived.Test.YtcmcfafhllpojaaGreatClTimedK
import Derived.Test.YtcmcfafhllpojaaGreatClKaseO
import Derived.Test.YtcmcfafhllpojaaGreatClPackZ
import Derived.Test.YtcmcfafhllpojaaGreatClBound
import Derived.Test.YtcmcfafhllpojaaGreatRows
import Derived.Test.YtcmcfafhllpojaaGreatClPackX
namespace Go.Proofs.YtcmcfafhllpojaaGreat
open Go.RowKit

set_option maxRecDepth 100000 in
set_option maxHeartbeats 6400000 in
theorem timed_any (x : Cs) (l : Cl) (w : World) (h : CaseAt w x l) :
    Calls Tryz.prog 10 #[csV x l] w fun e w' => e = .returned (.bool true) ∧ Below w.heap.size w w' := by
  have hb0 : Below w.heap.size w (w.alloc (.cells (csA x l) 33)) := (Below.refl _ _).alloc (Nat.le_refl _) _
  have hR0 : Row (w.alloc (.cells (csA x l) 33)) w.heap.size (csL x l) 33 := heap_alloc_new w _
  have h0 := h.below hb0 (Nat.le_refl _)
  have hs0 : (w.alloc (.cells (csA x l) 33)).heap.size = w.heap.size + 1 := by simp
  have HR0 : Hid (Row (w.alloc (.cells (csA x l) 33)) w.heap.size (csL x l) 33) := hR0
  have HB0 : Hid _ := hb0
  by_cases hz : chk x.c = 0
  · have hMc := kmachine_good x l _ h0 hz
    have R := right_of hz
    obtain ⟨nd, hnd⟩ : ∃ nd, x.c.domains.toNat = nd := ⟨_, rfl⟩
    have HED : Hid ((nd : Int) = x.c.domains) := by unfold Hid; have := R.d1; omega
    have hd4 : nd ≤ 4 := by have := R.d2; omega
    have HC3 : Hid (x.c.cores.toNat ≤ 3) := by unfold Hid; have := R.c2; omega
    have HZ : Hid _ := hz
    obtain ⟨W0, hW0⟩ : ∃ W0, w.alloc (.cells (csA x l) 33) = W0 := ⟨_, rfl⟩
    have HW0 : Hid _ := hW0
    rw [hW0] at HR0 HB0 h0 hs0 hMc
    have HCA : Hid _ := h0
    have hrow0 := hR0
    clear hz R hb0 h0 h hnd hW0
    go_enter Tryz.func10, Tryz.ntmps10
    go_wp2_with (refine wpList_load_row (by rfl) 33 (.tmp 1) (by rfl) w.heap.size (by rfl) 33 (csL x l).toArray (0, 0) _ hrow0 Tryz.underlying33 (by rfl) (size_case x l) ?_)
    rw [HW0.out]
    refine hMc.mono ?_; rintro e w1 ⟨X, rfl, hK⟩
    have K1 := hK.ctx
    have R1 : Row w1 w.heap.size (csL x l) 33 := Row.below HR0.out hK.bel (by omega)
    have hWo := Worst_any x.c l.s w1 (HCA.out.below K1.bel (Nat.le_refl _)).cfg
    rw [show worstR x.c = worstZ x.c by unfold worstR; rw [if_pos HZ.out], show chk x.c = 0 from HZ.out] at hWo
    obtain ⟨x0, x1, x2, x3, x4, x5, x6, x7, x8, x9, x10, x11, x12⟩ := cs_cells R1
    have HK1 : Hid _ := K1
    have HR1 : Hid (Row w1 w.heap.size (csL x l) 33) := R1
    have l1 := R1.lt
    clear hMc hR0 hrow0 hK K1 R1
    go_wp2_with fail
    refine hWo.mono ?_; rintro e wA ⟨rfl, hbA⟩
    have KA := HK1.out.below hbA
    have RA : Row wA w.heap.size (csL x l) 33 := Row.below HR1.out hbA l1
    clear x0 x1 x2 x3 x4 x5 x6 x7 x8 x9 x10 x11 x12 hWo hbA
    obtain ⟨x0, x1, x2, x3, x4, x5, x6, x7, x8, x9, x10, x11, x12⟩ := cs_cells RA
    have hWs := kworst_any x.c l.s wA (HCA.out.below KA.bel (Nat.le_refl _)).cfg (right_of HZ.out)
    have HKA : Hid _ := KA
    have HRA : Hid (Row wA w.heap.size (csL x l) 33) := RA
    have lA := RA.lt
    clear KA RA
    go_wp2_with fail
    refine hWs.mono ?_; rintro e wB ⟨rfl, hbB⟩
    have KB := HKA.out.below hbB
    have RB : Row wB w.heap.size (csL x l) 33 := Row.below HRA.out hbB lA
    have hWh := kwhole_any x l HZ.out X W0 wB HCA.out KB
    have hrow := RB
    have lB := RB.lt
    clear x0 x1 x2 x3 x4 x5 x6 x7 x8 x9 x10 x11 x12 hWs hbB KB RB
    go_wp2_with (refine wpList_load_row (by rfl) 33 (.tmp 1) (by rfl) w.heap.size (by rfl) 33 (csL x l).toArray (0, 0) _ hrow Tryz.underlying33 (by rfl) (size_case x l) ?_)
    refine hWh.mono ?_; rintro e w2 ⟨X2, T, hT, rfl, hg2, K2⟩
    have HK2 : Hid _ := K2
    have HG2 : Hid _ := hg2
    have HT : Hid _ := hT
    clear hWh hrow K2 hg2
    go_wp2_with fail
    go_loopw [8] (fun u wr => ∃ (D : Nat), D ≤ nd ∧ u = .int .i64 D ∧ KCtx W0 wr x X2 (Mh.runs (cnOf x.c) T (machK x))) (fun u _ => nd - (intOf u).toNat)
    case atStart => exact ⟨0, by omega, rfl, HK2.out⟩
    case round =>
      obtain ⟨D, hD, rfl, hk⟩ := hrel
      have r0 : Row wr w.heap.size (csL x l) 33 := Row.below HR0.out hk.bel (by omega)
      have y1 : wr.cell? ⟨w.heap.size, 1, none⟩ = some (.int .i64 nd) := by rw [HED.out]; exact r0.cell 1
      have lr := r0.lt
      have HKK : Hid _ := hk
      by_cases hlt : D < nd
      · obtain ⟨ok, _⟩ := runsK_ok x HZ.out T
        have hTr := wTrace_any (cnOf x.c) X2 _ (D : Int) wr hk.mach ok
        have htl := ok.trl (by show x.c.cores.toNat ≤ 3; exact HC3.out) D
        have hdD : (D : Int) < x.c.domains := by rw [← HED.out]; omega
        obtain ⟨t1, t2, t3, t4⟩ := trace_at (w := wr) (N := cnOf x.c) (m := Mh.runs (cnOf x.c) T (machK x)) (d := D) hdD htl
        rw [t2, t3, HG2.out] at hTr
        have hes := traceK x HZ.out T HT.out D hdD
        obtain ⟨es, hee⟩ : ∃ es, (Mh.runs (cnOf x.c) T (machK x)).tr D = es := ⟨_, rfl⟩
        rw [hee] at t1 hTr htl hes
        obtain ⟨w6, hw6⟩ : ∃ w6, traceW (cnOf x.c) (Mh.runs (cnOf x.c) T (machK x)) (D : Int) wr = w6 := ⟨_, rfl⟩
        rw [hw6] at t1 t4 hTr
        have hrd : ReadOk (datK x) D es := by rw [hes]; exact (book_upto (M := datK x) (d := D) HZ.out T HT.out).2.read
        have hnr : NearOk (datK x) D es := by rw [hes]; exact near_upto (M := datK x) (d := D) HZ.out hdD T HT.out
        have htm : TimedOk (datK x) D es := by rw [hes]; exact (clock_upto (M := datK x) (d := D) HZ.out hdD T HT.out).1
        have hdn : ∀ v ∈ es, v.done < (T : Int) := fun v hv => by
          rw [hes] at hv
          have := doneLe_upto (M := datK x) (d := D) T v hv
          omega
        have K6 := hk.below t4
        have r6 : Row w6 w.heap.size (csL x l) 33 := r0.below t4 lr
        have hRd := ktimed_any x l HZ.out D _ hdD rfl es hrd hnr htm T hdn HT.out _ es.length es.length w6 (HCA.out.below K6.bel (Nat.le_refl _)) t1 htl
        have HE6 : Hid _ := t1
        have HES : Hid _ := hes
        have HK6 : Hid _ := K6
        have HDD : Hid _ := hdD
        have hrow := r6
        have l6 := r6.lt
        clear hk r0 ok t1 t2 t3 t4 hes hee hw6 hrd hnr htm hdn K6 r6 hdD
        go_wp2_with fail
        refine hTr.mono ?_; rintro e w7 ⟨rfl, rfl⟩
        clear hTr
        go_wp2_with (refine wpList_load_row (by rfl) 33 (.tmp 1) (by rfl) w.heap.size (by rfl) 33 (csL x l).toArray (0, 0) _ hrow Tryz.underlying33 (by rfl) (size_case x l) ?_)
        refine hRd.mono ?_; rintro e w8 ⟨rfl, hb8⟩
        have K8 := HK6.out.below hb8
        have r8 : Row w8 w.heap.size (csL x l) 33 := Row.below hrow hb8 l6
        have hGr := kgrown_any x l HZ.out D HDD.out T HT.out es HES.out _ es.length es.length w8 (HCA.out.below K8.bel (Nat.le_refl _)) (HE6.out.below hb8 (Nat.le_refl _)) (by omega)
        have HK8 : Hid _ := K8
        have l8 := r8.lt
        clear hRd hrow hb8 K8
        go_wp2_with (refine wpList_load_row (by rfl) 33 (.tmp 1) (by rfl) w.heap.size (by rfl) 33 (csL x l).toArray (0, 0) _ r8 Tryz.underlying33 (by rfl) (size_case x l) ?_)
        refine hGr.mono ?_; rintro e w9 ⟨rfl, hb9⟩
        have HK9 : Hid _ := HK8.out.below hb9
        clear hGr r8 hb9
        go_wp2_with fail
        go_roundw
        case rel => exact ⟨D + 1, by omega, by go_num, HK9.out⟩
        case measure => simp [intOf]; omega
      · clear hk r0
        go_wp2
        go_ret
        exact ⟨rfl, HB0.out.trans (HKK.out.bel.mono (by omega))⟩
  · have hMc := kmachine_bad x l _ h0 hz
    clear hz hb0 h0 h
    go_enter Tryz.func10, Tryz.ntmps10
    go_wp2_with (refine wpList_load_row (by rfl) 33 (.tmp 1) (by rfl) w.heap.size (by rfl) 33 (csL x l).toArray (0, 0) _ hR0 Tryz.underlying33 (by rfl) (size_case x l) ?_)
    refine hMc.mono ?_; rintro e w1 ⟨rfl, hb1⟩
    have HB1 : Hid _ := below_step HB0.out hb1 rfl
    clear hMc hR0 hb1
    go_wp2
    go_ret
    exact ⟨rfl, HB1.out⟩
end Go.Proofs.YtcmcfafhllpojaaGreat

namespace Go.Proofs.YtcmcfafhllpojaaGreat
open Go.ChangeShapes Go.WideShapes Go.ChangeAt Go.RowKit

theorem Tryz.own : ownKnob Tryz.prog.godebug = none := by kernel_rfl
theorem Tryz.laidOut : laidOutB Tryz.prog = true := by kernel_rfl

set_option maxRecDepth 100000 in
theorem timed_lifted (os : Os) (started : os.Started) (H : Type) (enc : TypeId × Value → H) :
    ReturnsInHanded {} Tryz.checked os 10 .any (Rows.timedSpec.pre6 enc Tryz.prog Tryz.f10 Rows.timedRow.domain false) (Rows.timedSpec.post enc Tryz.prog Tryz.f10 false true false false) := by
  refine returnsInHanded_of_change_sized (C := Tryz.checked) Tryz.own started (by kernel_rfl) Tryz.func10
    (ChangeSpec.witness6 (enc := enc) (C := Tryz.checked) false ⟨#[], #[.agg #[.int .i64 0, .int .i64 0, .int .i64 0, .int .i64 0, .int .i64 0, .int .i64 0, .int .i64 0, .slice none 0 0, .int .i64 0, .slice none 0 0, .slice none 0 0, .int .i64 0, .int .i64 0, .slice none 0 0, .slice none 0 0, .slice none 0 0, .slice none 0 0]], []⟩ 8 (by kernel_rfl) (by kernel_rfl) (by kernel_rfl) (by kernel_rfl)) ?_
  intro W base args ds gs before hval0 hW _ hsz0 _
  have hsz : (DataW.weightsEach Tryz.prog (Tryz.f10.params.toList ++ Rows.timedSpec.plain.varTypes Tryz.prog) (ds ++ gs)).all (· ≤ reachBytes) = true := hsz0
  clear hsz0
  have hval : ∀ (j : Nat) t v, Tryz.f10.params[j]? = some t → args[j]? = some v → Value.okWide Tryz.prog W .any base t v := hval0
  have hW' := hW
  obtain ⟨p, q, hA0, hV, rfl, _, _⟩ := hW
  have hA : DataW.TrodAll enc Tryz.prog W 0 (fun _ => true) true Tryz.f10.params.toList args.toList ds p := hA0
  rw [Tryz.params10] at hA hval hsz
  obtain ⟨v0, d0, rfl, rfl, h0⟩ := trodAll_one hA
  obtain ⟨rfl, rfl⟩ := trodVars_none hV
  clear hA0 hval0
  simp only [List.append_nil] at hW'
  have lt0 : ∀ x ∈ p, x.block < W.heap.size := fun x hx => hW'.lt x (by simp [hx])
  have z0 : Sized Tryz.prog 33 d0 := fun n hn => by
    have := List.all_eq_true.1 hsz _ (DataW.weights_mem_each (j := 0) (t := 33) rfl rfl n hn)
    simpa using this
  obtain ⟨a0, rfl, _⟩ := okWide_struct Tryz.underlying33 (hval 0 33 v0 rfl rfl)
  have h0k := h0
  obtain ⟨f0, hf0⟩ := h0
  obtain ⟨c, s, e0, hcs⟩ := read_case (n := f0) (cs := a0.toList) (by simpa [Value.cells] using hf0) z0
  obtain rfl : a0 = csA c s := by
    have := congrArg List.toArray e0
    simpa using this
  refine (timed_any c s W hcs).mono fun e W' ⟨he, hb⟩ => ?_
  subst he
  have ar0 := Below.trod Tryz.laidOut (by kernel_rfl) (of_decide_eq_true (by kernel_rfl)) h0k hb lt0
  refine ⟨_, rfl, _, _, _, [], p, [], hW', ?_, trodAll_mk1 ar0, rfl, hb.frame _, fun h => by cases h⟩
  exact trodAll_mk1 (shut_bool Tryz.underlying4 true)

theorem timed_holds : Rows.TimedSaid :=
  OpenClaim.holds_of_wide 10 Tryz.f10 rfl rfl rfl rfl rfl rfl rfl ⟨rfl, rfl, rfl, rfl, rfl⟩ rfl rfl rfl rfl rfl (by kernel_rfl) Tryz.func10 (by kernel_rfl)
    (of_decide_eq_true (by kernel_rfl)) (by unfold Func.isWrapper; first | (rw [if_pos (by decide +kernel)]; kernel_rfl) | (rw [if_neg (by decide +kernel)]; exact ⟨rfl, rfl⟩))
    (fun os started H enc _ => timed_lifted os started H enc)

#print axioms timed_holds
end Go.Proofs.YtcmcfafhllpojaaGreat
