/-
  The walk of the law Last, over a contract of read.
-/
import Derived.Test.YtcmcfafhllpojaaClPackZ
namespace Go.Proofs.Ytcmcfafhllpojaa
open Go.RowKit

/-- What read does with a trace that is as it must be. -/
def ReadC : Prop := ∀ (x : Cs) (l : Cl), chk x.c = 0 → ∀ (d : Nat), (d : Int) < x.c.domains → ∀ (es : List Ev), ReadOk (datK x) d es → ∀ (sa : Option Addr) (len cap : Nat) (w : World), CaseAt w x l → EvsAt w sa len cap es → len ≤ 192 →
    Calls Try.prog 15 #[csV x l, .slice sa len cap, .int .i64 d] w fun e w' => ∃ g, e = .returned (.tuple #[.pointer (some ⟨g, 0, none⟩), .bool true]) ∧ Below w.heap.size w w'

set_option maxRecDepth 100000 in
set_option maxHeartbeats 6400000 in
theorem last_any' (hRead : ReadC) (x : Cs) (l : Cl) (w : World) (h : CaseAt w x l) :
    Calls Try.prog 5 #[csV x l] w fun e w' => e = .returned (.bool true) ∧ Below w.heap.size w w' := by
  have hb0 : Below w.heap.size w (w.alloc (.cells (csA x l) 39)) := (Below.refl _ _).alloc (Nat.le_refl _) _
  have hR0 : Row (w.alloc (.cells (csA x l) 39)) w.heap.size (csL x l) 39 := heap_alloc_new w _
  have h0 := h.below hb0 (Nat.le_refl _)
  have hs0 : (w.alloc (.cells (csA x l) 39)).heap.size = w.heap.size + 1 := by simp
  have HR0 : Hid (Row (w.alloc (.cells (csA x l) 39)) w.heap.size (csL x l) 39) := hR0
  have HB0 : Hid _ := hb0
  by_cases hz : chk x.c = 0
  · have hMc := kmachine_good x l _ h0 hz
    have R := right_of hz
    obtain ⟨nd, hnd⟩ : ∃ nd, x.c.domains.toNat = nd := ⟨_, rfl⟩
    have HED : Hid ((nd : Int) = x.c.domains) := by unfold Hid; have := R.d1; omega
    have hd4 : nd ≤ 4 := by have := R.d2; omega
    have HC3 : Hid (x.c.cores.toNat ≤ 3) := by unfold Hid; have := R.c2; omega
    have HZ : Hid _ := hz
    obtain ⟨W0, hW0⟩ : ∃ W0, w.alloc (.cells (csA x l) 39) = W0 := ⟨_, rfl⟩
    have HW0 : Hid _ := hW0
    rw [hW0] at HR0 HB0 h0 hs0 hMc
    have HCA : Hid _ := h0
    have hrow0 := hR0
    clear hz R hb0 h0 h hnd hW0
    go_enter Try.func5, Try.ntmps5
    go_wp2_with (refine wpList_load_row (by rfl) 39 (.tmp 1) (by rfl) w.heap.size (by rfl) 39 (csL x l).toArray (0, 0) _ hrow0 Try.underlying39 (by rfl) (size_case x l) ?_)
    rw [HW0.out]
    refine hMc.mono ?_; rintro e w1 ⟨X, rfl, hK⟩
    have K1 := hK.ctx
    have R1 : Row w1 w.heap.size (csL x l) 39 := Row.below HR0.out hK.bel (by omega)
    have hWh := kwhole_any x l HZ.out X W0 w1 HCA.out K1
    have hrow := R1
    have l1 := R1.lt
    clear hMc hR0 hrow0 hK K1 R1
    go_wp2_with (refine wpList_load_row (by rfl) 39 (.tmp 1) (by rfl) w.heap.size (by rfl) 39 (csL x l).toArray (0, 0) _ hrow Try.underlying39 (by rfl) (size_case x l) ?_)
    refine hWh.mono ?_; rintro e w2 ⟨X2, T, hT, rfl, hg2, K2⟩
    have HK2 : Hid _ := K2
    have HG2 : Hid _ := hg2
    have HT : Hid _ := hT
    clear hWh hrow K2 hg2
    go_wp2_with fail
    go_loopw [6] (fun u wr => ∃ (D : Nat), D ≤ nd ∧ u = .int .i64 D ∧ KCtx W0 wr x X2 (Mh.runs (cnOf x.c) T (machK x))) (fun u _ => nd - (intOf u).toNat)
    case atStart => exact ⟨0, by omega, rfl, HK2.out⟩
    case round =>
      obtain ⟨D, hD, rfl, hk⟩ := hrel
      have r0 : Row wr w.heap.size (csL x l) 39 := Row.below HR0.out hk.bel (by omega)
      have y1 : wr.cell? ⟨w.heap.size, 1, none⟩ = some (.int .i64 nd) := by rw [HED.out]; exact r0.cell 1
      have lr := r0.lt
      have HKK : Hid _ := hk
      by_cases hlt : D < nd
      · obtain ⟨ok, _⟩ := runsK_ok x HZ.out T
        have hTr := wTrace_any (cnOf x.c) X2 _ (D : Int) wr hk.mach ok
        have htl := ok.trl (by show x.c.cores.toNat ≤ 3; exact HC3.out) D
        have hdD : (D : Int) < x.c.domains := by rw [← HED.out]; omega
        obtain ⟨t1, t2, t3, t4⟩ := trace_at (w := wr) (N := cnOf x.c) (m := Mh.runs (cnOf x.c) T (machK x)) (d := D) hdD htl
        rw [t2, t3, HG2.out] at hTr
        have hes := traceK x HZ.out T HT.out D hdD
        obtain ⟨es, hee⟩ : ∃ es, (Mh.runs (cnOf x.c) T (machK x)).tr D = es := ⟨_, rfl⟩
        rw [hee] at t1 hTr htl hes
        obtain ⟨w6, hw6⟩ : ∃ w6, traceW (cnOf x.c) (Mh.runs (cnOf x.c) T (machK x)) (D : Int) wr = w6 := ⟨_, rfl⟩
        rw [hw6] at t1 t4 hTr
        have hrd : ReadOk (datK x) D es := by rw [hes]; exact (book_upto (M := datK x) (d := D) HZ.out T HT.out).2.read
        have K6 := hk.below t4
        have r6 : Row w6 w.heap.size (csL x l) 39 := r0.below t4 lr
        have hRd := hRead x l HZ.out D hdD es hrd _ es.length es.length w6 (HCA.out.below K6.bel (Nat.le_refl _)) t1 htl
        have HE6 : Hid _ := t1
        have HES : Hid _ := hes
        have HK6 : Hid _ := K6
        have HDD : Hid _ := hdD
        have hrow := r6
        have l6 := r6.lt
        clear hk r0 ok t1 t2 t3 t4 hes hee hw6 hrd K6 r6 hdD
        go_wp2_with fail
        refine hTr.mono ?_; rintro e w7 ⟨rfl, rfl⟩
        clear hTr
        go_wp2_with (refine wpList_load_row (by rfl) 39 (.tmp 1) (by rfl) w.heap.size (by rfl) 39 (csL x l).toArray (0, 0) _ hrow Try.underlying39 (by rfl) (size_case x l) ?_)
        refine hRd.mono ?_; rintro e w8 ⟨g, rfl, hb8⟩
        have K8 := HK6.out.below hb8
        have r8 : Row w8 w.heap.size (csL x l) 39 := Row.below hrow hb8 l6
        have hGr := kgrown_any x l HZ.out D HDD.out T HT.out es HES.out _ es.length es.length w8 (HCA.out.below K8.bel (Nat.le_refl _)) (HE6.out.below hb8 (Nat.le_refl _)) (by omega)
        have HK8 : Hid _ := K8
        have l8 := r8.lt
        clear hRd hrow hb8 K8
        go_wp2_with (refine wpList_load_row (by rfl) 39 (.tmp 1) (by rfl) w.heap.size (by rfl) 39 (csL x l).toArray (0, 0) _ r8 Try.underlying39 (by rfl) (size_case x l) ?_)
        refine hGr.mono ?_; rintro e w9 ⟨rfl, hb9⟩
        have HK9 : Hid _ := HK8.out.below hb9
        clear hGr r8 hb9
        go_wp2_with fail
        go_roundw
        case rel => exact ⟨D + 1, by omega, by go_num, HK9.out⟩
        case measure => simp [intOf]; omega
      · clear hk r0
        go_wp2
        go_ret
        exact ⟨rfl, HB0.out.trans (HKK.out.bel.mono (by omega))⟩
  · have hMc := kmachine_bad x l _ h0 hz
    clear hz hb0 h0 h
    go_enter Try.func5, Try.ntmps5
    go_wp2_with (refine wpList_load_row (by rfl) 39 (.tmp 1) (by rfl) w.heap.size (by rfl) 39 (csL x l).toArray (0, 0) _ hR0 Try.underlying39 (by rfl) (size_case x l) ?_)
    refine hMc.mono ?_; rintro e w1 ⟨rfl, hb1⟩
    have HB1 : Hid _ := below_step HB0.out hb1 rfl
    clear hMc hR0 hb1
    go_wp2
    go_ret
    exact ⟨rfl, HB1.out⟩
end Go.Proofs.Ytcmcfafhllpojaa
