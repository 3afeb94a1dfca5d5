/-
  The walk of the law Walled.
-/
import Derived.Test.YtcmcfafhllpojaaGreatClBesideK
import Derived.Test.YtcmcfafhllpojaaGreatClPackAK
import Derived.Test.YtcmcfafhllpojaaGreatClPackAL
namespace Go.Proofs.YtcmcfafhllpojaaGreat
open Go.RowKit

set_option maxRecDepth 100000 in
set_option maxHeartbeats 6400000 in
theorem walled_any (x o : Cs) (l lo : Cl) (t : Int) (w : World) (hX : CaseAt w x l) (hO : CaseAt w o lo) (t0 : -9223372036854775808 ≤ t) (t1 : t ≤ 9223372036854775807) (h1 : x.own.length ≤ 1000000000) (h2 : o.own.length ≤ 1000000000) (hrl : l.rl ≤ 4611686018427387904) :
    Calls Tryz.prog 9 #[csV x l, csV o lo, .int .i64 t] w fun e w' => e = .returned (.bool true) ∧ Below w.heap.size w w' := by
  have hb0 : Below w.heap.size w ((w.alloc (.cells (csA x l) 33)).alloc (.cells (csA o lo) 33)) := ((Below.refl _ _).alloc (Nat.le_refl _) _).alloc (by simp) _
  have RX : Row ((w.alloc (.cells (csA x l) 33)).alloc (.cells (csA o lo) 33)) w.heap.size (csL x l) 33 := Row.alloc (heap_alloc_new w _) _
  have RO : Row ((w.alloc (.cells (csA x l) 33)).alloc (.cells (csA o lo) 33)) (w.heap.size + 1) (csL o lo) 33 := by
    have := heap_alloc_new (w.alloc (.cells (csA x l) 33)) (.cells (csA o lo) 33)
    rw [World.size_alloc] at this
    exact this
  have hsz : ((w.alloc (.cells (csA x l) 33)).alloc (.cells (csA o lo) 33)).heap.size = w.heap.size + 2 := by simp
  obtain ⟨W0, hW0⟩ : ∃ W0, (w.alloc (.cells (csA x l) 33)).alloc (.cells (csA o lo) 33) = W0 := ⟨_, rfl⟩
  have hrow0 := RX
  rw [hW0] at hb0 RX RO hsz
  have HW0 : Hid _ := hW0
  have HSZ : Hid _ := hsz
  have HB0 : Hid _ := hb0
  have HRX : Hid (Row W0 w.heap.size (csL x l) 33) := RX
  have HRO : Hid (Row W0 (w.heap.size + 1) (csL o lo) 33) := RO
  have hX0 := hX.below hb0 (Nat.le_refl _)
  have HX : Hid _ := hX0
  have HO : Hid _ := hO.below hb0 (Nat.le_refl _)
  by_cases hz : chk x.c = 0
  · have hMc := kmachine_good x l W0 hX0 hz
    have R := right_of hz
    obtain ⟨nd, hnd⟩ : ∃ nd, x.c.domains.toNat = nd := ⟨_, rfl⟩
    have HED : Hid ((nd : Int) = x.c.domains) := by unfold Hid; have := R.d1; omega
    have hd4 : nd ≤ 4 := by have := R.d2; omega
    have hd1 : 0 < nd := by have := R.d1; omega
    have HZ : Hid _ := hz
    clear hz R hb0 hX0 hX hO hnd hW0 hsz RX RO
    go_enter Tryz.func9, Tryz.ntmps9
    go_wp2_with (refine wpList_load_row (by rfl) 33 (.tmp 3) (by rfl) w.heap.size (by rfl) 33 (csL x l).toArray (0, 0) _ hrow0 Tryz.underlying33 (by rfl) (size_case x l) ?_)
    rw [HW0.out]
    refine hMc.mono ?_; rintro e w1 ⟨X, rfl, hK⟩
    have K1 := hK.ctx
    have r1 : Row w1 w.heap.size (csL x l) 33 := Row.below HRX.out hK.bel (by have := HSZ.out; omega)
    have o1 : Row w1 (w.heap.size + 1) (csL o lo) 33 := Row.below HRO.out hK.bel (by have := HSZ.out; omega)
    have y1 : w1.cell? ⟨w.heap.size, 1, none⟩ = some (.int .i64 nd) := by rw [HED.out]; exact r1.cell 1
    have hPk := kpick_any t nd hd1 (by omega) t0 t1 w1
    have HK1 : Hid _ := K1
    have HR1 : Hid (Row w1 w.heap.size (csL x l) 33) := r1
    have HO1 : Hid (Row w1 (w.heap.size + 1) (csL o lo) 33) := o1
    have l1 := r1.lt
    clear hMc hrow0 hK K1 r1 o1
    go_wp2_with fail
    refine hPk.mono ?_; rintro e w2 ⟨d, hd, rfl, rfl⟩
    have hdD : (d : Int) < x.c.domains := by rw [← HED.out]; omega
    have hBs := kbeside_any x o l lo HZ.out d hdD w2 (HX.out.below HK1.out.bel (Nat.le_refl _)) (HO.out.below HK1.out.bel (Nat.le_refl _)) h1 h2
    have hrX := HR1.out
    unfold Hid at hrX
    have hrO := HO1.out
    unfold Hid at hrO
    have HDD : Hid _ := hdD
    clear hPk y1 hdD
    go_wp2_with (first
      | (refine wpList_load_row (by rfl) 33 (.tmp 3) (by rfl) w.heap.size (by rfl) 33 (csL x l).toArray (0, 0) _ hrX Tryz.underlying33 (by rfl) (size_case x l) ?_)
      | (refine wpList_load_row (by rfl) 33 (.tmp 4) (by rfl) (w.heap.size + 1) (by rfl) 33 (csL o lo).toArray (0, 0) _ hrO Tryz.underlying33 (by rfl) (size_case o lo) ?_))
    refine hBs.mono ?_; rintro e w3 ⟨ly, rfl, hY, hb3⟩
    have HYC : Hid ((besK x o d).c = x.c) := rfl
    have HAG : Hid _ := bes_agree x o HZ.out d HDD.out
    obtain ⟨y, hy⟩ : ∃ y, besK x o d = y := ⟨_, rfl⟩
    rw [hy] at hY HYC HAG
    rw [hy]
    have hbY : Below w3.heap.size w3 (w3.alloc (.cells (csA y ly) 33)) := (Below.refl _ _).alloc (Nat.le_refl _) _
    have hMy := kmachine_good y ly (w3.alloc (.cells (csA y ly) 33)) (hY.below hbY (Nat.le_refl _)) (by rw [HYC.out]; exact HZ.out)
    have HKY : Hid _ := (HK1.out.below hb3).below hbY
    have HRY : Hid (Row (w3.alloc (.cells (csA y ly) 33)) w.heap.size (csL x l) 33) := (Row.below HR1.out hb3 l1).below hbY (by have := hb3.size; omega)
    have lY : w.heap.size < (w3.alloc (.cells (csA y ly) 33)).heap.size := HRY.out.lt
    have HLY : Hid _ := lY
    clear hBs hrX hrO hY hb3 hy hbY lY
    go_wp2_with fail
    refine hMy.mono ?_; rintro e w5 ⟨Xb, rfl, hK5⟩
    have D5 : Duo W0 w5 (cnOf x.c) X Xb (machK x) (machK y) := Duo.make (by rw [HYC.out]) HKY.out hK5
    have r5 : Row w5 w.heap.size (csL x l) 33 := Row.below HRY.out hK5.bel HLY.out
    have hTh := kthrough_any x y l HZ.out HYC.out d HDD.out HAG.out X Xb W0 w5 HX.out hrl D5
    have l5 := r5.lt
    clear hMy hK5 D5
    go_wp2_with (refine wpList_load_row (by rfl) 33 (.tmp 3) (by rfl) w.heap.size (by rfl) 33 (csL x l).toArray (0, 0) _ r5 Tryz.underlying33 (by rfl) (size_case x l) ?_)
    refine hTh.mono ?_; rintro e w6 ⟨rfl, hb6⟩
    have HB6 : Hid (Below w.heap.size w w6) := HB0.out.trans (hb6.mono (by have := HSZ.out; omega))
    clear hTh r5 hb6
    go_wp2
    go_ret
    exact ⟨rfl, HB6.out⟩
  · have hMc := kmachine_bad x l W0 hX0 hz
    clear hz hb0 hX0 hX hO hW0 hsz RX RO
    go_enter Tryz.func9, Tryz.ntmps9
    go_wp2_with (refine wpList_load_row (by rfl) 33 (.tmp 3) (by rfl) w.heap.size (by rfl) 33 (csL x l).toArray (0, 0) _ hrow0 Tryz.underlying33 (by rfl) (size_case x l) ?_)
    rw [HW0.out]
    refine hMc.mono ?_; rintro e w1 ⟨rfl, hb1⟩
    have HB1 : Hid _ := below_step HB0.out hb1 rfl
    clear hMc hrow0 hb1
    go_wp2
    go_ret
    exact ⟨rfl, HB1.out⟩
end Go.Proofs.YtcmcfafhllpojaaGreat
