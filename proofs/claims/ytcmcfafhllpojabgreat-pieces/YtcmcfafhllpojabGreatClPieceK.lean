/-
  The walk of the law Pieces.
-/
import Derived.Test.YtcmcfafhllpojabGreatClPackAF
import Derived.Test.YtcmcfafhllpojabGreatClPackAG
import Derived.Test.YtcmcfafhllpojabGreatClPackZ
namespace Go.Proofs.YtcmcfafhllpojabGreat
open Go.RowKit

theorem Twin.refl (N : Cn) (d : Nat) (m : Mh) : Twin N d m m := ⟨rfl, fun _ _ _ _ => ⟨rfl, rfl⟩, fun _ _ => rfl, fun _ _ _ _ _ => rfl⟩
theorem goT_zero {T : Nat} (h : T ≤ 10000) : goT 0 (T : Int) = T := by
  unfold goT
  rw [if_neg (by omega), Int.toNat_natCast, Nat.zero_add]

set_option maxRecDepth 100000 in
set_option maxHeartbeats 6400000 in
theorem pieces_any (x : Cs) (l : Cl) (w : World) (h : CaseAt w x l) :
    Calls Tryz.prog 6 #[csV x l] w fun e w' => e = .returned (.bool true) ∧ Below w.heap.size w w' := by
  have hb0 : Below w.heap.size w (w.alloc (.cells (csA x l) 33)) := (Below.refl _ _).alloc (Nat.le_refl _) _
  have hR0 : Row (w.alloc (.cells (csA x l) 33)) w.heap.size (csL x l) 33 := heap_alloc_new w _
  have h0 := h.below hb0 (Nat.le_refl _)
  have hs0 : (w.alloc (.cells (csA x l) 33)).heap.size = w.heap.size + 1 := by simp
  have HR0 : Hid (Row (w.alloc (.cells (csA x l) 33)) w.heap.size (csL x l) 33) := hR0
  have HB0 : Hid _ := hb0
  by_cases hz : chk x.c = 0
  · have hMc := kmachine_good x l _ h0 hz
    have R := right_of hz
    obtain ⟨nd, hnd⟩ : ∃ nd, x.c.domains.toNat = nd := ⟨_, rfl⟩
    have HED : Hid ((nd : Int) = x.c.domains) := by unfold Hid; have := R.d1; omega
    have hd4 : nd ≤ 4 := by have := R.d2; omega
    have HC3 : Hid (x.c.cores.toNat ≤ 3) := by unfold Hid; have := R.c2; omega
    have HZ : Hid _ := hz
    obtain ⟨W0, hW0⟩ : ∃ W0, w.alloc (.cells (csA x l) 33) = W0 := ⟨_, rfl⟩
    have HW0 : Hid _ := hW0
    rw [hW0] at HR0 HB0 h0 hs0 hMc
    have HCA : Hid _ := h0
    have HS0 : Hid _ := hs0
    have HRL : Hid _ := h0.runs.hlen
    have hrm := h0.runs.hmax
    have hrle := h0.runs.hle
    unfold maxLen at hrm
    have hrow0 := hR0
    clear hz R hb0 h0 h hnd hW0 hs0
    go_enter Tryz.func6, Tryz.ntmps6
    go_wp2_with (refine wpList_load_row (by rfl) 33 (.tmp 1) (by rfl) w.heap.size (by rfl) 33 (csL x l).toArray (0, 0) _ hrow0 Tryz.underlying33 (by rfl) (size_case x l) ?_)
    rw [HW0.out]
    refine hMc.mono ?_; rintro e w1 ⟨X, rfl, hK⟩
    have K1 := hK.ctx
    have R1 : Row w1 w.heap.size (csL x l) 33 := Row.below HR0.out hK.bel (by have := HS0.out; omega)
    have hMd := kmachine_good x l w1 (HCA.out.below K1.bel (Nat.le_refl _)) HZ.out
    have hrow := R1
    have l1 := R1.lt
    have HK1 : Hid _ := K1
    clear hMc hR0 hrow0 hK K1 R1
    go_wp2_with (refine wpList_load_row (by rfl) 33 (.tmp 1) (by rfl) w.heap.size (by rfl) 33 (csL x l).toArray (0, 0) _ hrow Tryz.underlying33 (by rfl) (size_case x l) ?_)
    refine hMd.mono ?_; rintro e w2 ⟨X', rfl, hK2⟩
    have HD2 : Hid (Duo W0 w2 (cnOf x.c) X X' (Mh.runs (cnOf x.c) 0 (machK x)) (machK x)) := Duo.make rfl HK1.out hK2
    clear hMd hrow hK2
    go_wp2_with fail
    go_loopw [4, 6, 7] (fun o v u wr => ∃ (i T : Nat) (Xa : XLoc), i ≤ l.rl ∧ T ≤ 10000 ∧ o = .bool true ∧ u = .int .i64 i ∧ v = .int .i64 T ∧ Xa.g = X.g ∧ Duo W0 wr (cnOf x.c) Xa X' (Mh.runs (cnOf x.c) T (machK x)) (machK x)) (fun _ _ u _ => l.rl - (intOf u).toNat)
    case atStart => exact ⟨0, 0, X, by omega, by omega, rfl, rfl, rfl, rfl, HD2.out⟩
    case round =>
      obtain ⟨i, T, Xa, hi, hT, rfl, rfl, rfl, hg, hd⟩ := hrel
      have r : Row wr w.heap.size (csL x l) 33 := Row.below HR0.out hd.bel (by have := HS0.out; omega)
      have lr := r.lt
      have HDD : Hid _ := hd
      have HG : Hid _ := hg
      by_cases hlt : i < l.rl
      · obtain ⟨b, off, hra, e1⟩ := (HCA.out.below hd.bel (Nat.le_refl _)).runs.hat i hlt
        have y16 : wr.cell? ⟨w.heap.size, 16, none⟩ = some (.slice (some ⟨b, off, none⟩) l.rl l.rc) := by rw [← hra]; exact r.cell 16
        have lb := cell_lt e1
        obtain ⟨n, hn2⟩ : ∃ n, x.runs.getD i 0 = n := ⟨_, rfl⟩
        rw [hn2] at e1
        have hGo := kgoes_any x HZ.out Xa T hT n wr hd.a
        rw [hg] at hGo
        have hT2 := goT_le n hT
        clear hra hn2 hd r hg
        go_wp2_with fail
        refine hGo.mono ?_; rintro e w3 ⟨X3, rfl, hM3, hG3⟩
        obtain ⟨T2, hTe⟩ : ∃ T2, goT T n = T2 := ⟨_, rfl⟩
        rw [hTe] at hM3 hT2
        rw [hTe]
        have D3 := HDD.out.left hG3 hM3
        have r3 : Row w3 w.heap.size (csL x l) 33 := Row.below HR0.out D3.bel (by have := HS0.out; omega)
        obtain ⟨ok3, now3⟩ := runsK_ok x HZ.out T2
        have hRf := krefused_any (cnOf x.c) l.s X3 _ T2 w3 D3.a ok3 now3
        have e3 : X3.g = X.g := hG3.g.trans HG.out
        rw [e3] at hRf
        obtain ⟨x0, x1, x2, x3, x4, x5, x6, x7, x8, x9, x10, x11, x12⟩ := cs_cells r3
        have HD3 : Hid _ := D3
        have HE3 : Hid _ := e3
        have l3 := r3.lt
        clear hGo hM3 hG3 y16 e1 hTe D3 r3 ok3 now3 e3
        go_wp2_with fail
        refine hRf.mono ?_; rintro e w4 ⟨X4, rfl, hM4, hG4⟩
        have HD4 : Hid _ := HD3.out.left hG4 hM4
        have HE4 : Hid (X4.g = X.g) := hG4.g.trans HE3.out
        clear hRf hM4 hG4 x0 x1 x2 x3 x4 x5 x6 x7 x8 x9 x10 x11 x12
        go_wp2_with fail
        go_roundw
        case rel => exact ⟨i + 1, T2, X4, by omega, hT2.2, rfl, by go_num, rfl, HE4.out, HD4.out⟩
        case measure => simp [intOf]; omega
      · have y16 : wr.cell? ⟨w.heap.size, 16, none⟩ = some (.slice l.ra l.rl l.rc) := r.cell 16
        have hGo := kgoes_any x HZ.out X' 0 (by omega) (T : Int) wr hd.b
        rw [goT_zero hT] at hGo
        have HT : Hid _ := hT
        clear hd r hg
        go_wp2_with fail
        refine hGo.mono ?_; rintro e w5 ⟨X5, rfl, hM5, hG5⟩
        have HD5 : Hid _ := HDD.out.right hG5 hM5
        have HE5 : Hid _ := hG5.g
        clear hGo hM5 hG5 y16
        go_wp2_with fail
        go_loopw [8] (fun u wz => ∃ (D : Nat), D ≤ nd ∧ u = .int .i64 D ∧ Duo W0 wz (cnOf x.c) Xa X5 (Mh.runs (cnOf x.c) T (machK x)) (Mh.runs (cnOf x.c) T (machK x))) (fun u _ => nd - (intOf u).toNat)
        case atStart => exact ⟨0, by omega, rfl, HD5.out⟩
        case round =>
          obtain ⟨D, hD, rfl, hd⟩ := hrel
          have r : Row wr w.heap.size (csL x l) 33 := Row.below HR0.out hd.bel (by have := HS0.out; omega)
          have y1 : wr.cell? ⟨w.heap.size, 1, none⟩ = some (.int .i64 nd) := by rw [HED.out]; exact r.cell 1
          have lr := r.lt
          have HDU : Hid _ := hd
          by_cases hlt : D < nd
          · obtain ⟨ok, _⟩ := runsK_ok x HZ.out T
            have hdn : D < (cnOf x.c).nd := by have := HED.out; have : (cnOf x.c).nd = x.c.domains.toNat := rfl; omega
            have hAl := kalike_any (cnOf x.c) l.s Xa X5 _ _ D wr hd.a hd.b ok ok (Twin.refl _ _ _) hdn
            rw [HG.out, HE5.out] at hAl
            obtain ⟨x0, x1, x2, x3, x4, x5, x6, x7, x8, x9, x10, x11, x12⟩ := cs_cells r
            have hdD : (D : Int) < x.c.domains := by rw [← HED.out]; omega
            have HDD' : Hid _ := hdD
            have x1' : wr.cell? ⟨w.heap.size, 1, none⟩ = some (.int .i64 x.c.domains) := x1
            clear hd r ok y1
            go_wp2_with fail
            refine hAl.mono ?_; rintro e w6 ⟨rfl, hb6⟩
            have D6 := HDU.out.below hb6
            have r6 : Row w6 w.heap.size (csL x l) 33 := Row.below HR0.out D6.bel (by have := HS0.out; omega)
            have hBh := kbeheld_any (cnOf x.c) l.s Xa X5 _ _ D w6 D6.a D6.b (Twin.refl _ _ _)
            rw [HG.out, HE5.out] at hBh
            clear x0 x1 x2 x3 x4 x5 x6 x7 x8 x9 x10 x11 x12 x1' hAl hb6
            obtain ⟨x0, x1, x2, x3, x4, x5, x6, x7, x8, x9, x10, x11, x12⟩ := cs_cells r6
            have HD6 : Hid _ := D6
            have l6 := r6.lt
            clear D6 r6
            go_wp2_with fail
            refine hBh.mono ?_; rintro e w7 ⟨rfl, hb7⟩
            have D7 := HD6.out.below hb7
            obtain ⟨ok, _⟩ := runsK_ok x HZ.out T
            have hTr := wTrace_any (cnOf x.c) Xa _ (D : Int) w7 D7.a ok
            have htl := ok.trl (by show x.c.cores.toNat ≤ 3; exact HC3.out) D
            obtain ⟨t1, t2, t3, t4⟩ := trace_at (w := w7) (N := cnOf x.c) (m := Mh.runs (cnOf x.c) T (machK x)) (d := D) hdD htl
            rw [t2, t3, HG.out] at hTr
            have hes := traceK x HZ.out T HT.out D hdD
            obtain ⟨es, hee⟩ : ∃ es, (Mh.runs (cnOf x.c) T (machK x)).tr D = es := ⟨_, rfl⟩
            rw [hee] at t1 hTr htl hes
            obtain ⟨w8, hw8⟩ : ∃ w8, traceW (cnOf x.c) (Mh.runs (cnOf x.c) T (machK x)) (D : Int) w7 = w8 := ⟨_, rfl⟩
            rw [hw8] at t1 t4 hTr
            have D8 := D7.below t4
            have r8 : Row w8 w.heap.size (csL x l) 33 := Row.below HR0.out D8.bel (by have := HS0.out; omega)
            have hGr := kgrown_any x l HZ.out D hdD T HT.out es hes _ es.length es.length w8 (HCA.out.below D8.bel (Nat.le_refl _)) t1 (by omega)
            have HD8 : Hid _ := D8
            have hrow := r8
            have l8 := r8.lt
            clear x0 x1 x2 x3 x4 x5 x6 x7 x8 x9 x10 x11 x12 hBh hb7 D7 ok t1 t2 t3 t4 hes hee hw8 D8 r8
            go_wp2_with fail
            refine hTr.mono ?_; rintro e v8 ⟨rfl, rfl⟩
            clear hTr
            go_wp2_with (refine wpList_load_row (by rfl) 33 (.tmp 1) (by rfl) w.heap.size (by rfl) 33 (csL x l).toArray (0, 0) _ hrow Tryz.underlying33 (by rfl) (size_case x l) ?_)
            refine hGr.mono ?_; rintro e w9 ⟨rfl, hb9⟩
            have HD9 : Hid _ := HD8.out.below hb9
            clear hGr hrow hb9
            go_wp2_with fail
            go_roundw
            case rel => exact ⟨D + 1, by omega, by go_num, HD9.out⟩
            case measure => simp [intOf]; omega
          · clear hd r
            go_wp2
            go_ret
            exact ⟨rfl, HB0.out.trans (HDU.out.bel.mono (by have := HS0.out; omega))⟩
  · have hMc := kmachine_bad x l _ h0 hz
    clear hz hb0 h0 h hs0
    go_enter Tryz.func6, Tryz.ntmps6
    go_wp2_with (refine wpList_load_row (by rfl) 33 (.tmp 1) (by rfl) w.heap.size (by rfl) 33 (csL x l).toArray (0, 0) _ hR0 Tryz.underlying33 (by rfl) (size_case x l) ?_)
    refine hMc.mono ?_; rintro e w1 ⟨rfl, hb1⟩
    have HB1 : Hid _ := below_step HB0.out hb1 rfl
    clear hMc hR0 hb1
    go_wp2
    go_ret
    exact ⟨rfl, HB1.out⟩
end Go.Proofs.YtcmcfafhllpojabGreat
