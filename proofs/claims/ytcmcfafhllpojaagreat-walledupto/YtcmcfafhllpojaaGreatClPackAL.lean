/-
  ThroughK, KaseP
-/
import Derived.Test.YtcmcfafhllpojaaGreatClPackAG
import Derived.Test.YtcmcfafhllpojaaGreatClPackAF
import Derived.Test.YtcmcfafhllpojaaGreatClPackZ
import Derived.Test.YtcmcfafhllpojaaGreatClPackU
namespace Go.Proofs.YtcmcfafhllpojaaGreat
open Go.RowKit

theorem plK (x : Cs) (hz : chk x.c = 0) (T : Nat) : PlOk (cnOf x.c) (Mh.runs (cnOf x.c) T (machK x)).nr := PlOk.runs (N := cnOf x.c) (nm_of hz) (fun _ _ => Or.inl rfl) T

/-- Two cases of one configuration that agree in d: their machines tell the same of it. -/
theorem twinK (x y : Cs) (hz : chk x.c = 0) (hyc : y.c = x.c) (d : Nat) (hd : (d : Int) < x.c.domains) (hA : Agree (datK x) (datK y) d) (T : Nat) (hT : T ≤ 10000) : Twin (cnOf x.c) d (Mh.runs (cnOf x.c) T (machK x)) (Mh.runs (cnOf x.c) T (machK y)) := by
  obtain ⟨yc, yp, yo, ym, yr⟩ := y
  simp only at hyc
  subst hyc
  exact Links.twin (nm_of hz) hA (by have := (nm_of hz).nd; omega) hT (linksK x hz T hT) (linksK ⟨x.c, yp, yo, ym, yr⟩ hz T hT) (plK x hz T) (plK ⟨x.c, yp, yo, ym, yr⟩ hz T)

set_option maxRecDepth 100000 in
set_option maxHeartbeats 6400000 in
theorem kthrough_any (x y : Cs) (l : Cl) (hz : chk x.c = 0) (hyc : y.c = x.c) (d : Nat) (hd : (d : Int) < x.c.domains) (hA : Agree (datK x) (datK y) d) (Xa Xb : XLoc) (w0 w : World) (hCA : CaseAt w0 x l) (hrl : l.rl ≤ 4611686018427387904) (hD : Duo w0 w (cnOf x.c) Xa Xb (machK x) (machK y)) :
    Calls Tryz.prog 15 #[csV x l, .pointer (some ⟨Xa.g, 0, none⟩), .pointer (some ⟨Xb.g, 0, none⟩), .int .i64 d] w fun e w' => e = .returned (.bool true) ∧ Below w0.heap.size w0 w' := by
  have hb0 : Below w.heap.size w (w.alloc (.cells (csA x l) 33)) := (Below.refl _ _).alloc (Nat.le_refl _) _
  have hR0 : Row (w.alloc (.cells (csA x l) 33)) w.heap.size (csL x l) 33 := heap_alloc_new w _
  have HR0 : Hid (Row (w.alloc (.cells (csA x l) 33)) w.heap.size (csL x l) 33) := hR0
  have HD0 : Hid _ := hD.below hb0
  have HNA : Hid (¬ Xa.mine w.heap.size) := fun hm => by have := hD.a.labs.lt _ hm; omega
  have HNB : Hid (¬ Xb.mine w.heap.size) := fun hm => by have := hD.b.labs.lt _ hm; omega
  have R := right_of hz
  have hzy : chk y.c = 0 := by rw [hyc]; exact hz
  have hcn : cnOf y.c = cnOf x.c := by rw [hyc]
  have HC3 : Hid (x.c.cores.toNat ≤ 3) := by unfold Hid; have := R.c2; omega
  have hdn : d < (cnOf x.c).nd := by have := (nm_of hz).nd; omega
  have HTW : Hid (∀ T, T ≤ 10000 → Twin (cnOf x.c) d (Mh.runs (cnOf x.c) T (machK x)) (Mh.runs (cnOf x.c) T (machK y))) := fun T hT => twinK x y hz hyc d hd hA T hT
  have HOK : Hid (∀ T, MhOk (cnOf x.c) (Mh.runs (cnOf x.c) T (machK x)) ∧ MhOk (cnOf x.c) (Mh.runs (cnOf x.c) T (machK y))) := fun T => ⟨(runsK_ok x hz T).1, by have := (runsK_ok y hzy T).1; rw [hcn] at this; exact this⟩
  have HGA : Hid _ := fun X t ht n w => kgoes_any x hz X t ht n w
  have HGB : Hid (∀ (X : XLoc) (t : Nat), t ≤ 10000 → ∀ (n : Int) (w : World), MachM w (cnOf x.c) X (Mh.runs (cnOf x.c) t (machK y)) → Calls Tryz.prog 33 #[.pointer (some ⟨X.g, 0, none⟩), .int .i64 t, .int .i64 n] w fun e w' => ∃ X', e = .returned (.tuple #[.int .i64 (goT t n), .bool true]) ∧ MachM w' (cnOf x.c) X' (Mh.runs (cnOf x.c) (goT t n) (machK y)) ∧ Goes w w' X X') := fun X t ht n w hM => by
    have := kgoes_any y hzy X t ht n w (by rw [hcn]; exact hM)
    rw [hcn] at this
    exact this
  have HZ : Hid _ := hz
  have HDD : Hid _ := hd
  have HCA : Hid _ := hCA
  have HRL : Hid _ := hCA.runs.hlen
  have hrm := hCA.runs.hmax
  have hrle := hCA.runs.hle
  unfold maxLen at hrm
  clear hb0 hR0 hD R hzy hcn hA hyc hz hCA hd
  go_enter Tryz.func15, Tryz.ntmps15
  go_wp2_with fail
  go_loopw [9, 10] (fun v u wr => ∃ (i T : Nat) (Ya Yb : XLoc), i ≤ l.rl + 1 ∧ T ≤ 10000 ∧ u = .int .i64 i ∧ v = .int .i64 T ∧ Ya.g = Xa.g ∧ Yb.g = Xb.g ∧ Duo w0 wr (cnOf x.c) Ya Yb (Mh.runs (cnOf x.c) T (machK x)) (Mh.runs (cnOf x.c) T (machK y)) ∧ Row wr w.heap.size (csL x l) 33 ∧ ¬ Ya.mine w.heap.size ∧ ¬ Yb.mine w.heap.size) (fun _ u _ => l.rl + 1 - (intOf u).toNat)
  case atStart => exact ⟨0, 0, Xa, Xb, by omega, by omega, rfl, rfl, rfl, rfl, HD0.out, HR0.out, HNA.out, HNB.out⟩
  case round =>
    obtain ⟨i, T, Ya, Yb, hi, hT, rfl, rfl, ga, gb, hD, r, na, nb⟩ := hrel
    have y16 : wr.cell? ⟨w.heap.size, 16, none⟩ = some (.slice l.ra l.rl l.rc) := r.cell 16
    have lr := r.lt
    have HD1 : Hid _ := hD
    have HT : Hid _ := hT
    have HGa : Hid _ := ga
    have HGb : Hid _ := gb
    have HNa : Hid _ := na
    have HNb : Hid _ := nb
    by_cases hle : i ≤ l.rl
    · obtain ⟨oka, okb⟩ := HOK.out T
      have hAl := kalike_any (cnOf x.c) l.s Ya Yb _ _ d wr hD.a hD.b oka okb (HTW.out T hT) hdn
      rw [ga, gb] at hAl
      obtain ⟨x0, x1, x2, x3, x4, x5, x6, x7, x8, x9, x10, x11, x12⟩ := cs_cells r
      have HRr : Hid (Row wr w.heap.size (csL x l) 33) := r
      clear hD r ga gb na nb oka okb
      go_wp2_with fail
      refine hAl.mono ?_; rintro e w6 ⟨rfl, hb6⟩
      have D6 := HD1.out.below hb6
      have r6 : Row w6 w.heap.size (csL x l) 33 := Row.below HRr.out hb6 lr
      have hBh := kbeheld_any (cnOf x.c) l.s Ya Yb _ _ d w6 D6.a D6.b (HTW.out T hT)
      rw [HGa.out, HGb.out] at hBh
      clear x0 x1 x2 x3 x4 x5 x6 x7 x8 x9 x10 x11 x12 hAl hb6 y16
      obtain ⟨x0, x1, x2, x3, x4, x5, x6, x7, x8, x9, x10, x11, x12⟩ := cs_cells r6
      have HD6 : Hid _ := D6
      have HR6 : Hid (Row w6 w.heap.size (csL x l) 33) := r6
      have l6 := r6.lt
      clear D6 r6
      go_wp2_with fail
      refine hBh.mono ?_; rintro e w7 ⟨rfl, hb7⟩
      have D7 := HD6.out.below hb7
      have r7 : Row w7 w.heap.size (csL x l) 33 := Row.below HR6.out hb7 l6
      obtain ⟨oka, _⟩ := HOK.out T
      have hTr := wTrace_any (cnOf x.c) Ya _ (d : Int) w7 D7.a oka
      have htl := oka.trl (by show x.c.cores.toNat ≤ 3; exact HC3.out) d
      obtain ⟨t1, t2, t3, t4⟩ := trace_at (w := w7) (N := cnOf x.c) (m := Mh.runs (cnOf x.c) T (machK x)) (d := d) HDD.out htl
      rw [t2, t3, HGa.out] at hTr
      have hes := traceK x HZ.out T HT.out d HDD.out
      obtain ⟨es, hee⟩ : ∃ es, (Mh.runs (cnOf x.c) T (machK x)).tr d = es := ⟨_, rfl⟩
      rw [hee] at t1 hTr htl hes
      obtain ⟨w8, hw8⟩ : ∃ w8, traceW (cnOf x.c) (Mh.runs (cnOf x.c) T (machK x)) (d : Int) w7 = w8 := ⟨_, rfl⟩
      rw [hw8] at t1 t4 hTr
      have D8 := D7.below t4
      have r8 : Row w8 w.heap.size (csL x l) 33 := r7.below t4 r7.lt
      have hGr := kgrown_any x l HZ.out d HDD.out T HT.out es hes _ es.length es.length w8 (HCA.out.below D8.bel (Nat.le_refl _)) t1 (by omega)
      have HD8 : Hid _ := D8
      have hrow := r8
      have l8 := r8.lt
      clear x0 x1 x2 x3 x4 x5 x6 x7 x8 x9 x10 x11 x12 hBh hb7 D7 r7 oka t1 t2 t3 t4 hes hee hw8 D8 r8
      go_wp2_with fail
      refine hTr.mono ?_; rintro e v8 ⟨rfl, rfl⟩
      clear hTr
      go_wp2_with (refine wpList_load_row (by rfl) 33 (.tmp 4) (by rfl) w.heap.size (by rfl) 33 (csL x l).toArray (0, 0) _ hrow Tryz.underlying33 (by rfl) (size_case x l) ?_)
      refine hGr.mono ?_; rintro e w9 ⟨rfl, hb9⟩
      have D9 := HD8.out.below hb9
      have r9 : Row w9 w.heap.size (csL x l) 33 := Row.below hrow hb9 l8
      have HD9 : Hid _ := D9
      have HR9 : Hid (Row w9 w.heap.size (csL x l) 33) := r9
      have l9 := r9.lt
      clear hGr hrow hb9
      by_cases hlt : i < l.rl
      · obtain ⟨b, off, hra, e1⟩ := (HCA.out.below D9.bel (Nat.le_refl _)).runs.hat i hlt
        have y16 : w9.cell? ⟨w.heap.size, 16, none⟩ = some (.slice (some ⟨b, off, none⟩) l.rl l.rc) := by rw [← hra]; exact r9.cell 16
        have lb := cell_lt e1
        obtain ⟨n, hn2⟩ : ∃ n, x.runs.getD i 0 = n := ⟨_, rfl⟩
        rw [hn2] at e1
        have hGo := HGA.out Ya T HT.out n w9 D9.a
        rw [HGa.out] at hGo
        have hT2 := goT_le n hT
        have HRA : Hid (l.ra = some ⟨b, off, none⟩) := hra
        have HE1 : Hid (∀ W, Below w0.heap.size w0 W → W.cell? ⟨b, off + i, none⟩ = some (.int .i64 n)) := fun W hb => by
          obtain ⟨b', off', hra', e'⟩ := (HCA.out.below hb (Nat.le_refl _)).runs.hat i hlt
          rw [HRA.out] at hra'
          simp only [Option.some.injEq, Addr.mk.injEq, and_true] at hra'
          obtain ⟨rfl, rfl⟩ := hra'
          rw [hn2] at e'
          exact e'
        clear hra hn2 D9 r9
        go_wp2_with fail
        refine hGo.mono ?_; rintro e wA ⟨X3, rfl, hM3, hG3⟩
        have DA := HD9.out.left hG3 hM3
        have rA : Row wA w.heap.size (csL x l) 33 := Row.same HR9.out (hG3.tch.block _ l9 HNa.out)
        have naA : ¬ X3.mine w.heap.size := fun hm => HNa.out (hG3.lab _ l9 hm)
        have gA : X3.g = Xa.g := hG3.g.trans HGa.out
        have y16A : wA.cell? ⟨w.heap.size, 16, none⟩ = some (.slice (some ⟨b, off, none⟩) l.rl l.rc) := by rw [← HRA.out]; exact rA.cell 16
        have eA := HE1.out wA DA.bel
        have hGo2 := HGB.out Yb T HT.out n wA DA.b
        rw [HGb.out] at hGo2
        have HDA : Hid _ := DA
        have HRA2 : Hid (Row wA w.heap.size (csL x l) 33) := rA
        have HNAA : Hid _ := naA
        have HgA : Hid _ := gA
        have lA := rA.lt
        have lbA := cell_lt eA
        clear hGo hM3 hG3 y16 e1 DA rA naA gA
        go_wp2_with fail
        refine hGo2.mono ?_; rintro e wB ⟨X4, rfl, hM4, hG4⟩
        obtain ⟨T2, hTe⟩ : ∃ T2, goT T n = T2 := ⟨_, rfl⟩
        rw [hTe] at hM4 hT2 HDA
        rw [hTe]
        have HDB : Hid _ := HDA.out.right hG4 hM4
        have HRB : Hid (Row wB w.heap.size (csL x l) 33) := Row.same HRA2.out (hG4.tch.block _ lA HNb.out)
        have HNBB : Hid (¬ X4.mine w.heap.size) := fun hm => HNb.out (hG4.lab _ lA hm)
        have HgB : Hid (X4.g = Xb.g) := hG4.g.trans HGb.out
        clear hGo2 hM4 hG4 y16A eA hTe
        go_wp2_with fail
        go_roundw
        case rel => exact ⟨i + 1, T2, X3, X4, by omega, hT2.2, by go_num, rfl, HgA.out, HgB.out, HDB.out, HRB.out, HNAA.out, HNBB.out⟩
        case measure => simp [intOf]; omega
      · have y16 : w9.cell? ⟨w.heap.size, 16, none⟩ = some (.slice l.ra l.rl l.rc) := r9.cell 16
        clear D9 r9
        go_wp2_with fail
        go_roundw
        case rel => exact ⟨i + 1, T, Ya, Yb, by omega, HT.out, by go_num, rfl, HGa.out, HGb.out, HD9.out, HR9.out, HNa.out, HNb.out⟩
        case measure => simp [intOf]; omega
    · clear hD r ga gb na nb
      go_wp2
      go_ret
      exact ⟨rfl, HD1.out.bel⟩
end Go.Proofs.YtcmcfafhllpojaaGreat

namespace Go.Proofs.YtcmcfafhllpojaaGreat
open Go.RowKit

set_option maxRecDepth 100000 in
set_option maxHeartbeats 1600000 in
theorem kpick_any (c : Int) (n : Nat) (h0 : 0 < n) (h1 : n ≤ 1000) (hc0 : -9223372036854775808 ≤ c) (hc1 : c ≤ 9223372036854775807) (w : World) :
    Calls Tryz.prog 13 #[.int .i64 c, .int .i64 n] w fun e w' => ∃ k : Nat, k < n ∧ e = .returned (.int .i64 k) ∧ w' = w := by
  have hn0 : ¬ (n : Int) = 0 := by omega
  by_cases b : c < 0
  · obtain ⟨q, hq⟩ := Int.eq_ofNat_of_zero_le (show 0 ≤ -(c + 1) by omega)
    have hm : (-(c + 1)).tmod (n : Int) = ((q % n : Nat) : Int) := by rw [hq]; rfl
    have hlt := Nat.mod_lt q h0
    go_enter Tryz.func13, Tryz.ntmps13
    go_wp2
    go_ret
    exact ⟨q % n, hlt, ret_int (by simp), rfl⟩
  · obtain ⟨q, rfl⟩ := Int.eq_ofNat_of_zero_le (show 0 ≤ c by omega)
    have hlt := Nat.mod_lt q h0
    go_enter Tryz.func13, Tryz.ntmps13
    go_wp2
    go_ret
    exact ⟨q % n, hlt, ret_int (by simp), rfl⟩

end Go.Proofs.YtcmcfafhllpojaaGreat
