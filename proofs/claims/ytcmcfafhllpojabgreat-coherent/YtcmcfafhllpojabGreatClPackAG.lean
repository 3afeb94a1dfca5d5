/-
  Same, Alike, Beheld
-/
import Derived.Test.YtcmcfafhllpojabGreatClPackU
import Derived.Deep.QuietTactic
import Derived.BigQuiet
import Derived.Test.YtcmcfafhllpojabGreatClPackAT
import Derived.Test.YtcmcfafhllpojabGreatClPackAE
import Derived.Test.YtcmcfafhllpojabGreatClPackAD
namespace Go.Proofs.YtcmcfafhllpojabGreat
open Go.RowKit

set_option maxRecDepth 100000 in
set_option maxHeartbeats 1600000 in
theorem ksameEvents_any (sa sb : Option Addr) (len ca cb : Nat) (es : List Ev) (w : World) (ha : EvsAt w sa len ca es) (hb : EvsAt w sb len cb es) (hl : len ≤ 192) :
    Calls Tryz.prog 35 #[.slice sa len ca, .slice sb len cb] w fun e w' => e = .returned (.bool true) ∧ Below w.heap.size w w' := by
  have a1 := ha.hmax
  have a2 := ha.hle
  have b1 := hb.hmax
  have b2 := hb.hle
  unfold maxLen at a1 b1
  have HA : Hid _ := ha
  have HB : Hid _ := hb
  clear ha hb
  go_enter Tryz.func35, Tryz.ntmps35
  go_wp2_with fail
  go_loopw [5] (fun u wr => ∃ (i : Nat), i ≤ len ∧ u = .int .i64 i ∧ Below w.heap.size w wr) (fun u _ => len - (intOf u).toNat)
  case atStart => exact ⟨0, by omega, rfl, Below.refl _ _⟩
  case round =>
    obtain ⟨i, hi, rfl, hbl⟩ := hrel
    have HBL : Hid _ := hbl
    by_cases hlt : i < len
    · obtain ⟨ba, oa, rfl, c0, c1, c2, c3, c4, c5⟩ := (HA.out.below hbl (Nat.le_refl _)).hat i hlt
      obtain ⟨bb, ob, rfl, d0, d1, d2, d3, d4, d5⟩ := (HB.out.below hbl (Nat.le_refl _)).hat i hlt
      have lE := cell_lt c0
      have lF := cell_lt d0
      generalize es.getD i evZ = ev at *
      obtain ⟨e0, e1, e2, e3, e4, e5⟩ := ev
      simp only at c0 c1 c2 c3 c4 c5 d0 d1 d2 d3 d4 d5
      clear hbl
      go_wp2_with fail
      go_quiet (fail)
      go_wp2_with fail
      go_roundw
      case rel => exact ⟨i + 1, by omega, by go_num, HBL.out.trans ⟨rfl, rfl, rfl, Nat.le_refl _, fun _ _ => rfl⟩⟩
      case measure => simp [intOf]; omega
    · clear hbl
      go_wp2
      go_ret
      exact ⟨rfl, HBL.out⟩

/-- A slice value that reads as these blocks. -/
structure BksAt (w : World) (sa : Option Addr) (len cap : Nat) (ln : Nat → Int) (mk : Nat → Bool) : Prop where
  hle : len ≤ cap
  hmax : cap ≤ maxLen
  hat : ∀ i, i < len → ∃ b off, sa = some ⟨b, off, none⟩ ∧ w.cell? ⟨b, off + i * 2, none⟩ = some (.int .i64 (ln i)) ∧ w.cell? ⟨b, off + i * 2 + 1, none⟩ = some (.bool (mk i))
theorem BksAt.below {w w' : World} {sa : Option Addr} {len cap n : Nat} {ln : Nat → Int} {mk : Nat → Bool} (h : BksAt w sa len cap ln mk) (hb : Below n w w') (hn : w.heap.size ≤ n) : BksAt w' sa len cap ln mk :=
  ⟨h.hle, h.hmax, fun i hi => by
    obtain ⟨b, off, h1, h2, h3⟩ := h.hat i hi
    have hl : b < n := Nat.lt_of_lt_of_le (cell_lt h2) hn
    exact ⟨b, off, h1, (hb.cell (p := ⟨b, off + i * 2, none⟩) hl).trans h2, (hb.cell (p := ⟨b, off + i * 2 + 1, none⟩) hl).trans h3⟩⟩

set_option maxRecDepth 100000 in
set_option maxHeartbeats 1600000 in
theorem ksameBlocks_any (sa sb : Option Addr) (len ca cb : Nat) (ln : Nat → Int) (mk : Nat → Bool) (w : World) (ha : BksAt w sa len ca ln mk) (hb : BksAt w sb len cb ln mk) (hl : len ≤ 192) :
    Calls Tryz.prog 36 #[.slice sa len ca, .slice sb len cb] w fun e w' => e = .returned (.bool true) ∧ Below w.heap.size w w' := by
  have a1 := ha.hmax
  have a2 := ha.hle
  have b1 := hb.hmax
  have b2 := hb.hle
  unfold maxLen at a1 b1
  have HA : Hid _ := ha
  have HB : Hid _ := hb
  clear ha hb
  go_enter Tryz.func36, Tryz.ntmps36
  go_wp2_with fail
  go_loopw [5] (fun u wr => ∃ (i : Nat), i ≤ len ∧ u = .int .i64 i ∧ Below w.heap.size w wr) (fun u _ => len - (intOf u).toNat)
  case atStart => exact ⟨0, by omega, rfl, Below.refl _ _⟩
  case round =>
    obtain ⟨i, hi, rfl, hbl⟩ := hrel
    have HBL : Hid _ := hbl
    by_cases hlt : i < len
    · obtain ⟨ba, oa, rfl, c0, c1⟩ := (HA.out.below hbl (Nat.le_refl _)).hat i hlt
      obtain ⟨bb, ob, rfl, d0, d1⟩ := (HB.out.below hbl (Nat.le_refl _)).hat i hlt
      have lE := cell_lt c0
      have lF := cell_lt d0
      generalize ln i = e0 at *
      generalize mk i = e1 at *
      clear hbl
      go_wp2_with fail
      go_quiet (fail)
      go_wp2_with fail
      go_roundw
      case rel => exact ⟨i + 1, by omega, by go_num, HBL.out.trans ⟨rfl, rfl, rfl, Nat.le_refl _, fun _ _ => rfl⟩⟩
      case measure => simp [intOf]; omega
    · clear hbl
      go_wp2
      go_ret
      exact ⟨rfl, HBL.out⟩
end Go.Proofs.YtcmcfafhllpojabGreat

namespace Go.Proofs.YtcmcfafhllpojabGreat
open Go.RowKit

theorem bks_of {w : World} {base n lc wn : Nat} {la : Option Addr} {f : Nat → Nat → Bk} (h : w.ownsRow base 116 2 (.slice la n lc) n (bksL f wn n)) : BksAt w la n lc (fun i => (f (i / wn) (i % wn)).line) (fun i => (f (i / wn) (i % wn)).mkd) := by
  by_cases hn : 0 < n
  · obtain ⟨g, cap, hv, _, _⟩ := World.ownsRow.form h hn
    simp only [Value.slice.injEq] at hv
    obtain ⟨rfl, _, rfl⟩ := hv
    have hc := owns_cells h (fun i => if i % 2 = 0 then .int .i64 (f (i / 2 / wn) (i / 2 % wn)).line else .bool (f (i / 2 / wn) (i / 2 % wn)).mkd) (fun i hi => by
      have hb := bks_at f wn (n := n) (i := i / 2) (by omega)
      by_cases q : i % 2 = 0
      · rw [if_pos q]
        have : i = i / 2 * 2 := by omega
        rw [← hb.1, ← this]
      · rw [if_neg q]
        have : i = i / 2 * 2 + 1 := by omega
        rw [← hb.2, ← this])
    refine ⟨hc.2.1, hc.2.2.1, fun i hi => ⟨g, 0, rfl, ?_, ?_⟩⟩
    · rw [Nat.zero_add, hc.1.cell (by omega), if_pos (by omega), show i * 2 / 2 = i by omega]
    · rw [Nat.zero_add, hc.1.cell (by omega), if_neg (by omega), show (i * 2 + 1) / 2 = i by omega]
  · have e : n = 0 := by omega
    subst e
    rcases h.2 with ⟨hv, _⟩ | ⟨g, cap, cur, hv, _, _, h1, h2, _⟩
    · simp only [Value.slice.injEq] at hv
      exact ⟨by omega, by have := hv.2.2; unfold maxLen; omega, fun i hi => by omega⟩
    · simp only [Value.slice.injEq] at hv
      exact ⟨by have := hv.2.2; omega, by rw [hv.2.2]; exact h2, fun i hi => by omega⟩

theorem BksAt.congr {w : World} {sa : Option Addr} {len cap : Nat} {ln ln' : Nat → Int} {mk mk' : Nat → Bool} (h : BksAt w sa len cap ln mk) (h1 : ∀ i, i < len → ln i = ln' i) (h2 : ∀ i, i < len → mk i = mk' i) : BksAt w sa len cap ln' mk' :=
  ⟨h.hle, h.hmax, fun i hi => by rw [← h1 i hi, ← h2 i hi]; exact h.hat i hi⟩

theorem div_bd {ns wn i : Nat} (h : i < ns * wn) : i / wn < ns ∧ i % wn < wn := by
  have hw : 0 < wn := by
    rcases Nat.eq_zero_or_pos wn with q | q
    · subst q; simp at h
    · exact q
  exact ⟨(Nat.div_lt_iff_lt_mul hw).2 h, Nat.mod_lt _ hw⟩

set_option maxRecDepth 100000 in
set_option maxHeartbeats 6400000 in
theorem kalike_any (N : Cn) (s : Sl) (X X' : XLoc) (m m' : Mh) (d : Nat) (w : World) (h : MachM w N X m) (h' : MachM w N X' m') (ok : MhOk N m) (ok' : MhOk N m') (ht : Twin N d m m') (hd : d < N.nd) :
    Calls Tryz.prog 13 #[cfgV N.c s, .pointer (some ⟨X.g, 0, none⟩), .pointer (some ⟨X'.g, 0, none⟩), .int .i64 d] w fun e w' => e = .returned (.bool true) ∧ Below w.heap.size w w' := by
  obtain ⟨n1, n2, n3, n4, n5, n6, n7, n8, n9, n10, n11, n12, n13, n14, n15⟩ := h.nums
  have hb0 : Below w.heap.size w (w.alloc (.cells (cfgA N.c s) 29)) := (Below.refl _ _).alloc (Nat.le_refl _) _
  have hR0 : Row (w.alloc (.cells (cfgA N.c s) 29)) w.heap.size (cfgL N.c s) 29 := heap_alloc_new w _
  have F := h.far d hd
  have hns0 := F.n0
  have hns1 := F.n1
  have hwn0 := F.w0
  have hwn1 := F.w1
  have hdd : (d : Int) < N.c.domains := by omega
  have HN4 : Hid _ := n4
  have HN6 : Hid _ := n6
  have HN7 : Hid _ := n7
  have hl := ok.trl n8 d
  have h0 := h.below hb0 (Nat.le_refl _)
  have h0' := h'.below hb0 (Nat.le_refl _)
  have HR0 : Hid (Row (w.alloc (.cells (cfgA N.c s) 29)) w.heap.size (cfgL N.c s) 29) := hR0
  have hsz0 : (w.alloc (.cells (cfgA N.c s) 29)).heap.size = w.heap.size + 1 := by simp
  obtain ⟨wA, hwA⟩ : ∃ wA, w.alloc (.cells (cfgA N.c s) 29) = wA := ⟨_, rfl⟩
  rw [hwA] at hb0 h0 h0' HR0 hsz0
  have hTa := wTrace_any N X m (d : Int) wA h0 ok
  obtain ⟨t1, t2, t3, t4⟩ := trace_at (w := wA) (N := N) (m := m) (d := d) hdd hl
  rw [t2, t3] at hTa
  obtain ⟨w1, hw1⟩ : ∃ w1, traceW N m (d : Int) wA = w1 := ⟨_, rfl⟩
  rw [hw1] at t1 t4 hTa
  have h1 := h0.below t4 (Nat.le_refl _)
  have h1' := h0'.below t4 (Nat.le_refl _)
  have hTb := wTrace_any N X' m' (d : Int) w1 h1' ok'
  obtain ⟨s1, s2, s3, s4⟩ := trace_at (w := w1) (N := N) (m := m') (d := d) hdd (by rw [← ht.tr]; exact hl)
  rw [s2, s3] at hTb
  obtain ⟨w2, hw2⟩ : ∃ w2, traceW N m' (d : Int) w1 = w2 := ⟨_, rfl⟩
  rw [hw2] at s1 s4 hTb
  rw [← ht.tr] at s1 hTb
  have E1 := t1.below s4 (Nat.le_refl _)
  have hS := ksameEvents_any _ _ _ _ _ _ w2 E1 s1 hl
  obtain ⟨es, hes⟩ : ∃ es, m.tr d = es := ⟨_, rfl⟩
  rw [hes] at hTa hTb hS
  have B2 : Below w.heap.size w w2 := below_step (below_step hb0 t4 rfl) s4 rfl
  have r2 : Row w2 w.heap.size (cfgL N.c s) 29 := Row.below (Row.below HR0.out t4 (by omega)) s4 (by have := t4.size; omega)
  have HR2 : Hid (Row w2 w.heap.size (cfgL N.c s) 29) := r2
  have HB2 : Hid _ := B2
  have HM2 : Hid _ := h1.below s4 (Nat.le_refl _)
  have HM2' : Hid _ := h1'.below s4 (Nat.le_refl _)
  have HT : Hid _ := ht
  have l2 := r2.lt
  have HWA : Hid _ := hwA
  have hnw : Hid (N.ns ≤ N.ns * N.wn d) := Nat.le_mul_of_pos_right _ hwn0
  have hnw2 : N.ns * N.wn d ≤ 16 := by have := Nat.mul_le_mul hns1 hwn1; omega
  clear hsz0 hb0 hR0 HR0 h0 h0' t1 t2 t3 t4 h1 h1' s1 s2 s3 s4 E1 B2 r2 ht h h' F hw1 hw2 hes hwA ok ok' n1 n2 n3 n4 n5 n6 n7 n12 hdd
  go_enter Tryz.func13, Tryz.ntmps13
  go_wp2_with fail
  rw [HWA.out]
  refine hTa.mono ?_; rintro e w3 ⟨rfl, rfl⟩
  clear hTa
  go_wp2_with fail
  refine hTb.mono ?_; rintro e w3 ⟨rfl, rfl⟩
  clear hTb
  go_wp2_with fail
  refine hS.mono ?_; rintro e w3 ⟨rfl, hb3⟩
  have B3 := below_step HB2.out hb3 rfl
  have r3 : Row w3 w.heap.size (cfgL N.c s) 29 := Row.below HR2.out hb3 l2
  have M3 := HM2.out.below hb3 (Nat.le_refl _)
  have M3' := HM2'.out.below hb3 (Nat.le_refl _)
  have hFa := wFar_good N X m d w3 M3 hd
  have HB3 : Hid _ := B3
  have HR3 : Hid (Row w3 w.heap.size (cfgL N.c s) 29) := r3
  have HM3 : Hid _ := M3
  have HM3' : Hid _ := M3'
  have l3 := r3.lt
  clear hS hb3 B3 r3 M3 M3'
  go_wp2_with fail
  refine hFa.mono ?_; rintro e w4 ⟨la, lc, rfl, own4, hb4⟩
  have hFb := wFar_good N X' m' d w4 (HM3'.out.below hb4 (Nat.le_refl _)) hd
  have HO4 : Hid _ := own4
  have HB4 : Hid _ := hb4
  clear hFa own4 hb4
  go_wp2_with fail
  refine hFb.mono ?_; rintro e w5 ⟨lb, lc', rfl, own5, hb5⟩
  have hb4 := HB4.out
  unfold Hid at hb4
  have M3 := HM3.out
  have M4' := HM3'.out.below hb4 (Nat.le_refl _)
  have r3 : Row w3 w.heap.size (cfgL N.c s) 29 := HR3.out
  have B3 := HB3.out
  have K1 := (bks_of HO4.out).below hb5 (Nat.le_refl _)
  have K2 := (bks_of own5).congr (fun i hi => by obtain ⟨q1, q2⟩ := div_bd hi; exact (HT.out.line _ _ q1 q2).1.symm) (fun i hi => by obtain ⟨q1, q2⟩ := div_bd hi; exact (HT.out.line _ _ q1 q2).2.symm)
  have hS2 := ksameBlocks_any la lb (N.ns * N.wn d) lc lc' _ _ w5 K1 K2 (by omega)
  have hcap := K1.hle
  have hcm := K1.hmax
  unfold maxLen at hcm
  have B5 := below_step (below_step B3 hb4 rfl) hb5 rfl
  have r5 : Row w5 w.heap.size (cfgL N.c s) 29 := Row.below (Row.below r3 hb4 r3.lt) hb5 (by have := r3.lt; have := hb4.size; omega)
  have HM5 : Hid _ := (M3.below hb4 (Nat.le_refl _)).below hb5 (Nat.le_refl _)
  have HM5' : Hid _ := M4'.below hb5 (Nat.le_refl _)
  have HB5 : Hid _ := B5
  have HR5 : Hid (Row w5 w.heap.size (cfgL N.c s) 29) := r5
  have l5 := r5.lt
  have hsets : N.c.sets ≤ ((N.ns * N.wn d : Nat) : Int) := by
    rw [← HN4.out]
    have := hnw.out
    omega
  obtain ⟨L, hL⟩ : ∃ L, N.ns * N.wn d = L := ⟨_, rfl⟩
  rw [hL] at hS2 hsets hnw2 hcap
  rw [hL]
  clear hFb own5 hb4 hb5 K1 K2 B3 r3 M3 M4' B5 r5 hL hnw
  go_wp2_with fail
  refine hS2.mono ?_; rintro e w6 ⟨rfl, hb6⟩
  have r6 : Row w6 w.heap.size (cfgL N.c s) 29 := Row.below HR5.out hb6 l5
  have HB6 : Hid _ := below_step HB5.out hb6 rfl
  have HM6 : Hid _ := HM5.out.below hb6 (Nat.le_refl _)
  have HM6' : Hid _ := HM5'.out.below hb6 (Nat.le_refl _)
  have HR6 : Hid (Row w6 w.heap.size (cfgL N.c s) 29) := r6
  have y6 : w6.cell? ⟨w.heap.size, 6, none⟩ = some (.int .i64 N.c.sets) := r6.cell 6
  have hs4 : N.c.sets ≤ 4 := by rw [← HN4.out]; omega
  have hs0 : 0 < N.c.sets := by rw [← HN4.out]; omega
  have l6 := r6.lt
  clear hS2 hb6 r6
  go_wp2_with fail
  try go_quiet (fail)
  try go_wp2_with fail
  go_loopw [16] (fun u wr => ∃ (i : Nat), i ≤ N.pv + N.sn ∧ u = .int .i64 i ∧ Below w6.heap.size w6 wr) (fun u _ => N.pv + N.sn - (intOf u).toNat)
  case atStart => exact ⟨0, by omega, rfl, by first | exact Below.refl _ _ | exact (Below.refl _ _).trans ⟨rfl, rfl, rfl, Nat.le_refl _, fun _ _ => rfl⟩⟩
  case round =>
    obtain ⟨i, hi, rfl, hb⟩ := hrel
    have r7 : Row wr w.heap.size (cfgL N.c s) 29 := Row.below HR6.out hb l6
    have y3 : wr.cell? ⟨w.heap.size, 3, none⟩ = some (.int .i64 N.pv) := by rw [HN6.out]; exact r7.cell 3
    have y4 : wr.cell? ⟨w.heap.size, 4, none⟩ = some (.int .i64 N.sn) := by rw [HN7.out]; exact r7.cell 4
    have HB7 : Hid _ := hb
    by_cases hlt : i < N.pv + N.sn
    · have hMa := wMemory_good N X m d i wr (HM6.out.below hb (Nat.le_refl _)) hd hlt
      have hMb := fun w8 (hb8 : Below wr.heap.size wr w8) => wMemory_good N X' m' d i w8 ((HM6'.out.below hb (Nat.le_refl _)).below hb8 (Nat.le_refl _)) hd hlt
      rw [← HT.out.mem i hlt] at hMb
      obtain ⟨v, hv⟩ : ∃ v, wordM N.pv N.sn (m.own d) m.sh i = v := ⟨_, rfl⟩
      rw [hv] at hMa hMb
      have HMB : Hid _ := hMb
      clear hb r7 hv hMb
      go_wp2_with fail
      refine hMa.mono ?_; rintro e w8 ⟨rfl, hb8⟩
      have hMb := HMB.out w8 hb8
      clear hMa
      go_wp2_with fail
      refine hMb.mono ?_; rintro e w9 ⟨rfl, hb9⟩
      have HB9 : Hid _ := below_step (below_step HB7.out hb8 rfl) hb9 rfl
      clear hMb hb8 hb9
      go_wp2_with fail
      go_roundw
      case rel => exact ⟨i + 1, by omega, by go_num, HB9.out⟩
      case measure => simp [intOf]; omega
    · clear hb r7
      go_wp2
      go_ret
      exact ⟨rfl, below_step HB6.out HB7.out rfl⟩
end Go.Proofs.YtcmcfafhllpojabGreat

namespace Go.Proofs.YtcmcfafhllpojabGreat
open Go.RowKit

theorem row_of {w : World} {A : List Value} {t : TypeId} : Row (w.alloc (.cells A.toArray t)) w.heap.size A t := heap_alloc_new w _

/-- The cells of a place. -/
theorem cps_row {w : World} {g n p : Nat} {f : Nat → Cp} (h : Row w g (cpsL f n) 90) (hp : p < n) : w.cell? ⟨g, p * 3, none⟩ = some (.int .i64 (f p).dom) ∧ w.cell? ⟨g, p * 3 + 1, none⟩ = some (.int .i64 (f p).line) ∧ w.cell? ⟨g, p * 3 + 2, none⟩ = some (.int .i64 (f p).st) :=
  ⟨(h.cell (p * 3)).trans (cps_at f (j := 0) hp (by omega)), (h.cell (p * 3 + 1)).trans (cps_at f (j := 1) hp (by omega)), (h.cell (p * 3 + 2)).trans (cps_at f (j := 2) hp (by omega))⟩

set_option maxRecDepth 100000 in
set_option maxHeartbeats 6400000 in
theorem kbeheld_any (N : Cn) (s : Sl) (X X' : XLoc) (m m' : Mh) (d : Nat) (w : World) (h : MachM w N X m) (h' : MachM w N X' m') (ht : Twin N d m m') :
    Calls Tryz.prog 14 #[cfgV N.c s, .pointer (some ⟨X.g, 0, none⟩), .pointer (some ⟨X'.g, 0, none⟩), .int .i64 d] w fun e w' => e = .returned (.bool true) ∧ Below w.heap.size w w' := by
  obtain ⟨n1, n2, n3, n4, n5, n6, n7, n8, n9, n10, n11, n12, n13, n14, n15⟩ := h.nums
  have hb0 : Below w.heap.size w (w.alloc (.cells (cfgA N.c s) 29)) := (Below.refl _ _).alloc (Nat.le_refl _) _
  have hR0 : Row (w.alloc (.cells (cfgA N.c s) 29)) w.heap.size (cfgL N.c s) 29 := heap_alloc_new w _
  have hnn := h.near.n1
  have HM : Hid _ := h
  have HM' : Hid _ := h'
  have HB0 : Hid _ := hb0
  have HR0 : Hid (Row (w.alloc (.cells (cfgA N.c s) 29)) w.heap.size (cfgL N.c s) 29) := hR0
  have HT : Hid _ := ht
  have HN1 : Hid _ := n1
  have HN3 : Hid _ := n3
  clear h h' hb0 hR0 ht n1 n2 n3 n4 n5 n6 n7
  go_enter Tryz.func14, Tryz.ntmps14
  go_wp2_with fail
  go_loopw [9] (fun u wr => ∃ (K : Nat), K ≤ N.nc ∧ u = .int .i64 K ∧ Row wr w.heap.size (cfgL N.c s) 29 ∧ Below w.heap.size w wr) (fun u _ => N.nc - (intOf u).toNat)
  case atStart => exact ⟨0, by omega, rfl, HR0.out, HB0.out⟩
  case round =>
    obtain ⟨K, hK, rfl, r, hb⟩ := hrel
    have y0 : wr.cell? ⟨w.heap.size, 0, none⟩ = some (.int .i64 N.nc) := by rw [HN1.out]; exact r.cell 0
    have lr := r.lt
    have HB : Hid _ := hb
    by_cases hlt : K < N.nc
    · have hNa := wNear_good N X m K wr (HM.out.below hb (Nat.le_refl _)) hlt
      have r1 : Row (wr.alloc (.cells (cpsL (m.nr K) N.nn).toArray 90)) wr.heap.size (cpsL (m.nr K) N.nn) 90 := row_of
      have b1 : Below wr.heap.size wr (wr.alloc (.cells (cpsL (m.nr K) N.nn).toArray 90)) := (Below.refl _ _).alloc (Nat.le_refl _) _
      have e1 : (wr.alloc (.cells (cpsL (m.nr K) N.nn).toArray 90)).heap.size = wr.heap.size + 1 := by simp
      obtain ⟨w1, hw1⟩ : ∃ w1, wr.alloc (.cells (cpsL (m.nr K) N.nn).toArray 90) = w1 := ⟨_, rfl⟩
      rw [hw1] at hNa r1 b1 e1
      have hNb := wNear_good N X' m' K w1 ((HM'.out.below hb (Nat.le_refl _)).below b1 (Nat.le_refl _)) hlt
      have r2 : Row (w1.alloc (.cells (cpsL (m'.nr K) N.nn).toArray 90)) w1.heap.size (cpsL (m'.nr K) N.nn) 90 := row_of
      have b2 : Below w1.heap.size w1 (w1.alloc (.cells (cpsL (m'.nr K) N.nn).toArray 90)) := (Below.refl _ _).alloc (Nat.le_refl _) _
      obtain ⟨w2, hw2⟩ : ∃ w2, w1.alloc (.cells (cpsL (m'.nr K) N.nn).toArray 90) = w2 := ⟨_, rfl⟩
      rw [hw2] at hNb r2 b2
      have q2 : Row w2 wr.heap.size (cpsL (m.nr K) N.nn) 90 := r1.below b2 r1.lt
      have c2 : Row w2 w.heap.size (cfgL N.c s) 29 := (r.below b1 lr).below b2 (by omega)
      have HB2 : Hid (Below w.heap.size w w2) := below_step (below_step hb b1 rfl) b2 rfl
      have HQ2 : Hid (Row w2 wr.heap.size (cpsL (m.nr K) N.nn) 90) := q2
      have HR2 : Hid (Row w2 w1.heap.size (cpsL (m'.nr K) N.nn) 90) := r2
      have HC2 : Hid (Row w2 w.heap.size (cfgL N.c s) 29) := c2
      have y5 : w2.cell? ⟨w.heap.size, 5, none⟩ = some (.int .i64 N.nn) := by rw [HN3.out]; exact c2.cell 5
      have l2 := c2.lt
      have lq := q2.lt
      have lr2 := r2.lt
      have HTN : Hid (∀ p, p < N.nn → ((m.nr K p).dom = d ∨ (m'.nr K p).dom = d) → m.nr K p = m'.nr K p) := fun p hp => HT.out.near K p hlt hp
      clear r hb r1 b1 r2 b2 hw1 hw2 q2 c2 e1
      go_wp2_with fail
      refine hNa.mono ?_; rintro e v1 ⟨rfl, rfl⟩
      clear hNa y0
      go_wp2_with fail
      refine hNb.mono ?_; rintro e v2 ⟨rfl, rfl⟩
      clear hNb
      go_wp2_with fail
      try go_quiet (fail)
      try go_wp2_with fail
      go_loopw [14] (fun u wx => ∃ (p : Nat), p ≤ N.nn ∧ u = .int .i64 p ∧ Below v2.heap.size v2 wx) (fun u _ => N.nn - (intOf u).toNat)
      case atStart => exact ⟨0, by omega, rfl, by first | exact Below.refl _ _ | exact (Below.refl _ _).trans ⟨rfl, rfl, rfl, Nat.le_refl _, fun _ _ => rfl⟩⟩
      case round =>
        obtain ⟨p, hp, rfl, hb⟩ := hrel
        have c3 : Row wr w.heap.size (cfgL N.c s) 29 := Row.below HC2.out hb l2
        have y5 : wr.cell? ⟨w.heap.size, 5, none⟩ = some (.int .i64 N.nn) := by rw [HN3.out]; exact c3.cell 5
        have HB3 : Hid _ := hb
        by_cases hlp : p < N.nn
        · have q3 : Row wr _ (cpsL (m.nr K) N.nn) 90 := Row.below HQ2.out hb lq
          have r3 : Row wr _ (cpsL (m'.nr K) N.nn) 90 := Row.below HR2.out hb lr2
          obtain ⟨a0, a1, a2⟩ := cps_row q3 hlp
          obtain ⟨b0, b1, b2⟩ := cps_row r3 hlp
          have tn := HTN.out p hlp
          have lq3 := q3.lt
          have lr3 := r3.lt
          generalize m.nr K p = A at *
          generalize m'.nr K p = B at *
          obtain ⟨A0, A1, A2⟩ := A
          obtain ⟨B0, B1, B2⟩ := B
          simp only at a0 a1 a2 b0 b1 b2 tn
          clear hb c3 q3 r3
          by_cases g : A0 = d ∨ B0 = d
          · have e := tn g
            simp only [Cp.mk.injEq] at e
            obtain ⟨rfl, rfl, rfl⟩ := e
            have g' : A0 = d := by rcases g with g | g <;> exact g
            subst g'
            clear tn g
            go_wp2_with fail
            try go_quiet (fail)
            try go_wp2_with fail
            go_roundw
            case rel => exact ⟨p + 1, by omega, by go_num, by first | exact HB3.out | exact HB3.out.trans ⟨rfl, rfl, rfl, Nat.le_refl _, fun _ _ => rfl⟩⟩
            case measure => simp [intOf]; omega
          · have g1 : (A0 == (d : Int)) = false := by simp; omega
            have g2 : (B0 == (d : Int)) = false := by simp; omega
            clear tn g
            go_wp2_with fail
            try go_quiet (fail)
            try go_wp2_with fail
            go_roundw
            case rel => exact ⟨p + 1, by omega, by go_num, by first | exact HB3.out | exact HB3.out.trans ⟨rfl, rfl, rfl, Nat.le_refl _, fun _ _ => rfl⟩⟩
            case measure => simp [intOf]; omega
        · have HC3 : Hid (Row wr w.heap.size (cfgL N.c s) 29) := c3
          have HB4 : Hid _ := below_step HB2.out hb rfl
          clear hb c3
          go_wp2_with fail
          go_roundw
          case rel => exact ⟨K + 1, by omega, by go_num, HC3.out, HB4.out⟩
          case measure => simp [intOf]; omega
    · clear r hb
      go_wp2
      go_ret
      exact ⟨rfl, HB.out⟩
end Go.Proofs.YtcmcfafhllpojabGreat
