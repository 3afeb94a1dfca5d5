/-
  The walk of wallslaw's plays, over whatever each step keeps.
-/
import Derived.Test.YtcmcfafhllpojaaGreatStep2
namespace Go.Proofs.YtcmcfafhllpojaaGreat
open Go.RowKit

/-- A script. -/
structure ScAt (w : World) (sa : Option Addr) (sl sc : Nat) (sts : Nat → St) : Prop where
  hle : sl ≤ sc
  hmax : sc * 40 ≤ 140737488351232
  hat : ∀ j, j < sl → ∃ b off, sa = some ⟨b, off, none⟩ ∧ (∀ i, i < 5 → w.cell? ⟨b, off + j * 5 + i, none⟩ = (opA (sts j))[i]?) ∧ StR (sts j)

theorem ScAt.below {w w' : World} {ca : Option Addr} {cl cc n : Nat} {cfs : Nat → St} (h : ScAt w ca cl cc cfs) (hb : Below n w w') (hn : w.heap.size ≤ n) : ScAt w' ca cl cc cfs := by
  refine ⟨h.hle, h.hmax, fun j hj => ?_⟩
  obtain ⟨b, off, h1, h2, h3⟩ := h.hat j hj
  refine ⟨b, off, h1, fun i hi => ?_, h3⟩
  rw [← h2 i hi]
  have e := h2 0 (by omega)
  have := cell_lt (w := w) (a := ⟨b, off + j * 5 + 0, none⟩) (v := .int .i64 (cfs j).k) (by rw [e]; rfl)
  exact hb.cell (p := ⟨b, off + j * 5 + i, none⟩) (by simp only [] at this ⊢; omega)

set_option maxRecDepth 100000 in
set_option maxHeartbeats 3200000 in
theorem plays_any (w : World) (ca : Option Addr) (cl cc : Nat) (sa : Option Addr) (sl sc : Nat) (sts : Nat → St) (pa : Option Addr) (pl pc : Nat) (ps : List Int) (ha : Option Addr) (hl hc : Nat) (hs : List Int)
    (h1 : ScAt w sa sl sc sts) (h2 : Ints w pa pl pc ps) (h3 : Ints w ha hl hc hs) (I : Nat → World → Prop)
    (i0 : I 0 (w.alloc (.cells #[.slice ca cl cc, .slice none 0 0, .slice none 0 0, .slice none 0 0, .slice none 0 0, .slice none 0 0, .slice none 0 0] 59)))
    (ib : ∀ i wr, I i wr → Below w.heap.size w wr) (ik : ∀ i wr w', I i wr → Below wr.heap.size wr w' → I i w') (is : ∀ i wr, I i wr → I (i + 1) wr)
    (hstep : ∀ i wr, i < sl → ((sts i).k < 5 ∨ ps.contains (sts i).k = true) → I i wr → Calls Tryz.prog 23 #[.pointer (some ⟨w.heap.size, 0, none⟩), opV (sts i)] wr fun x w' => x = .returned (.bool true) ∧ I (i + 1) w' ∧ KeepO wr w')
    (hlooks : ∀ i wr, I i wr → Calls Tryz.prog 24 #[.pointer (some ⟨w.heap.size, 0, none⟩)] wr fun x w' => x = .returned (.bool true) ∧ I i w' ∧ KeepO wr w') :
    Calls Tryz.prog 11 #[.slice ca cl cc, .slice sa sl sc, .slice pa pl pc, .slice ha hl hc] w fun x w' => x = .returned (.bool true) ∧ Below w.heap.size w w' := by
  have hsl := h1.hle
  have hsm := h1.hmax
  have IB : Hid _ := ib
  have IK : Hid _ := ik
  have IS : Hid _ := is
  have HS : Hid _ := hstep
  have HL : Hid _ := hlooks
  have I0 : Hid _ := i0
  clear ib ik is hstep hlooks i0
  go_enter Tryz.func11, Tryz.ntmps11
  go_wp2
  go_loopw [10] (fun i wr => ∃ k : Nat, k ≤ sl ∧ i = .int .i64 k ∧ I k wr) (fun i _ => sl - (intOf i).toNat)
  case atStart => exact ⟨0, by omega, rfl, I0.out⟩
  case round =>
    obtain ⟨k, hk, rfl, hI⟩ := hrel
    have HI : Hid _ := hI
    clear hI
    have bw := IB.out k wr HI.out
    by_cases hlt : k < sl
    · obtain ⟨sb, soff, rfl, hcells, hstr⟩ := h1.hat k hlt
      have e0 := (h1.below bw (Nat.le_refl _)).hat k hlt
      obtain ⟨b', off', hb', hcells', _⟩ := e0
      simp only [Option.some.injEq, Addr.mk.injEq, and_true] at hb'
      obtain ⟨rfl, rfl⟩ := hb'
      have e0 := hcells' 0 (by omega)
      have e1 := hcells' 1 (by omega)
      have e2 := hcells' 2 (by omega)
      have e3 := hcells' 3 (by omega)
      have e4 := hcells' 4 (by omega)
      simp only [opA, Nat.add_zero] at e0 e1 e2 e3 e4
      clear hcells hcells'
      have HSk := HS.out k
      have HSK : Hid _ := HSk
      clear HSk
      have hk60 : (k : Int) < 1152921504606846976 := by omega
      generalize sts k = st at *
      go_wp2_with fail
      have bX : Below wr.heap.size wr (wr.alloc (.cells (opA st) 61)) := (Below.refl _ _).alloc (Nat.le_refl _) _
      have rO : Row (wr.alloc (.cells (opA st) 61)) wr.heap.size [.int .i64 st.k, .int .i64 st.a, .int .i64 st.b, .int .i64 st.c, .int .i64 st.d] 61 := heap_alloc_new wr _
      have IX := IK.out k wr _ HI.out bX
      have bW := below_step bw bX rfl
      clear e0 e1 e2 e3 e4 HI bX bw
      generalize wr.alloc (.cells (opA st) 61) = W at *
      have HX : Hid _ := IX
      clear IX
      have q1 := row_q rO
      refine (among_any _ _ _ ps _ _ (h2.below bW (Nat.le_refl _))).mono ?_
      rintro x w' ⟨rfl, rfl⟩
      by_cases hk5 : 5 ≤ st.k
      · rcases Bool.eq_false_or_eq_true (ps.contains st.k) with hp | hp
        · rw [hp]
          have HP : Hid _ := hp
          clear hp
          go_wp2_with fail
          refine (HSK.out _ hlt (Or.inr HP.out) HX.out).mono ?_
          rintro x w2 ⟨rfl, i2, k2⟩
          have I2 : Hid _ := i2
          have q2 := row_q (k2 _ _ rO)
          have rO2 := k2 _ _ rO
          have b2 := IB.out _ _ i2
          clear i2 k2 q1
          go_wp2_with fail
          refine (among_any _ _ _ hs _ _ (h3.below b2 (Nat.le_refl _))).mono ?_
          rintro x w' ⟨rfl, rfl⟩
          generalize hs.contains st.k = held
          go_wp2_with fail
          refine (HL.out _ _ I2.out).mono ?_
          rintro x w3 ⟨rfl, i3, k3⟩
          have I3 : Hid _ := i3
          clear i3 k3 q2
          go_wp2
          go_roundw
          case rel => exact ⟨k + 1, by omega, by go_num, I3.out⟩
          case measure => simp [intOf]; omega
        · rw [hp]
          have HP : Hid _ := hp
          clear hp
          go_wp2
          go_roundw
          case rel => exact ⟨k + 1, by omega, by go_num, IS.out _ _ HX.out⟩
          case measure => simp [intOf]; omega
      · generalize ps.contains st.k = hp at *
        have hk5' : st.k < 5 := by omega
        have hd : decide (5 ≤ st.k) = false := by simp; omega
        clear hk5
        go_wp2_with fail
        refine (HSK.out _ hlt (Or.inl (by omega)) HX.out).mono ?_
        rintro x w2 ⟨rfl, i2, k2⟩
        have I2 : Hid _ := i2
        have q2 := row_q (k2 _ _ rO)
        have b2 := IB.out _ _ i2
        clear i2 k2 q1
        go_wp2_with fail
        refine (among_any _ _ _ hs _ _ (h3.below b2 (Nat.le_refl _))).mono ?_
        rintro x w' ⟨rfl, rfl⟩
        generalize hs.contains st.k = held
        go_wp2_with fail
        refine (HL.out _ _ I2.out).mono ?_
        rintro x w3 ⟨rfl, i3, k3⟩
        have I3 : Hid _ := i3
        clear i3 k3 q2
        go_wp2
        go_roundw
        case rel => exact ⟨k + 1, by omega, by go_num, I3.out⟩
        case measure => simp [intOf]; omega
    · go_wp2
      go_ret
      exact ⟨rfl, bw⟩
end Go.Proofs.YtcmcfafhllpojaaGreat
