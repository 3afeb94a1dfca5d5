/-
  A case of wallskeep: farRight.
-/
import Derived.Test.YtcmcfafhllpojabGreatClPackAR
namespace Go.Proofs.YtcmcfafhllpojabGreat
open Go.RowKit

set_option maxRecDepth 100000 in
set_option maxHeartbeats 6400000 in
theorem kfarRight_any (x : Cs) (l : Cl) (hz : chk x.c = 0) (gS nc nn nd : Nat) (nr : Nat → Nat → Cp) (len : Nat → Nat) (ln : Nat → Nat → Int) (mk : Nat → Nat → Bool) (d ns wn : Nat) (w : World) (h : SightM w gS nc nn nd nr len ln mk) (hd : d < nd) (hns : (ns : Int) = x.c.sets) (hlen : len d = ns * wn) (hl : len d ≤ 192) (hw0 : 0 < wn)
    (hr : ∀ i, i < len d → BlockR x.c wn i (ln d) (mk d)) :
    Calls Tryz.prog 28 #[csV x l, .pointer (some ⟨gS, 0, none⟩), .int .i64 d] w fun e w' => e = .returned (.bool true) ∧ Below w.heap.size w w' := by
  have hb0 : Below w.heap.size w (w.alloc (.cells (csA x l) 33)) := (Below.refl _ _).alloc (Nat.le_refl _) _
  have hR0 : Row (w.alloc (.cells (csA x l) 33)) w.heap.size (csL x l) 33 := heap_alloc_new w _
  have h0 := h.below hb0 (Nat.le_refl _)
  have hsz : (w.alloc (.cells (csA x l) 33)).heap.size = w.heap.size + 1 := by simp
  obtain ⟨W, hW⟩ : ∃ W, w.alloc (.cells (csA x l) 33) = W := ⟨_, rfl⟩
  rw [hW] at hb0 hR0 h0 hsz
  have HW : Hid _ := hW
  have HSZ : Hid _ := hsz
  obtain ⟨gn, ca, gf, cb, b1, _, b3, _, _, n3, n4⟩ := h0.box
  obtain ⟨fa, fc, e1, e2⟩ := b3 d hd
  have c1 : W.cell? ⟨gS, 1, none⟩ = some (.slice (some ⟨gf, 0, none⟩) nd cb) := b1.cell 1
  have hle := e2.hle
  have hmx := e2.hmax
  unfold maxLen at hmx n4
  have l1 := b1.lt
  have l2 := cell_lt e1
  have hdiv : ((len d : Int)) / x.c.sets = wn := by
    rw [← hns, hlen, Int.natCast_mul]
    have : (ns : Int) ≠ 0 := by have := shape_bounds (chk_zero hz).1; omega
    exact Int.mul_ediv_cancel_left _ this
  obtain ⟨n, hn⟩ : ∃ n, len d = n := ⟨_, rfl⟩
  rw [hn] at e1 e2 hle hl hr hdiv hlen
  have hwn : wn ≤ n := by rw [hlen]; have : 0 < ns := by have := shape_bounds (chk_zero hz).1; omega
                          exact Nat.le_mul_of_pos_left _ this
  have sb := shape_bounds (chk_zero hz).1
  have hs0 : 0 < x.c.sets := by omega
  have hs4 : x.c.sets ≤ 4 := by omega
  have hl0 : 0 < x.c.line := by omega
  have hN := nm_of hz
  have hds : (x.c.priv + x.c.shared) % x.c.line = 0 := by
    obtain ⟨q, hq⟩ := hN.ds
    have e1 := hN.pv
    have e2 := hN.sn
    have e3 := hN.ln
    rw [← e1, ← e2, ← e3, ← Int.natCast_add, hq, Int.natCast_mul]
    exact Int.mul_emod_left _ _
  have hdv : (x.c.priv + x.c.shared) / x.c.line ≤ x.c.priv + x.c.shared := Int.ediv_le_self _ (by omega)
  have hps : x.c.priv + x.c.shared ≤ 96 := by omega
  have HE : Hid _ := e2
  have HR : Hid _ := hr
  have HZ : Hid _ := hz
  have HDS : Hid _ := hds
  have HDIV : Hid _ := hdiv
  have hLi := klines_any x l hz W
  obtain ⟨LN, hLN⟩ : ∃ LN, (x.c.priv + x.c.shared) / x.c.line = LN := ⟨_, rfl⟩
  have HLN : Hid _ := hLN
  rw [hLN] at hLi hdv
  have HB0 : Hid _ := hb0
  have HR0 : Hid (Row W w.heap.size (csL x l) 33) := hR0
  have hrow := hR0
  clear h h0 b1 b3 e2 hr hz hds hdiv sb hN hLN hb0 hR0 hW hsz hns hlen
  go_enter Tryz.func28, Tryz.ntmps28
  go_wp2_with (first | (rw [HW.out]) | (refine wpList_load_row (by rfl) 33 (.tmp 3) (by rfl) w.heap.size (by rfl) 33 (csL x l).toArray (0, 0) _ hrow Tryz.underlying33 (by rfl) (size_case x l) ?_))
  refine hLi.mono ?_; rintro e w1 ⟨rfl, hb1⟩
  have B1 : Below w.heap.size w w1 := below_step HB0.out hb1 rfl
  have R1 : Row w1 w.heap.size (csL x l) 33 := Row.below HR0.out hb1 (by have := HSZ.out; omega)
  have HE1 : Hid _ := HE.out.below hb1 (Nat.le_refl _)
  have x6 : w1.cell? ⟨w.heap.size, 6, none⟩ = some (.int .i64 x.c.sets) := R1.cell 6
  have wq : IntKind.i64.wrap ((n : Int) / x.c.sets) = (wn : Int) := by rw [HDIV.out, IntKind.wrap_i64]; omega
  have lr1 := R1.lt
  have HB1 : Hid _ := B1
  have HR1 : Hid (Row w1 w.heap.size (csL x l) 33) := R1
  have hS1 : w.heap.size ≤ w1.heap.size := B1.size
  clear hLi hb1 hrow e1 c1 R1
  go_wp2_with fail
  go_loopw [10] (fun u wr => ∃ (I : Nat), I ≤ n ∧ u = .int .i64 I ∧ Row wr w.heap.size (csL x l) 33 ∧ Below w1.heap.size w1 wr) (fun u _ => n - (intOf u).toNat)
  case atStart => exact ⟨0, by omega, rfl, HR1.out, Below.refl _ _⟩
  case round =>
    obtain ⟨I, hI, rfl, r, hb⟩ := hrel
    have lr := r.lt
    have HRI : Hid (Row wr w.heap.size (csL x l) 33) := r
    have HBI : Hid _ := hb
    have x6 : wr.cell? ⟨w.heap.size, 6, none⟩ = some (.int .i64 x.c.sets) := r.cell 6
    by_cases hlt : I < n
    · obtain ⟨b, off, rfl, a1, a2⟩ := (HE1.out.below hb (Nat.le_refl _)).hat I hlt
      have lb := cell_lt a1
      clear r hb
      rcases HR.out I hlt with ⟨h1, h2⟩ | ⟨y, hy, hy1, hy2, hy3, hy4⟩
      · rw [h1] at a1
        rw [h2] at a2
        clear h1 h2
        go_wp2_with fail
        go_roundw
        case rel => exact ⟨I + 1, by omega, by go_num, HRI.out, HBI.out⟩
        case measure => simp [intOf]; omega
      · rw [hy] at a1
        have hyn : (y : Int) < LN := by rw [← HLN.out]; exact line_lt hl0 hy2 HDS.out
        have hym : ((y : Int) == -1) = false := by simp
        have hqe := Int.natCast_ediv I wn
        have hql := Nat.div_le_self I wn
        obtain ⟨qi, hqi⟩ : ∃ qi, I / wn = qi := ⟨_, rfl⟩
        rw [hqi] at hqe hql hy1
        have hsz : ¬ x.c.sets = 0 := by omega
        have hwz0 : ¬ (wn : Int) = 0 := by omega
        have hwzN : ¬ wn = 0 := by omega
        have w6 : IntKind.i64.wrap ((y : Int) % x.c.sets) = (qi : Int) := by rw [hy1, IntKind.wrap_i64]; omega
        have w7 : IntKind.i64.wrap ((I : Int) / (wn : Int)) = (qi : Int) := by rw [← hqe, IntKind.wrap_i64]; omega
        have hmd : (y : Int) % x.c.sets = (qi : Int) := hy1
        have htq : (y : Int).tmod x.c.sets = (qi : Int) := by rw [Int.tmod_eq_emod_of_nonneg (by omega)]; exact hy1
        have hwqi : IntKind.i64.wrap (qi : Int) = (qi : Int) := by rw [IntKind.wrap_i64]; omega
        have hdq : (I : Int) / (wn : Int) = (qi : Int) := hqe.symm
        clear hqe hqi
        have hwz : 0 < (wn : Int) := by omega
        have hy1000 : y ≤ 1000 := by omega
        have hyn0 : ¬ (y : Int) < 0 := by omega
        have hynL : ¬ LN ≤ (y : Int) := by omega
        have HY4 : Hid _ := hy4
        have HY0 : Hid _ := hy
        have HA2 : Hid _ := a2
        have HA1 : Hid _ := a1
        have hsh : mk d I = true → decide (x.c.priv ≤ (y : Int) * x.c.line) = false := fun q => by
          have := hy3 q
          exact decide_eq_false (by omega)
        have HSH : Hid _ := hsh
        clear hy hy1 hy2 hy3 hy4 a2 hsh
        go_wp2_with fail
        go_quiet (fail)
        have hrow : Row (wr.drewN nq) w.heap.size (csL x l) 33 := HRI.out
        have a1q : (wr.drewN nq).cell? ⟨b, off + I * 2, none⟩ = some (.int .i64 y) := a1
        have HCM : Hid (∀ W : World, Calls Tryz.prog 61 #[csV x l, .int .i64 y] W fun e w' => e = .returned (.bool (decide (x.c.priv ≤ (y : Int) * x.c.line))) ∧ Below W.heap.size W w') := fun W => kcommon_any x l HZ.out y hy1000 W
        have HBQ : Hid (Below w1.heap.size w1 (wr.drewN nq)) := HBI.out.trans ⟨rfl, rfl, rfl, Nat.le_refl _, fun _ _ => rfl⟩
        have HA2' : Hid ((wr.drewN nq).cell? ⟨b, off + I * 2 + 1, none⟩ = some (.bool (mk d I))) := HA2.out
        have HRQ : Hid (Row (wr.drewN nq) w.heap.size (csL x l) 33) := HRI.out
        have lbq : b < (wr.drewN nq).heap.size := lb
        have lrq : w.heap.size < (wr.drewN nq).heap.size := lr
        generalize wr.drewN nq = wq at *
        obtain ⟨z0, z1, z2, z3, z4, z5, z6, z7, z8, z9, z10, z11, z12⟩ := cs_cells hrow
        have z13 : wq.cell? ⟨w.heap.size, 13, none⟩ = some (.slice l.pa l.pl l.pc) := hrow.cell 13
        have z14 : wq.cell? ⟨w.heap.size, 14, none⟩ = some (.slice l.oa l.ol l.oc) := hrow.cell 14
        have z15 : wq.cell? ⟨w.heap.size, 15, none⟩ = some (.slice l.ma l.ml l.mc) := hrow.cell 15
        have z16 : wq.cell? ⟨w.heap.size, 16, none⟩ = some (.slice l.ra l.rl l.rc) := hrow.cell 16
        go_wp2_with fail
        go_region_with (go_at_call 61; refine (HCM.out _).mono ?_; rintro e w2 ⟨rfl, hb2d⟩)
        all_goals
          have hb2 : Below wq.heap.size wq w2 := below_step ((Below.refl _ _).drew) hb2d rfl
          have HB2 : Hid (Below w1.heap.size w1 w2) := below_step HBQ.out hb2 rfl
          have HR2 : Hid (Row w2 w.heap.size (csL x l) 33) := Row.below HRQ.out hb2 lrq
          have c2 : w2.cell? ⟨b, off + I * 2 + 1, none⟩ = some (.bool (mk d I)) := (hb2.cell (p := ⟨b, off + I * 2 + 1, none⟩) lbq).trans HA2'.out
          have lb2 : b < w2.heap.size := Nat.lt_of_lt_of_le lbq hb2.size
          have hsh := HSH.out
          clear hrow hb2 hb2d a1 a1q x6 z0 z1 z2 z3 z4 z5 z6 z7 z8 z9 z10 z11 z12 z13 z14 z15 z16
          generalize decide (x.c.priv ≤ (y : Int) * x.c.line) = B at *
          have hno : B = false ∨ (B = true ∧ mk d I = false) := by
            cases hB : B
            · exact Or.inl rfl
            · refine Or.inr ⟨rfl, ?_⟩
              cases hm : mk d I
              · rfl
              · have := hsh hm; rw [hB] at this; cases this
          clear hsh
          rcases hno with rfl | ⟨rfl, hmf⟩
          all_goals
            try rw [hmf] at c2
            go_wp2_with fail
            go_loopw [12] (fun u wz => ∃ (J : Nat), J ≤ I ∧ u = .int .i64 J ∧ Row wz w.heap.size (csL x l) 33 ∧ Below w1.heap.size w1 wz) (fun u _ => I - (intOf u).toNat)
            case atStart => exact ⟨0, by omega, rfl, HR2.out, HB2.out⟩
            case round =>
              obtain ⟨J, hJ, rfl, r3, hb3⟩ := hrel
              have HR3 : Hid (Row wr w.heap.size (csL x l) 33) := r3
              have HB3 : Hid _ := hb3
              by_cases hlj : J < I
              · obtain ⟨_, _, eb, f1, _⟩ := (HE1.out.below hb3 (Nat.le_refl _)).hat J (by omega)
                simp only [Option.some.injEq, Addr.mk.injEq] at eb
                obtain ⟨rfl, rfl, _⟩ := eb
                obtain ⟨_, _, eb, g1, _⟩ := (HE1.out.below hb3 (Nat.le_refl _)).hat I hlt
                simp only [Option.some.injEq, Addr.mk.injEq] at eb
                obtain ⟨rfl, rfl, _⟩ := eb
                rw [HY0.out] at g1
                have hne : (ln d J == (y : Int)) = false := by have := HY4.out J hlj; simp [this]
                have lb3 := cell_lt f1
                clear r3 hb3 c2
                go_wp2_with fail
                try go_quiet (fail)
                try go_wp2_with fail
                go_roundw
                case rel => exact ⟨J + 1, by omega, by go_num, by first | exact HR3.out | exact Row.below HR3.out (Below.refl _ _) HR3.out.lt, by first | exact HB3.out | exact HB3.out.trans ⟨rfl, rfl, rfl, Nat.le_refl _, fun _ _ => rfl⟩⟩
                case measure => simp [intOf]; omega
              · clear r3 hb3
                go_wp2_with fail
                go_roundw
                case rel => exact ⟨I + 1, by omega, by go_num, HR3.out, HB3.out⟩
                case measure => simp [intOf]; omega
    · clear r hb
      go_wp2
      go_ret
      exact ⟨rfl, HB1.out.trans (HBI.out.mono hS1)⟩
end Go.Proofs.YtcmcfafhllpojabGreat
