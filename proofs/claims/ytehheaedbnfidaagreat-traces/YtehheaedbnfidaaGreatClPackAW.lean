/-
  NewC, NewD
-/
import Derived.Test.YtehheaedbnfidaaGreatClPackR
import Derived.Test.YtehheaedbnfidaaGreatClPackAY
import Derived.Deep.RegionLaw
import Derived.Deep.RegionHeld3
import Derived.Deep.DeepCutAuto
namespace Go.Proofs.YtehheaedbnfidaaGreat
open Go.RowKit

theorem Tryz.infoBlock : (Tryz.prog.info? 171).map (fun i => (i.zero, i.size, i.bytes)) = some (some (.agg #[.int .i64 0, .bool false, .int .i64 0, .int .i64 0, .int .i64 0, .int .i64 0]), 6, 48) := by kernel_rfl
theorem Tryz.infoSet : (Tryz.prog.info? 167).map (fun i => (i.zero, i.size, i.bytes)) = some (some (.agg #[.slice none 0 0, .slice none 0 0]), 2, 48) := by kernel_rfl

abbrev bkL (b : Bk) : List Value := [.int .i64 b.line, .bool b.mkd, .int .i64 (b.wd 0), .int .i64 (b.wd 1), .int .i64 (b.wd 2), .int .i64 (b.wd 3)]
theorem repB_at {n i : Nat} (hi : i < n * 6) : ((List.replicate n bkE).flatMap bkL)[i]? = some (bkV bkE (i % 6)) := by
  induction n generalizing i with
  | zero => omega
  | succ n ih =>
    rw [List.replicate_succ, List.flatMap_cons]
    by_cases h : i < 6
    · have : i = 0 ∨ i = 1 ∨ i = 2 ∨ i = 3 ∨ i = 4 ∨ i = 5 := by omega
      rcases this with e | e | e | e | e | e <;> subst e <;> rfl
    · obtain ⟨j, rfl⟩ : ∃ j, i = j + 6 := ⟨i - 6, by omega⟩
      have := ih (i := j) (by omega)
      rw [show (j + 6) % 6 = j % 6 by omega, ← this]
      rfl

abbrev setL (nn : Nat) (b bc : Nat → Nat) (k : Nat) : List Value := [.slice (some ⟨b k, 0, none⟩) nn (bc k), .slice none 0 0]
theorem setL_at (nn : Nat) (b bc : Nat → Nat) {n i : Nat} (hi : i < n * 2) : ((List.range n).flatMap (setL nn b bc))[i]? = some (if i % 2 = 0 then .slice (some ⟨b (i / 2), 0, none⟩) nn (bc (i / 2)) else .slice none 0 0) := by
  induction n with
  | zero => omega
  | succ n ih =>
    have hlen : ∀ m, ((List.range m).flatMap (setL nn b bc)).length = m * 2 := fun m => by
      induction m with
      | zero => rfl
      | succ m ihm => rw [List.range_succ, List.flatMap_append, List.length_append, ihm]; simp [setL]; omega
    rw [List.range_succ, List.flatMap_append]
    by_cases h : i < n * 2
    · rw [List.getElem?_append_left (by rw [hlen]; exact h)]
      exact ih h
    · rw [List.getElem?_append_right (by rw [hlen]; omega), hlen]
      have : i = n * 2 ∨ i = n * 2 + 1 := by omega
      rcases this with e | e
      · subst e; simp [setL, show n * 2 / 2 = n by omega]
      · subst e; simp [setL, show (n * 2 + 1) % 2 = 1 by omega, show n * 2 + 1 - n * 2 = 1 by omega]

structure FarP (w wr : World) (j nn : Nat) (va : Option Addr) (vc : Nat) (b bc : Nat → Nat) : Prop where
  box : Row wr (w.heap.size + 1) [.slice va j vc] 140
  res : Row wr w.heap.size [.slice none 0 0] 140
  row : wr.ownsRow (w.heap.size + 2) 167 2 (.slice va j vc) j ((List.range j).flatMap (setL nn b bc))
  cel : ∀ k, k < j → Cells wr (b k) (nn * 6) 171 (fun i => bkV bkE (i % 6)) ∧ w.heap.size + 2 ≤ b k ∧ nn ≤ bc k ∧ bc k ≤ maxLen
  dis : ∀ i k, i < j → k < j → b i = b k → i = k
  bel : Below w.heap.size w wr

theorem FarP.below {w wr w' : World} {j nn : Nat} {va : Option Addr} {vc : Nat} {b bc : Nat → Nat} (h : FarP w wr j nn va vc b bc) (hb : Below wr.heap.size wr w') : FarP w w' j nn va vc b bc :=
  ⟨h.box.below hb h.box.lt, h.res.below hb h.res.lt, owns_same h.row fun g hg => hb.block g (owns_lt h.row g hg).1, fun k hk => ⟨(h.cel k hk).1.below hb (Nat.le_refl _), (h.cel k hk).2⟩, h.dis, h.bel.trans (hb.mono h.bel.size)⟩

theorem FarP.more {w wr w1 w2 : World} {j nn gl lc gg cap : Nat} {va : Option Addr} {vc : Nat} {b bc : Nat → Nat} (h : FarP w wr j nn va vc b bc) (h0 : wr.heap.size ≤ gl) (hb1 : Below wr.heap.size wr w1)
    (hc : Cells w1 gl (nn * 6) 171 (fun i => bkV bkE (i % 6))) (hl : nn ≤ lc ∧ lc ≤ maxLen) (hg : w1.grownBy w2 (Value.slice va j vc).ownBlock)
    (ho : w2.ownsRow (w.heap.size + 2) 167 2 (.slice (some ⟨gg, 0, none⟩) (j + 1) cap) (j + 1) (((List.range j).flatMap (setL nn b bc)) ++ [.slice (some ⟨gl, 0, none⟩) nn lc, .slice none 0 0])) :
    FarP w (w2.setCell ⟨w.heap.size + 1, 0, none⟩ (.slice (some ⟨gg, 0, none⟩) (j + 1) cap)) (j + 1) nn (some ⟨gg, 0, none⟩) cap (up1 b j gl) (up1 bc j lc) := by
  have h1 := h.below hb1
  have hsz := h.bel.size
  have hr2 : w.heap.size + 2 ≤ wr.heap.size := by have := h.box.lt; omega
  have n0 : ∀ {g A t}, Row w1 g A t → t ≠ 167 → Row w2 g A t := fun hr ht => by
    unfold Row
    rw [hg.block _ hr.lt (fun he => own_ne h1.row hr ht he.symm)]
    exact hr
  have n1 : ∀ {g n f}, Cells w1 g n 171 f → Cells w2 g n 171 f := fun ⟨cur, hr, hf⟩ => ⟨cur, n0 hr (by decide), hf⟩
  have hbox := n0 h1.box (by decide)
  have hne : ∀ g, w.heap.size + 2 ≤ g → g ≠ w.heap.size + 1 := fun g hg => by omega
  refine ⟨hbox.setCell 0 _, (n0 h1.res (by decide)).setCellOther _ _ (by omega), ?_, fun k hk => ?_, fun i k hi hk e => ?_, ?_⟩
  · have hL : (List.range (j + 1)).flatMap (setL nn (up1 b j gl) (up1 bc j lc)) = ((List.range j).flatMap (setL nn b bc)) ++ [.slice (some ⟨gl, 0, none⟩) nn lc, .slice none 0 0] := by
      rw [List.range_succ, List.flatMap_append]
      congr 1
      · have : ∀ l : List Nat, (∀ k ∈ l, k ≠ j) → l.flatMap (setL nn (up1 b j gl) (up1 bc j lc)) = l.flatMap (setL nn b bc) := fun l => by
          induction l with
          | nil => intro _; rfl
          | cons x l ih =>
            intro hx
            rw [List.flatMap_cons, List.flatMap_cons, ih (fun k hk => hx k (List.mem_cons_of_mem _ hk))]
            have : x ≠ j := hx x (by simp)
            simp [setL, up1, this]
        exact this _ (fun k hk => by have := List.mem_range.1 hk; omega)
      · simp [setL, up1]
    rw [hL]
    exact owns_same ho fun g hg' => Below.heap_setCell _ _ _ _ (hne g (owns_lt ho g hg').2)
  · by_cases e : k = j
    · subst e
      simp only [up1, if_true]
      exact ⟨(n1 hc).setOther _ _ (by omega), by omega, hl⟩
    · have := h1.cel k (by omega)
      simp only [up1, e, if_false]
      exact ⟨(n1 this.1).setOther _ _ (hne _ this.2.1), this.2⟩
  · by_cases e1 : i = j <;> by_cases e2 : k = j
    · omega
    · subst e1
      simp only [up1, if_true, e2, if_false] at e
      have := (h.cel k (by omega)).1.lt
      omega
    · subst e2
      simp only [up1, if_true, e1, if_false] at e
      have := (h.cel i (by omega)).1.lt
      omega
    · simp only [up1, e1, e2, if_false] at e
      exact h.dis i k (by omega) (by omega) e
  · exact (below_grown h1.bel (by have := h1.box.lt; omega) hg (fun g hg' => by have := (owns_lt h1.row g hg').2; omega)).setCell (show w.heap.size ≤ w.heap.size + 1 by omega) _

set_option maxRecDepth 100000 in
set_option maxHeartbeats 3200000 in
theorem fnew_any (ns wn : Nat) (hs : ns ≤ 4) (hs0 : 0 < ns) (hw : wn = 1 ∨ wn = 2 ∨ wn = 4) (w : World) :
    Calls Tryz.prog 109 #[.int .i64 ns, .int .i64 wn] w fun e w' => ∃ X : FLoc, e = .returned (.agg #[.slice (some ⟨X.r, 0, none⟩) ns X.rc]) ∧ FarM w' ns wn X (fun _ _ => bkE) (fun _ => []) ∧ Below w.heap.size w w' ∧ (∀ b, X.own ns b → w.heap.size ≤ b ∧ b < w'.heap.size) ∧ ∀ s, X.ta s = none := by
  obtain ⟨i0, hi0, hz0, hz1, hz2⟩ := info_parts Tryz.infoBlock
  obtain ⟨j0, hj0, hy0, hy1, hy2⟩ := info_parts Tryz.infoSet
  have wn4 : wn ≤ 4 := by omega
  have wn0 : 0 < wn := by omega
  have HWN : Hid _ := hw
  clear hw
  go_enter Tryz.func109, Tryz.ntmps109
  go_wp2_with fail
  have hP0 : FarP w ((w.alloc (.cells #[.slice none 0 0] 140)).alloc (.cells #[.slice none 0 0] 140)) 0 wn none 0 (fun _ => 0) (fun _ => 0) := by
    refine ⟨?_, Row.alloc (heap_alloc_new w _) _, by simp [World.ownsRow], fun k hk => by omega, fun i k hi => by omega, ((Below.refl _ _).alloc (Nat.le_refl _) _).alloc (by simp) _⟩
    have := heap_alloc_new (w.alloc (.cells #[.slice none 0 0] 140)) (.cells #[.slice none 0 0] 140)
    rw [World.size_alloc] at this
    exact this
  have HP0 : Hid _ := hP0
  clear hP0
  go_loopw [6] (fun u wr => ∃ (j : Nat) (va : Option Addr) (vc : Nat) (b bc : Nat → Nat), j ≤ ns ∧ u = .int .i64 j ∧ FarP w wr j wn va vc b bc) (fun u _ => ns - (intOf u).toNat)
  case atStart => exact ⟨0, none, 0, _, _, by omega, rfl, HP0.out⟩
  case round =>
    obtain ⟨j, va, vc, b, bc, hj, rfl, hP⟩ := hrel
    have HP : Hid _ := hP
    by_cases hlt : j < ns
    · obtain ⟨wo, hwo⟩ : ∃ wo, wo = wr := ⟨_, rfl⟩
      have HWO : Hid _ := hwo
      have HR0 : Hid (Row (wr.alloc (.cells #[.slice none 0 0, .slice none 0 0] 167)) wr.heap.size [.slice none 0 0, .slice none 0 0] 167) := heap_alloc_new wr _
      clear hP hwo
      go_wp2_with fail
      rw [← HWO.out]
      rw [← HWO.out] at HR0
      go_loopw [8] (fun u wx => ∃ (i : Nat) (la : Option Addr) (lc : Nat), i ≤ wn ∧ u = .int .i64 i ∧ Row wx wo.heap.size [.slice la i lc, .slice none 0 0] 167 ∧ wx.ownsRow (wo.heap.size + 1) 171 6 (.slice la i lc) i ((List.replicate i bkE).flatMap bkL) ∧ Below wo.heap.size wo wx) (fun u _ => wn - (intOf u).toNat)
      case atStart => exact ⟨0, none, 0, by omega, rfl, HR0.out, by simp [World.ownsRow], (Below.refl _ _).alloc (Nat.le_refl _) _⟩
      case round =>
        obtain ⟨i, la, lc, hi, rfl, hbx, hown, hb⟩ := hrel
        have HO : Hid _ := hown
        have HB : Hid _ := hb
        have HBX : Hid (Row wr wo.heap.size [.slice la i lc, .slice none 0 0] 167) := hbx
        have hbs := hb.size
        have lbx := hbx.lt
        have cb : wr.cell? ⟨wo.heap.size, 0, none⟩ = some (.slice la i lc) := hbx.cell 0
        have cb1 : wr.cell? ⟨wo.heap.size, 1, none⟩ = some (.slice none 0 0) := hbx.cell 1
        have fb := hbx.frozen 0
        clear hb hbx
        by_cases hli : i < wn
        · have LM : Hid (i + 1 ≤ maxLen) := by unfold Hid maxLen; omega
          have L8 : Hid ((i + 1) * 48 ≤ 140737488355328) := by unfold Hid; omega
          have HRW : Hid (∀ k, (Value.slice la i lc).ownBlock = some k → wo.heap.size + 1 ≤ k) := fun k hk => (owns_lt hown k hk).2
          have hne : (Value.slice la i lc).ownBlock ≠ some wo.heap.size := fun e => by have := (owns_lt hown _ e).2; omega
          clear hown
          go_wp2_with fail
          go_region_law (first
              | (rw [if_pos (by rfl)]; go_simp; go_at_call 139; refine (fEmpty_any _).mono ?_; rintro e w2 ⟨rfl, rfl⟩)
              | (refine step_append_lies _ (by rfl) _ _ _ (by rfl) (wo.heap.size + 1) 171 i0 _ 6 48 Tryz.underlying165 hi0 hz0 hz1 hz2 rfl (by omega) (.slice la i lc) i ((List.replicate i bkE).flatMap bkL) (by rfl) ((World.ownsRow.alloc (World.ownsRow.alloc HO.out _) _).drew)
                  ⟨wr.heap.size + 1, 0, none⟩ 1 1 (bkL bkE) (by rfl) (by rfl) (World.news_of_block (cs := bkA bkE) (t := 171) (fr := (0, 0)) (by have hnb := heap_alloc_new (wr.alloc (.cells (bkA bkE) 171)) (.cells (bkA bkE) 171); rw [World.size_alloc] at hnb; exact hnb)) (by simp [Value.oneCell'])
                  (by omega) LM.out L8.out (by simp; omega) (wr.heap.size + 2) (by simp) ?_; intro gg cap w1 hown2 hgrow hat hlt; have r1 : Row w1 wo.heap.size [.slice la i lc, .slice none 0 0] 167 := (hgrow.block wo.heap.size (by simp; omega) (fun e => hne e.symm)).trans ((Row.alloc (Row.alloc HBX.out _) _)); have c1 : w1.cell? ⟨wo.heap.size, 0, none⟩ = some (.slice la i lc) := r1.cell 0; have f1 := r1.frozen 0))
          all_goals
            have hb4 : Below wo.heap.size wo w1 := below_grown (((HB.out.alloc hbs (.cells (bkA bkE) 171)).alloc (by simp; omega) (.cells (bkA bkE) 171)).drew) (by simp; omega) hgrow (fun k hk => by have := HRW.out k hk; omega)
            have HR4 : Hid (Row (w1.setCell ⟨wo.heap.size, 0, none⟩ (.slice (some ⟨gg, 0, none⟩) (i + 1) cap)) wo.heap.size [.slice (some ⟨gg, 0, none⟩) (i + 1) cap, .slice none 0 0] 167) := r1.setCell 0 _
            have HO4 : Hid ((w1.setCell ⟨wo.heap.size, 0, none⟩ (.slice (some ⟨gg, 0, none⟩) (i + 1) cap)).ownsRow (wo.heap.size + 1) 171 6 (.slice (some ⟨gg, 0, none⟩) (i + 1) cap) (i + 1) ((List.replicate (i + 1) bkE).flatMap bkL)) := by
              unfold Hid
              rw [List.replicate_succ', List.flatMap_append]
              exact owns_same hown2 fun g hg => Below.heap_setCell _ _ _ _ (by have := (owns_lt hown2 g hg).2; intro e; have : g = wo.heap.size := e; omega)
            have HB4 : Hid (Below wo.heap.size wo (w1.setCell ⟨wo.heap.size, 0, none⟩ (.slice (some ⟨gg, 0, none⟩) (i + 1) cap))) := hb4.setCell (Nat.le_refl _) _
            clear hown2 hgrow hat hb4 r1 c1 f1
          all_goals go_wp2_with fail
          all_goals go_roundw
          all_goals try (case rel => first | exact ⟨i + 1, _, cap, by omega, by go_num, HR4.out, HO4.out, HB4.out⟩ | ((repeat apply Exists.intro); exact ⟨⟨i + 1, _, cap, by omega, by go_num, HR4.out, HO4.out, HB4.out⟩, rfl⟩))
          all_goals try (case measure => simp [intOf]; omega)
        · have ei : i = wn := by omega
          subst ei
          obtain ⟨gl, lc', hv, hgl, hgl2⟩ := World.ownsRow.form hown wn0
          simp only [Value.slice.injEq] at hv
          obtain ⟨rfl, _, rfl⟩ := hv
          have hcl := owns_cells hown (fun i => bkV bkE (i % 6)) (fun q hq => repB_at hq)
          have P0 := HP.out
          rw [← HWO.out] at P0
          have P1 := P0.below HB.out
          have cx : wr.cell? ⟨w.heap.size + 1, 0, none⟩ = some (.slice va j vc) := P1.box.cell 0
          have fx := P1.box.frozen 0
          have lx := P1.box.lt
          have HC : Hid _ := hcl
          have HP1 : Hid _ := P1
          have HP00 : Hid _ := P0
          have LM : Hid (j + 1 ≤ maxLen) := by unfold Hid maxLen; omega
          have L8 : Hid ((j + 1) * 48 ≤ 140737488355328) := by unfold Hid; omega
          have HRJ : Hid _ := P1.row
          clear hown hcl P0 P1
          go_wp2_with (at_builtin; refine wpList_append_lies _ rfl _ _ 138 rfl (w.heap.size + 2) 167 j0 _ 2 48 Tryz.underlying138 hj0 hy0 hy1 hy2 rfl (by decide) (.slice va j vc) j ((List.range j).flatMap (setL i b bc)) rfl ?p1 ⟨wr.heap.size, 0, none⟩ 1 1 [.slice (some ⟨gl, 0, none⟩) i lc, .slice none 0 0] ?p9 rfl ?p3 ?p4 (by omega) ?p5 ?p6 ?p7 _ rfl ?p8)
          case p1 => exact World.ownsRow.alloc HRJ.out _
          try case p3 => exact World.news_of_block (cs := #[.slice (some ⟨gl, 0, none⟩) i lc, .slice none 0 0]) (t := 167) (fr := (0, 0)) (heap_alloc_new wr _)
          case p4 => simp [Value.oneCell']
          case p5 => exact LM.out
          case p6 => exact L8.out
          case p7 => simp; omega
          try case p9 => rfl
          case p8 =>
            intro gg cap2 w4 hown4 hgrow4 hat4 hlt4
            have hbA : Below wr.heap.size wr (wr.alloc (.cells #[.slice (some ⟨gl, 0, none⟩) i lc, .slice none 0 0] 167)) := (Below.refl _ _).alloc (Nat.le_refl _) _
            have hM := HP00.out.more (gl := gl) (lc := lc) (by have := HC.out.2.2.2.1; omega) (HB.out.trans (hbA.mono hbs)) (HC.out.1.below hbA (Nat.le_refl _)) ⟨HC.out.2.1, HC.out.2.2.1⟩ hgrow4 hown4
            have rb : Row w4 (w.heap.size + 1) [.slice va j vc] 140 := by
              unfold Row
              rw [hgrow4.block _ (by simp; omega) (fun he => own_ne (World.ownsRow.alloc HRJ.out _) (HP1.out.box.below hbA lx) (by decide) he.symm)]
              exact HP1.out.box.below hbA lx
            have c4 : w4.cell? ⟨w.heap.size + 1, 0, none⟩ = some (.slice va j vc) := rb.cell 0
            have f4 := rb.frozen 0
            have HMM : Hid _ := hM
            clear hown4 hgrow4 hat4 hbA hM rb cx fx lx cb cb1 fb
            go_wp2_with fail
            go_roundw
            case rel => first | exact ⟨j + 1, _, _, _, _, by omega, by go_num, HMM.out⟩ | ((repeat apply Exists.intro); exact ⟨⟨j + 1, _, _, _, _, by omega, by go_num, HMM.out⟩, rfl⟩)
            case measure => simp [intOf]; omega
    · have ej : j = ns := by omega
      subst ej
      have cb : wr.cell? ⟨w.heap.size + 1, 0, none⟩ = some (.slice va j vc) := hP.box.cell 0
      have cr : wr.cell? ⟨w.heap.size, 0, none⟩ = some (.slice none 0 0) := hP.res.cell 0
      have fr := hP.res.frozen 0
      have q : Row (wr.setCell ⟨w.heap.size, 0, none⟩ (.slice va j vc)) w.heap.size [.slice va j vc] 140 := hP.res.setCell 0 _
      have q0 := q.cell 0
      obtain ⟨g, cap, hv, hg1, hg2⟩ := World.ownsRow.form hP.row hs0
      simp only [Value.slice.injEq] at hv
      obtain ⟨rfl, _, rfl⟩ := hv
      have hrow := owns_cells hP.row (setV ⟨g, vc, b, bc, fun _ => none, fun _ => 0, fun _ => 0⟩ wn) (fun k hk => by rw [setL_at wn b bc hk]; rfl)
      have hFM : FarM (wr.setCell ⟨w.heap.size, 0, none⟩ (.slice (some ⟨g, 0, none⟩) j vc)) j wn ⟨g, vc, b, bc, fun _ => none, fun _ => 0, fun _ => 0⟩ (fun _ _ => bkE) (fun _ => []) :=
        ⟨hrow.1.setOther _ _ (show g ≠ w.heap.size by have := hrow.2.2.2.1; omega), fun k hk => (hP.cel k hk).1.setOther _ _ (show b k ≠ w.heap.size by have := (hP.cel k hk).2.1; omega), fun s _ => ⟨rfl, Nat.le_refl _, Nat.zero_le _, fun _ => rfl, fun i hi => absurd hi (Nat.not_lt_zero i)⟩, ⟨hrow.2.1, hrow.2.2.1⟩, fun k hk => (hP.cel k hk).2.2, hP.dis, hs0, hs, wn0, wn4, HWN.out, fun s _ e he => absurd he (List.not_mem_nil), fun s _ => List.nodup_nil⟩
      have HFM : Hid _ := hFM
      have HBL : Hid (Below w.heap.size w (wr.setCell ⟨w.heap.size, 0, none⟩ (.slice (some ⟨g, 0, none⟩) j vc))) := hP.bel.setCell (Nat.le_refl _) _
      have HX : Hid (∀ b', FLoc.own ⟨g, vc, b, bc, fun _ => none, fun _ => 0, fun _ => 0⟩ j b' → w.heap.size ≤ b' ∧ b' < (wr.setCell ⟨w.heap.size, 0, none⟩ (.slice (some ⟨g, 0, none⟩) j vc)).heap.size) := fun b' hb' => by
        have hz : (wr.setCell ⟨w.heap.size, 0, none⟩ (.slice (some ⟨g, 0, none⟩) j vc)).heap.size = wr.heap.size := by simp [World.setCell]
        rw [hz]
        rcases hb' with e | ⟨k, hk, e⟩
        · have e' : b' = g := e
          have := hrow.2.2.2
          omega
        · have e' : b' = b k := e
          have := (hP.cel k hk)
          have h2 := this.1.lt
          have h3 := this.2.1
          omega
      clear hP HP hrow hFM q
      go_wp2
      refine bodyPost_ret (v := .agg #[.slice (some ⟨g, 0, none⟩) j vc]) (by simp [results, Tryz.results109, go_sem, q0]) rfl ⟨⟨g, vc, b, bc, fun _ => none, fun _ => 0, fun _ => 0⟩, rfl, HFM.out, HBL.out, HX.out, fun _ => rfl⟩
end Go.Proofs.YtehheaedbnfidaaGreat

namespace Go.Proofs.YtehheaedbnfidaaGreat
open Go.RowKit


structure MemP (w wr : World) (c : Cf) (s : Sl) (ln j pv : Nat) (va : Option Addr) (vc : Nat) (b bc : Nat → Nat) : Prop where
  cbox : Row wr w.heap.size (cfgL c s) 43
  res : Row wr (w.heap.size + 1) [.int .i64 0, .slice none 0 0, .slice none 0 0] 92
  box : Row wr (w.heap.size + 2) [.int .i64 ln, .slice va j vc, .slice none 0 0] 92
  row : wr.ownsRow (w.heap.size + 3) 25 1 (.slice va j vc) j ((List.range j).map fun k => .slice (some ⟨b k, 0, none⟩) pv (bc k))
  cel : ∀ k, k < j → Cells wr (b k) pv 3 (fun _ => .int .i64 0) ∧ w.heap.size + 3 ≤ b k ∧ pv ≤ bc k ∧ bc k ≤ maxLen
  dis : ∀ i k, i < j → k < j → b i = b k → i = k
  bel : Below w.heap.size w wr

theorem MemP.below {w wr w' : World} {c : Cf} {s : Sl} {ln j pv : Nat} {va : Option Addr} {vc : Nat} {b bc : Nat → Nat} (h : MemP w wr c s ln j pv va vc b bc) (hb : Below wr.heap.size wr w') : MemP w w' c s ln j pv va vc b bc :=
  ⟨h.cbox.below hb h.cbox.lt, h.res.below hb h.res.lt, h.box.below hb h.box.lt, owns_same h.row fun g hg => hb.block g (owns_lt h.row g hg).1, fun k hk => ⟨(h.cel k hk).1.below hb (Nat.le_refl _), (h.cel k hk).2⟩, h.dis, h.bel.trans (hb.mono h.bel.size)⟩

theorem MemP.more {w wr w1 w2 : World} {c : Cf} {s : Sl} {ln j pv gl lc gg cap : Nat} {va : Option Addr} {vc : Nat} {b bc : Nat → Nat} (h : MemP w wr c s ln j pv va vc b bc) (h0 : wr.heap.size ≤ gl) (hb1 : Below wr.heap.size wr w1)
    (hc : Cells w1 gl pv 3 (fun _ => .int .i64 0)) (hl : pv ≤ lc ∧ lc ≤ maxLen) (hg : w1.grownBy w2 (Value.slice va j vc).ownBlock)
    (ho : w2.ownsRow (w.heap.size + 3) 25 1 (.slice (some ⟨gg, 0, none⟩) (j + 1) cap) (j + 1) (((List.range j).map fun k => .slice (some ⟨b k, 0, none⟩) pv (bc k)) ++ [.slice (some ⟨gl, 0, none⟩) pv lc])) :
    MemP w (w2.setCell ⟨w.heap.size + 2, 1, none⟩ (.slice (some ⟨gg, 0, none⟩) (j + 1) cap)) c s ln (j + 1) pv (some ⟨gg, 0, none⟩) cap (up1 b j gl) (up1 bc j lc) := by
  have h1 := h.below hb1
  have hsz := h.bel.size
  have hr2 : w.heap.size + 3 ≤ wr.heap.size := by have := h.box.lt; omega
  have n0 : ∀ {g A t}, Row w1 g A t → t ≠ 25 → Row w2 g A t := fun hr ht => by
    unfold Row
    rw [hg.block _ hr.lt (fun he => own_ne h1.row hr ht he.symm)]
    exact hr
  have n1 : ∀ {g n f}, Cells w1 g n 3 f → Cells w2 g n 3 f := fun ⟨cur, hr, hf⟩ => ⟨cur, n0 hr (by decide), hf⟩
  have hbox := n0 h1.box (by decide)
  have hne : ∀ g, w.heap.size + 3 ≤ g → g ≠ w.heap.size + 2 := fun g hg => by omega
  refine ⟨(n0 h1.cbox (by decide)).setCellOther _ _ (by omega), (n0 h1.res (by decide)).setCellOther _ _ (by omega), hbox.setCell 1 _, ?_, fun k hk => ?_, fun i k hi hk e => ?_, ?_⟩
  · have hL : ((List.range (j + 1)).map fun k => Value.slice (some ⟨up1 b j gl k, 0, none⟩) pv (up1 bc j lc k)) = ((List.range j).map fun k => .slice (some ⟨b k, 0, none⟩) pv (bc k)) ++ [.slice (some ⟨gl, 0, none⟩) pv lc] := by
      rw [List.range_succ, List.map_append]
      congr 1
      · apply List.map_congr_left
        intro k hk
        have : k ≠ j := by have := List.mem_range.1 hk; omega
        simp [up1, this]
      · simp [up1]
    rw [hL]
    exact owns_same ho fun g hg' => Below.heap_setCell _ _ _ _ (hne g (owns_lt ho g hg').2)
  · by_cases e : k = j
    · subst e
      simp only [up1, if_true]
      exact ⟨(n1 hc).setOther _ _ (by omega), by omega, hl⟩
    · have := h1.cel k (by omega)
      simp only [up1, e, if_false]
      exact ⟨(n1 this.1).setOther _ _ (hne _ this.2.1), this.2⟩
  · by_cases e1 : i = j <;> by_cases e2 : k = j
    · omega
    · subst e1
      simp only [up1, if_true, e2, if_false] at e
      have := (h.cel k (by omega)).1.lt
      omega
    · subst e2
      simp only [up1, if_true, e1, if_false] at e
      have := (h.cel i (by omega)).1.lt
      omega
    · simp only [up1, e1, e2, if_false] at e
      exact h.dis i k (by omega) (by omega) e
  · exact (below_grown h1.bel (by have := h1.box.lt; omega) hg (fun g hg' => by have := (owns_lt h1.row g hg').2; omega)).setCell (show w.heap.size ≤ w.heap.size + 2 by omega) _

theorem rep0_at {n i : Nat} (hi : i < n * 1) : (List.replicate n (Value.int .i64 0))[i]? = some (Value.int .i64 0) := by
  rw [List.getElem?_replicate, if_pos (by omega)]

/-- The memory is made. -/
theorem MemP.done {w wr w1 W : World} {c : Cf} {s : Sl} {ln j pv sn : Nat} {va za : Option Addr} {vc zc : Nat} {b bc : Nat → Nat} (h : MemP w wr c s ln j pv va vc b bc) (hb : Below wr.heap.size wr w1) (ho : w1.ownsRow wr.heap.size 3 1 (.slice za sn zc) sn (List.replicate sn (.int .i64 0))) (h1 : j ≤ 4) (h0 : 0 < j) (p1 : pv ≤ 64) (p0 : 0 < pv) (s1 : sn ≤ 32)
    (hW : ∀ g, w.heap.size + 3 ≤ g → W.heap[g]? = w1.heap[g]?) (hS : W.heap.size = w1.heap.size) :
    ∃ X : ELoc, va = some ⟨X.r, 0, none⟩ ∧ vc = X.rc ∧ za = X.sa ∧ zc = X.sc ∧ MemM W j pv sn X (fun _ _ => 0) (fun _ => 0) ∧ w.heap.size ≤ X.r ∧ ∀ b, X.own j b → w.heap.size ≤ b ∧ b < W.heap.size ∧ b ≠ X.r := by
  have P1 := h.below hb
  have hr3 : w.heap.size + 3 ≤ wr.heap.size := by have := h.box.lt; omega
  have hbs := hb.size
  obtain ⟨g, cap, hv, hg1, hg2⟩ := World.ownsRow.form P1.row h0
  simp only [Value.slice.injEq] at hv
  obtain ⟨rfl, _, rfl⟩ := hv
  have hrow := owns_cells P1.row (fun k => .slice (some ⟨b k, 0, none⟩) pv (bc k)) (fun k hk => by
    rw [List.getElem?_map, List.getElem?_range (by omega)]; rfl)
  rw [Nat.mul_one] at hrow
  have hgs : ∃ sb, w.heap.size ≤ sb ∧ sb < w1.heap.size ∧ sb ≠ g ∧ (∀ k, k < j → b k ≠ sb) ∧ ((sn = 0 ∧ za = none) ∨ (za = some ⟨sb, 0, none⟩ ∧ Cells W sb sn 3 (fun _ => .int .i64 0))) ∧ sn ≤ zc ∧ zc ≤ maxLen := by
    rcases ho.2 with ⟨e1, e2⟩ | ⟨g', cap', cur, hv, hgb, hh, hn', hm, hs, ht⟩
    · simp only [Value.slice.injEq] at e1
      refine ⟨w.heap.size, Nat.le_refl _, by omega, by have := hrow.2.2.2.1; omega, fun k hk e => by have := (h.cel k hk).2.1; omega, Or.inl ⟨e2, e1.1⟩, by omega, by rw [e1.2.2]; exact Nat.zero_le _⟩
    · simp only [Value.slice.injEq] at hv
      obtain ⟨rfl, _, rfl⟩ := hv
      have hc := owns_cells ho (fun _ => .int .i64 0) (fun q hq => rep0_at hq)
      rw [Nat.mul_one] at hc
      have hne : g' ≠ g := fun e => by
        subst e
        have hr : Row w1 g' cur.toList 3 := by unfold Row; simpa using hh
        exact own_ne P1.row hr (by decide) rfl
      exact ⟨g', by omega, hc.2.2.2.2, hne, fun k hk e => by have := (h.cel k hk).1.lt; omega, Or.inr ⟨rfl, hc.1.same (hW g' (by omega))⟩, hc.2.1, hc.2.2.1⟩
  obtain ⟨sb, k1, k2, k3, k4, k5, k6, k7⟩ := hgs
  refine ⟨⟨g, vc, b, bc, za, sb, zc⟩, rfl, rfl, rfl, rfl, ⟨hrow.1.same (hW g hrow.2.2.2.1), fun d hd => (P1.cel d hd).1.same (hW _ (P1.cel d hd).2.1), k5, ⟨hrow.2.1, hrow.2.2.1⟩, fun d hd => (P1.cel d hd).2.2, ⟨k6, k7⟩, P1.dis, k4, h1, p0, p1, s1⟩, by have := hrow.2.2.2.1; show w.heap.size ≤ g; omega, fun b' hb' => ?_⟩
  rw [hS]
  rcases hb' with e | ⟨d, hd, e⟩
  · have e' : b' = sb := e
    subst e'
    exact ⟨k1, k2, k3⟩
  · have e' : b' = b d := e
    subst e'
    have h2 := (P1.cel d hd).1.lt
    have h3 := (P1.cel d hd).2.1
    exact ⟨by omega, h2, fun e2 => absurd (hrow.1.type ((show b d = g from e2) ▸ (P1.cel d hd).1)) (by decide)⟩

set_option maxRecDepth 100000 in
set_option maxHeartbeats 3200000 in
theorem mnew_any (c : Cf) (s : Sl) (nd pv sn ln : Nat) (hnd : (nd : Int) = c.domains) (hpv : (pv : Int) = c.priv) (hsn : (sn : Int) = c.shared) (hln : (ln : Int) = c.line) (h1 : nd ≤ 4) (h0 : 0 < nd) (p1 : pv ≤ 64) (p0 : 0 < pv) (s1 : sn ≤ 32) (w : World) :
    Calls Tryz.prog 106 #[cfgV c s] w fun e w' => ∃ X : ELoc, e = .returned (.agg #[.int .i64 ln, .slice (some ⟨X.r, 0, none⟩) nd X.rc, .slice X.sa sn X.sc]) ∧ MemM w' nd pv sn X (fun _ _ => 0) (fun _ => 0) ∧ Below w.heap.size w w' ∧ w.heap.size ≤ X.r ∧ ∀ b, X.own nd b → w.heap.size ≤ b ∧ b < w'.heap.size ∧ b ≠ X.r := by
  obtain ⟨j0, hj0, hy0, hy1, hy2⟩ := info_parts Tryz.infoIntsN
  obtain ⟨c_cores, c_domains, c_line, c_priv, c_shared, c_near, c_sets, c_ways, c_slot, c_slots, c_turns, c_quantum, c_flush⟩ := c
  dsimp only at *
  subst hnd hpv hsn hln
  have hP0 : MemP w (((w.alloc (.cells (cfgA ⟨c_cores, nd, ln, pv, sn, c_near, c_sets, c_ways, c_slot, c_slots, c_turns, c_quantum, c_flush⟩ s) 43)).alloc (.cells #[.int .i64 0, .slice none 0 0, .slice none 0 0] 92)).alloc (.cells #[.int .i64 ln, .slice none 0 0, .slice none 0 0] 92)) ⟨c_cores, nd, ln, pv, sn, c_near, c_sets, c_ways, c_slot, c_slots, c_turns, c_quantum, c_flush⟩ s ln 0 pv none 0 (fun _ => 0) (fun _ => 0) := by
    refine ⟨Row.alloc (Row.alloc (heap_alloc_new w _) _) _, Row.alloc ?_ _, ?_, by simp [World.ownsRow], fun k hk => by omega, fun i k hi => by omega, (((Below.refl _ _).alloc (Nat.le_refl _) _).alloc (by simp) _).alloc (by simp; omega) _⟩
    · have := heap_alloc_new (w.alloc (.cells (cfgA ⟨c_cores, nd, ln, pv, sn, c_near, c_sets, c_ways, c_slot, c_slots, c_turns, c_quantum, c_flush⟩ s) 43)) (.cells #[.int .i64 0, .slice none 0 0, .slice none 0 0] 92)
      rw [World.size_alloc] at this
      exact this
    · have := heap_alloc_new ((w.alloc (.cells (cfgA ⟨c_cores, nd, ln, pv, sn, c_near, c_sets, c_ways, c_slot, c_slots, c_turns, c_quantum, c_flush⟩ s) 43)).alloc (.cells #[.int .i64 0, .slice none 0 0, .slice none 0 0] 92)) (.cells #[.int .i64 ln, .slice none 0 0, .slice none 0 0] 92)
      rw [World.size_alloc, World.size_alloc] at this
      exact this
  have HP0 : Hid _ := hP0
  clear hP0
  go_enter Tryz.func106, Tryz.ntmps106
  go_wp2_with fail
  go_loopw [4] (fun u wr => ∃ (j : Nat) (va : Option Addr) (vc : Nat) (b bc : Nat → Nat), j ≤ nd ∧ u = .int .i64 j ∧ MemP w wr ⟨c_cores, nd, ln, pv, sn, c_near, c_sets, c_ways, c_slot, c_slots, c_turns, c_quantum, c_flush⟩ s ln j pv va vc b bc) (fun u _ => nd - (intOf u).toNat)
  case atStart => exact ⟨0, none, 0, _, _, by omega, rfl, HP0.out⟩
  case round =>
    obtain ⟨j, va, vc, b, bc, hj, rfl, hP⟩ := hrel
    have c1 : wr.cell? ⟨w.heap.size, 1, none⟩ = some (.int .i64 nd) := hP.cbox.cell 1
    have c3 : wr.cell? ⟨w.heap.size, 3, none⟩ = some (.int .i64 pv) := hP.cbox.cell 3
    have c4 : wr.cell? ⟨w.heap.size, 4, none⟩ = some (.int .i64 sn) := hP.cbox.cell 4
    have HP : Hid _ := hP
    clear hP
    by_cases hlt : j < nd
    · have hZ := kzeros_any pv p1 wr
      go_wp2_with fail
      refine hZ.mono ?_; rintro e w1 ⟨za, zc, rfl, hown, hb⟩
      obtain ⟨gl, lc, hv, hgl, hgl2⟩ := World.ownsRow.form hown p0
      simp only [Value.slice.injEq] at hv
      obtain ⟨rfl, _, rfl⟩ := hv
      have hcl := owns_cells hown (fun _ => .int .i64 0) (fun q hq => rep0_at hq)
      rw [Nat.mul_one] at hcl
      have P1 := HP.out.below hb
      have cb : w1.cell? ⟨w.heap.size + 1 + 1, 1, none⟩ = some (.slice va j vc) := P1.box.cell 1
      have HC : Hid _ := hcl
      have HP1 : Hid _ := P1
      have HB : Hid _ := hb
      have hbs := hb.size
      have LM : Hid (j + 1 ≤ maxLen) := by unfold Hid maxLen; omega
      have L8 : Hid ((j + 1) * 24 ≤ 140737488355328) := by unfold Hid; omega
      have HRJ : Hid _ := P1.row
      have lx : w.heap.size + 2 < w1.heap.size := P1.box.lt
      clear hown hcl P1 hZ c1 c3 c4
      go_wp2_with (at_builtin; refine wpList_append_lies _ rfl _ _ 41 rfl (w.heap.size + 3) 25 j0 _ 1 24 Tryz.underlying41 hj0 hy0 hy1 hy2 rfl (by decide) (.slice va j vc) j ((List.range j).map fun k => .slice (some ⟨b k, 0, none⟩) pv (bc k)) rfl ?p1 ⟨w1.heap.size, 0, none⟩ 1 1 [.slice (some ⟨gl, 0, none⟩) pv zc] ?p9 rfl ?p3 ?p4 (by omega) ?p5 ?p6 ?p7 _ rfl ?p8)
      case p1 => exact World.ownsRow.alloc HRJ.out _
      try case p3 => exact World.news_of_block (cs := #[.slice (some ⟨gl, 0, none⟩) pv zc]) (t := 25) (fr := (0, 0)) (heap_alloc_new w1 _)
      case p4 => simp [Value.oneCell']
      case p5 => exact LM.out
      case p6 => exact L8.out
      case p7 => simp; omega
      try case p9 => rfl
      case p8 =>
        intro gg cap2 w4 hown4 hgrow4 hat4 hlt4
        have hbA : Below w1.heap.size w1 (w1.alloc (.cells #[.slice (some ⟨gl, 0, none⟩) pv zc] 25)) := (Below.refl _ _).alloc (Nat.le_refl _) _
        have hM := HP.out.more (gl := gl) (lc := zc) HC.out.2.2.2.1 (HB.out.trans (hbA.mono hbs)) (HC.out.1.below hbA (Nat.le_refl _)) ⟨HC.out.2.1, HC.out.2.2.1⟩ hgrow4 hown4
        have rb : Row w4 (w.heap.size + 2) [.int .i64 ln, .slice va j vc, .slice none 0 0] 92 := by
          unfold Row
          rw [hgrow4.block _ (by simp; omega) (fun he => own_ne (World.ownsRow.alloc HRJ.out _) (HP1.out.box.below hbA lx) (by decide) he.symm)]
          exact HP1.out.box.below hbA lx
        have c4 : w4.cell? ⟨w.heap.size + 1 + 1, 1, none⟩ = some (.slice va j vc) := rb.cell 1
        have f4 : w4.frozen? ⟨w.heap.size + 1 + 1, 1, none⟩ = false := rb.frozen 1
        have HMM : Hid _ := hM
        clear hown4 hgrow4 hat4 hbA hM rb cb
        go_wp2_with fail
        go_roundw
        case rel => first | exact ⟨j + 1, _, _, _, _, by omega, by go_num, HMM.out⟩ | ((repeat apply Exists.intro); exact ⟨⟨j + 1, _, _, _, _, by omega, by go_num, HMM.out⟩, rfl⟩)
        case measure => simp [intOf]; omega
    · have ej : j = nd := by omega
      subst ej
      have hZ := kzeros_any sn (by omega) wr
      go_wp2_with fail
      refine hZ.mono ?_; rintro e w1 ⟨za, zc, rfl, hown, hb⟩
      have P1 := HP.out.below hb
      have cb0 : w1.cell? ⟨w.heap.size + 1 + 1, 0, none⟩ = some (.int .i64 ln) := P1.box.cell 0
      have cb1 : w1.cell? ⟨w.heap.size + 1 + 1, 1, none⟩ = some (.slice va j vc) := P1.box.cell 1
      have cb2 : w1.cell? ⟨w.heap.size + 1 + 1, 2, none⟩ = some (.slice none 0 0) := P1.box.cell 2
      have fb2 : w1.frozen? ⟨w.heap.size + 1 + 1, 2, none⟩ = false := P1.box.frozen 2
      have cr0 : w1.cell? ⟨w.heap.size + 1, 0, none⟩ = some (.int .i64 0) := P1.res.cell 0
      have cr1 : w1.cell? ⟨w.heap.size + 1, 1, none⟩ = some (.slice none 0 0) := P1.res.cell 1
      have cr2 : w1.cell? ⟨w.heap.size + 1, 2, none⟩ = some (.slice none 0 0) := P1.res.cell 2
      have fr0 := P1.res.frozen 0
      have fr1 := P1.res.frozen 1
      have fr2 := P1.res.frozen 2
      have q : Row ((((w1.setCell ⟨w.heap.size + 1 + 1, 2, none⟩ (.slice za sn zc)).setCell ⟨w.heap.size + 1, 0, none⟩ (.int .i64 ln)).setCell ⟨w.heap.size + 1, 1, none⟩ (.slice va j vc)).setCell ⟨w.heap.size + 1, 2, none⟩ (.slice za sn zc)) (w.heap.size + 1) [.int .i64 ln, .slice va j vc, .slice za sn zc] 92 := (((P1.res.setCellOther _ _ (by omega)).setCell 0 _).setCell 1 _).setCell 2 _
      have q0 := q.cell 0
      have q1 := q.cell 1
      have q2 := q.cell 2
      have hD := HP.out.done (W := (((w1.setCell ⟨w.heap.size + 1 + 1, 2, none⟩ (.slice za sn zc)).setCell ⟨w.heap.size + 1, 0, none⟩ (.int .i64 ln)).setCell ⟨w.heap.size + 1, 1, none⟩ (.slice va j vc)).setCell ⟨w.heap.size + 1, 2, none⟩ (.slice za sn zc)) hb hown h1 h0 p1 p0 s1 (fun g hg => by
        rw [Below.heap_setCell _ _ _ _ (by intro e; have : g = w.heap.size + 1 := e; omega), Below.heap_setCell _ _ _ _ (by intro e; have : g = w.heap.size + 1 := e; omega), Below.heap_setCell _ _ _ _ (by intro e; have : g = w.heap.size + 1 := e; omega), Below.heap_setCell _ _ _ _ (by intro e; have : g = w.heap.size + 1 + 1 := e; omega)]) (by simp [World.setCell])
      have HBL : Hid (Below w.heap.size w ((((w1.setCell ⟨w.heap.size + 1 + 1, 2, none⟩ (.slice za sn zc)).setCell ⟨w.heap.size + 1, 0, none⟩ (.int .i64 ln)).setCell ⟨w.heap.size + 1, 1, none⟩ (.slice va j vc)).setCell ⟨w.heap.size + 1, 2, none⟩ (.slice za sn zc))) := (((P1.bel.setCell (show w.heap.size ≤ w.heap.size + 1 + 1 by omega) _).setCell (show w.heap.size ≤ w.heap.size + 1 by omega) _).setCell (show w.heap.size ≤ w.heap.size + 1 by omega) _).setCell (show w.heap.size ≤ w.heap.size + 1 by omega) _
      have HD : Hid _ := hD
      clear hZ c1 c3 c4 hD q P1 hown
      go_wp2
      obtain ⟨X, e1, e2, e3, e4, hM, hx1, hx2⟩ := HD.out
      refine bodyPost_ret (v := .agg #[.int .i64 ln, .slice va j vc, .slice za sn zc]) (by simp [results, Tryz.results106, go_sem, q0, q1, q2]) rfl ⟨X, by rw [e1, e2, e3, e4], hM, HBL.out, hx1, hx2⟩
end Go.Proofs.YtehheaedbnfidaaGreat
