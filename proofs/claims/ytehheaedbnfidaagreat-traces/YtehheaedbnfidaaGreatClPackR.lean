/-
  NewA, NewB
-/
import Derived.Test.YtehheaedbnfidaaGreatClPackE
import Derived.Deep.AppendLies
namespace Go.Proofs.YtehheaedbnfidaaGreat
open Go.RowKit

theorem Tryz.infoIntsN : (Tryz.prog.info? 25).map (fun i => (i.zero, i.size, i.bytes)) = some (some (.slice none 0 0), 1, 24) := by kernel_rfl

set_option maxRecDepth 100000 in
set_option maxHeartbeats 1600000 in
theorem kzeros_any (n : Nat) (hn : n ≤ 64) (w : World) :
    Calls Tryz.prog 137 #[.int .i64 n] w fun e w' => ∃ za zc, e = .returned (.slice za n zc) ∧ w'.ownsRow w.heap.size 3 1 (.slice za n zc) n (List.replicate n (.int .i64 0)) ∧ Below w.heap.size w w' := by
  obtain ⟨i0, hi0, hz0, hz1, hz2⟩ := info_parts Tryz.infoInt
  go_enter Tryz.func137, Tryz.ntmps137
  go_wp2_with fail
  go_loopw [3, 4] (fun l u wr => ∃ (i : Nat) (za : Option Addr) (zc : Nat), i ≤ n ∧ u = .int .i64 i ∧ l = .slice za i zc ∧ wr.ownsRow w.heap.size 3 1 (.slice za i zc) i (List.replicate i (.int .i64 0)) ∧ Below w.heap.size w wr) (fun _ u _ => n - (intOf u).toNat)
  case atStart => exact ⟨0, none, 0, by omega, rfl, rfl, by simp [World.ownsRow], Below.refl _ _⟩
  case round =>
    obtain ⟨i, za, zc, hi, rfl, rfl, hown, hb⟩ := hrel
    have HO : Hid _ := hown
    have HB : Hid _ := hb
    have hbs := hb.size
    have HRW : Hid (∀ k, (Value.slice za i zc).ownBlock = some k → w.heap.size ≤ k) := fun k hk => (owns_lt hown k hk).2
    clear hown hb
    by_cases hlt : i < n
    · have LM : Hid (i + 1 ≤ maxLen) := by unfold Hid maxLen; omega
      have L8 : Hid ((i + 1) * 8 ≤ 140737488355328) := by unfold Hid; omega
      have LB : Hid (w.heap.size ≤ (wr.alloc (.cells #[.int .i64 0] 3)).heap.size) := by unfold Hid; simp; omega
      go_wp2_with (at_builtin; refine wpList_append_lies _ rfl _ _ 25 rfl w.heap.size 3 i0 (.int .i64 0) 1 8 Tryz.underlying25 hi0 hz0 hz1 hz2 rfl (by decide) (.slice za i zc) i (List.replicate i (.int .i64 0)) rfl ?o1 ⟨wr.heap.size, 0, none⟩ 1 1 [.int .i64 0] ?o9 rfl ?o3 ?o4 (by omega) ?o5 ?o6 ?o7 _ rfl ?o8)
      case o1 => exact World.ownsRow.alloc HO.out _
      try case o3 => exact World.news_of_block (cs := #[.int .i64 0]) (t := 3) (fr := (0, 0)) (heap_alloc_new wr _)
      case o4 => simp [Value.oneCell']
      case o5 => exact LM.out
      case o6 => exact L8.out
      case o7 => first | exact LB.out | omega
      try case o9 => rfl
      case o8 =>
        intro gg cap2 w4 hown4 hgrow4 hat4 hlt4
        have hb4 : Below w.heap.size w w4 := below_grown (HB.out.alloc hbs _) LB.out hgrow4 HRW.out
        have HB4 : Hid _ := hb4
        have HO4 : Hid (w4.ownsRow w.heap.size 3 1 (.slice (some ⟨gg, 0, none⟩) (i + 1) cap2) (i + 1) (List.replicate (i + 1) (.int .i64 0))) := by
          unfold Hid
          rw [List.replicate_succ']
          exact hown4
        clear hown4 hgrow4 hat4 hb4
        go_wp2_with fail
        go_roundw
        case rel => first | exact ⟨i + 1, _, cap2, by omega, by go_num, rfl, HO4.out, HB4.out⟩ | ((repeat apply Exists.intro); exact ⟨⟨i + 1, _, cap2, by omega, by go_num, rfl, HO4.out, HB4.out⟩, rfl⟩)
        case measure => simp [intOf]; omega
    · have ei : i = n := by omega
      subst ei
      go_wp2
      go_ret
      exact ⟨za, zc, rfl, HO.out, HB.out⟩

/-- A row that a call owns, cell by cell. -/
theorem owns_cells {w : World} {base g n cap size : Nat} {e : TypeId} {xs : List Value} (h : w.ownsRow base e size (.slice (some ⟨g, 0, none⟩) n cap) n xs) (f : Nat → Value) (hf : ∀ i, i < n * size → xs[i]? = some (f i)) : Cells w g (n * size) e f ∧ n ≤ cap ∧ cap ≤ maxLen ∧ base ≤ g ∧ g < w.heap.size := by
  have hl := owns_lt h g rfl
  obtain ⟨h1, h2⟩ := h
  rcases h2 with ⟨h3, _⟩ | ⟨g', cap', cur, hv, hg, hh, hn', hm, hs, ht⟩
  · cases h3
  · simp only [Value.slice.injEq, Option.some.injEq, Addr.mk.injEq] at hv
    obtain ⟨⟨rfl, _⟩, _, rfl⟩ := hv
    have hr : Row w g cur.toList e := by unfold Row; simpa using hh
    refine ⟨⟨cur.toList, hr, fun i hi => ?_⟩, hn', hm, hl.2, hl.1⟩
    have := hf i hi
    rw [← ht, List.getElem?_take, if_pos hi] at this
    exact this

abbrev cpL (c : Cp) : List Value := [.int .i64 c.dom, .int .i64 c.line, .int .i64 c.st]
theorem rep_at {n i : Nat} (hi : i < n * 3) : ((List.replicate n cpE).flatMap cpL)[i]? = some (cpV cpE (i % 3)) := by
  induction n generalizing i with
  | zero => omega
  | succ n ih =>
    rw [List.replicate_succ, List.flatMap_cons]
    by_cases h : i < 3
    · have : i = 0 ∨ i = 1 ∨ i = 2 := by omega
      rcases this with e | e | e <;> subst e <;> rfl
    · obtain ⟨j, rfl⟩ : ∃ j, i = j + 3 := ⟨i - 3, by omega⟩
      have := ih (i := j) (by omega)
      rw [show (j + 3) % 3 = j % 3 by omega, ← this]
      rfl
theorem Tryz.infoCopy : (Tryz.prog.info? 62).map (fun i => (i.zero, i.size, i.bytes)) = some (some (.agg #[.int .i64 0, .int .i64 0, .int .i64 0]), 3, 24) := by kernel_rfl
theorem Tryz.infoCopies : (Tryz.prog.info? 60).map (fun i => (i.zero, i.size, i.bytes)) = some (some (.slice none 0 0), 1, 24) := by kernel_rfl

/-- The near caches, as far as they are made. -/
structure NearP (w wr : World) (j nn : Nat) (va : Option Addr) (vc : Nat) (b bc : Nat → Nat) : Prop where
  box : Row wr (w.heap.size + 1) [.slice va j vc] 94
  res : Row wr w.heap.size [.slice none 0 0] 94
  row : wr.ownsRow (w.heap.size + 2) 60 1 (.slice va j vc) j ((List.range j).map fun k => .slice (some ⟨b k, 0, none⟩) nn (bc k))
  cel : ∀ k, k < j → Cells wr (b k) (nn * 3) 62 (fun i => cpV cpE (i % 3)) ∧ w.heap.size + 2 ≤ b k ∧ nn ≤ bc k ∧ bc k ≤ maxLen
  dis : ∀ i k, i < j → k < j → b i = b k → i = k
  bel : Below w.heap.size w wr

theorem NearP.below {w wr w' : World} {j nn : Nat} {va : Option Addr} {vc : Nat} {b bc : Nat → Nat} (h : NearP w wr j nn va vc b bc) (hb : Below wr.heap.size wr w') : NearP w w' j nn va vc b bc :=
  ⟨h.box.below hb h.box.lt, h.res.below hb h.res.lt, owns_same h.row fun g hg => hb.block g (owns_lt h.row g hg).1, fun k hk => ⟨(h.cel k hk).1.below hb (Nat.le_refl _), (h.cel k hk).2⟩, h.dis, h.bel.trans (hb.mono h.bel.size)⟩

/-- One core more. -/
theorem NearP.more {w wr w1 w2 : World} {j nn gl lc gg cap : Nat} {va : Option Addr} {vc : Nat} {b bc : Nat → Nat} (h : NearP w wr j nn va vc b bc) (h0 : wr.heap.size ≤ gl) (hb1 : Below wr.heap.size wr w1)
    (hc : Cells w1 gl (nn * 3) 62 (fun i => cpV cpE (i % 3))) (hl : nn ≤ lc ∧ lc ≤ maxLen) (hg : w1.grownBy w2 (Value.slice va j vc).ownBlock)
    (ho : w2.ownsRow (w.heap.size + 2) 60 1 (.slice (some ⟨gg, 0, none⟩) (j + 1) cap) (j + 1) (((List.range j).map fun k => .slice (some ⟨b k, 0, none⟩) nn (bc k)) ++ [.slice (some ⟨gl, 0, none⟩) nn lc])) :
    NearP w (w2.setCell ⟨w.heap.size + 1, 0, none⟩ (.slice (some ⟨gg, 0, none⟩) (j + 1) cap)) (j + 1) nn (some ⟨gg, 0, none⟩) cap (up1 b j gl) (up1 bc j lc) := by
  have h1 := h.below hb1
  have hsz := h.bel.size
  have hr2 : w.heap.size + 2 ≤ wr.heap.size := by have := h.box.lt; omega
  have n0 : ∀ {g A t}, Row w1 g A t → t ≠ 60 → Row w2 g A t := fun hr ht => by
    unfold Row
    rw [hg.block _ hr.lt (fun he => own_ne h1.row hr ht he.symm)]
    exact hr
  have n1 : ∀ {g n f}, Cells w1 g n 62 f → Cells w2 g n 62 f := fun ⟨cur, hr, hf⟩ => ⟨cur, n0 hr (by decide), hf⟩
  have hbox := n0 h1.box (by decide)
  have hne : ∀ g, w.heap.size + 2 ≤ g → g ≠ w.heap.size + 1 := fun g hg => by omega
  refine ⟨hbox.setCell 0 _, (n0 h1.res (by decide)).setCellOther _ _ (by omega), ?_, fun k hk => ?_, fun i k hi hk e => ?_, ?_⟩
  · have hL : ((List.range (j + 1)).map fun k => Value.slice (some ⟨up1 b j gl k, 0, none⟩) nn (up1 bc j lc k)) = ((List.range j).map fun k => .slice (some ⟨b k, 0, none⟩) nn (bc k)) ++ [.slice (some ⟨gl, 0, none⟩) nn lc] := by
      rw [List.range_succ, List.map_append]
      congr 1
      · apply List.map_congr_left
        intro k hk
        have : k ≠ j := by have := List.mem_range.1 hk; omega
        simp [up1, this]
      · simp [up1]
    rw [hL]
    exact owns_same ho fun g hg' => Below.heap_setCell _ _ _ _ (hne g (owns_lt ho g hg').2)
  · by_cases e : k = j
    · subst e
      simp only [up1, if_true]
      exact ⟨(n1 hc).setOther _ _ (by omega), by omega, hl⟩
    · have := h1.cel k (by omega)
      simp only [up1, e, if_false]
      exact ⟨(n1 this.1).setOther _ _ (hne _ this.2.1), this.2⟩
  · by_cases e1 : i = j <;> by_cases e2 : k = j
    · omega
    · subst e1
      simp only [up1, if_true, e2, if_false] at e
      have := (h.cel k (by omega)).1.lt
      omega
    · subst e2
      simp only [up1, if_true, e1, if_false] at e
      have := (h.cel i (by omega)).1.lt
      omega
    · simp only [up1, e1, e2, if_false] at e
      exact h.dis i k (by omega) (by omega) e
  · exact (below_grown h1.bel (by have := h1.box.lt; omega) hg (fun g hg' => by have := (owns_lt h1.row g hg').2; omega)).setCell (show w.heap.size ≤ w.heap.size + 1 by omega) _
end Go.Proofs.YtehheaedbnfidaaGreat

namespace Go.Proofs.YtehheaedbnfidaaGreat
open Go.RowKit

set_option maxRecDepth 100000 in
set_option maxHeartbeats 3200000 in
theorem nnew_any (nc nn : Nat) (hc : nc ≤ 3) (hc0 : 0 < nc) (hn : nn ≤ 4) (hn0 : 0 < nn) (w : World) :
    Calls Tryz.prog 107 #[.int .i64 nc, .int .i64 nn] w fun e w' => ∃ X : NLoc, e = .returned (.agg #[.slice (some ⟨X.r, 0, none⟩) nc X.rc]) ∧ NearM w' nc nn X (fun _ _ => cpE) ∧ Below w.heap.size w w' ∧ w.heap.size ≤ X.r ∧ ∀ k, k < nc → w.heap.size ≤ X.b k := by
  obtain ⟨i0, hi0, hz0, hz1, hz2⟩ := info_parts Tryz.infoCopy
  obtain ⟨j0, hj0, hy0, hy1, hy2⟩ := info_parts Tryz.infoCopies
  go_enter Tryz.func107, Tryz.ntmps107
  go_wp2_with fail
  have hP0 : NearP w ((w.alloc (.cells #[.slice none 0 0] 94)).alloc (.cells #[.slice none 0 0] 94)) 0 nn none 0 (fun _ => 0) (fun _ => 0) := by
    refine ⟨?_, Row.alloc (heap_alloc_new w _) _, by simp [World.ownsRow], fun k hk => by omega, fun i k hi => by omega, ((Below.refl _ _).alloc (Nat.le_refl _) _).alloc (by simp) _⟩
    have := heap_alloc_new (w.alloc (.cells #[.slice none 0 0] 94)) (.cells #[.slice none 0 0] 94)
    rw [World.size_alloc] at this
    exact this
  have HP0 : Hid _ := hP0
  clear hP0
  go_loopw [6] (fun u wr => ∃ (j : Nat) (va : Option Addr) (vc : Nat) (b bc : Nat → Nat), j ≤ nc ∧ u = .int .i64 j ∧ NearP w wr j nn va vc b bc) (fun u _ => nc - (intOf u).toNat)
  case atStart => exact ⟨0, none, 0, _, _, by omega, rfl, HP0.out⟩
  case round =>
    obtain ⟨j, va, vc, b, bc, hj, rfl, hP⟩ := hrel
    have HP : Hid _ := hP
    by_cases hlt : j < nc
    · obtain ⟨wo, hwo⟩ : ∃ wo, wo = wr := ⟨_, rfl⟩
      have HWO : Hid _ := hwo
      clear hP hwo
      go_wp2_with fail
      go_loopw [7, 8] (fun l u wx => ∃ (i : Nat) (la : Option Addr) (lc : Nat), i ≤ nn ∧ u = .int .i64 i ∧ l = .slice la i lc ∧ wx.ownsRow wo.heap.size 62 3 (.slice la i lc) i ((List.replicate i cpE).flatMap cpL) ∧ Below wo.heap.size wo wx) (fun _ u _ => nn - (intOf u).toNat)
      case atStart => exact ⟨0, none, 0, by omega, rfl, rfl, by simp [World.ownsRow], by rw [HWO.out]; exact Below.refl _ _⟩
      case round =>
        obtain ⟨i, la, lc, hi, rfl, rfl, hown, hb⟩ := hrel
        have HO : Hid _ := hown
        have HB : Hid _ := hb
        have hbs := hb.size
        have HRW : Hid (∀ k, (Value.slice la i lc).ownBlock = some k → wo.heap.size ≤ k) := fun k hk => (owns_lt hown k hk).2
        clear hb
        by_cases hli : i < nn
        · have LM : Hid (i + 1 ≤ maxLen) := by unfold Hid maxLen; omega
          have L8 : Hid ((i + 1) * 24 ≤ 140737488355328) := by unfold Hid; omega
          clear hown
          go_wp2_with (first
            | (go_at_call 138; refine (nempty_any _).mono ?_; rintro e w2 ⟨rfl, rfl⟩)
            | (at_builtin; refine wpList_append_lies _ rfl _ _ 60 rfl wo.heap.size 62 i0 _ 3 24 Tryz.underlying60 hi0 hz0 hz1 hz2 rfl (by decide) (.slice la i lc) i ((List.replicate i cpE).flatMap cpL) rfl ?o1 ⟨wr.heap.size + 1, 0, none⟩ 1 1 (cpL cpE) ?o9 rfl ?o3 ?o4 (by omega) ?o5 ?o6 ?o7 _ rfl ?o8))
          case o1 => exact World.ownsRow.alloc (World.ownsRow.alloc HO.out _) _
          case o3 =>
            have hnb := heap_alloc_new (wr.alloc (.cells #[.int .i64 (-1), .int .i64 (-1), .int .i64 0] 62)) (.cells #[.int .i64 (-1), .int .i64 (-1), .int .i64 0] 62)
            rw [World.size_alloc] at hnb
            exact World.news_of_block (cs := #[.int .i64 (-1), .int .i64 (-1), .int .i64 0]) (t := 62) (fr := (0, 0)) hnb
          case o4 => simp [Value.oneCell']
          case o5 => exact LM.out
          case o6 => exact L8.out
          case o7 => simp; omega
          case o9 => rfl
          case o8 =>
            intro gg cap2 w4 hown4 hgrow4 hat4 hlt4
            have hb4 : Below wo.heap.size wo w4 := below_grown ((HB.out.alloc hbs _).alloc (by simp; omega) _) (by simp; omega) hgrow4 HRW.out
            have HB4 : Hid _ := hb4
            have HO4 : Hid (w4.ownsRow wo.heap.size 62 3 (.slice (some ⟨gg, 0, none⟩) (i + 1) cap2) (i + 1) ((List.replicate (i + 1) cpE).flatMap cpL)) := by
              unfold Hid
              rw [List.replicate_succ', List.flatMap_append]
              exact hown4
            clear hown4 hgrow4 hat4 hb4
            go_wp2_with fail
            go_roundw
            case rel => first | exact ⟨i + 1, _, cap2, by omega, by go_num, rfl, HO4.out, HB4.out⟩ | ((repeat apply Exists.intro); exact ⟨⟨i + 1, _, cap2, by omega, by go_num, rfl, HO4.out, HB4.out⟩, rfl⟩)
            case measure => simp [intOf]; omega
        · have ei : i = nn := by omega
          subst ei
          obtain ⟨gl, lc', hv, hgl, hgl2⟩ := World.ownsRow.form hown hn0
          simp only [Value.slice.injEq] at hv
          obtain ⟨rfl, _, rfl⟩ := hv
          have hcl := owns_cells hown (fun i => cpV cpE (i % 3)) (fun q hq => rep_at hq)
          have P0 := HP.out
          rw [← HWO.out] at P0
          have P1 := P0.below HB.out
          have cb : wr.cell? ⟨w.heap.size + 1, 0, none⟩ = some (.slice va j vc) := P1.box.cell 0
          have fb := P1.box.frozen 0
          have lb := P1.box.lt
          have HC : Hid _ := hcl
          have HP1 : Hid _ := P1
          have HP00 : Hid _ := P0
          have LM : Hid (j + 1 ≤ maxLen) := by unfold Hid maxLen; omega
          have L8 : Hid ((j + 1) * 24 ≤ 140737488355328) := by unfold Hid; omega
          have HRJ : Hid _ := P1.row
          clear hown hcl P0 P1
          go_wp2_with (at_builtin; refine wpList_append_lies _ rfl _ _ 31 rfl (w.heap.size + 2) 60 j0 _ 1 24 Tryz.underlying31 hj0 hy0 hy1 hy2 rfl (by decide) (.slice va j vc) j ((List.range j).map fun k => .slice (some ⟨b k, 0, none⟩) i (bc k)) rfl ?p1 ⟨wr.heap.size, 0, none⟩ 1 1 [.slice (some ⟨gl, 0, none⟩) i lc] ?p9 rfl ?p3 ?p4 (by omega) ?p5 ?p6 ?p7 _ rfl ?p8)
          case p1 => exact World.ownsRow.alloc HRJ.out _
          try case p3 => exact World.news_of_block (cs := #[.slice (some ⟨gl, 0, none⟩) i lc]) (t := 60) (fr := (0, 0)) (heap_alloc_new wr _)
          case p4 => simp [Value.oneCell']
          case p5 => exact LM.out
          case p6 => exact L8.out
          case p7 => simp; omega
          try case p9 => rfl
          case p8 =>
            intro gg cap2 w4 hown4 hgrow4 hat4 hlt4
            have hbA : Below wr.heap.size wr (wr.alloc (.cells #[.slice (some ⟨gl, 0, none⟩) i lc] 60)) := (Below.refl _ _).alloc (Nat.le_refl _) _
            have hM := HP00.out.more (gl := gl) (lc := lc) HC.out.2.2.2.1 (HB.out.trans (hbA.mono hbs)) (HC.out.1.below hbA (Nat.le_refl _)) ⟨HC.out.2.1, HC.out.2.2.1⟩ hgrow4 hown4
            have rb : Row w4 (w.heap.size + 1) [.slice va j vc] 94 := by
              unfold Row
              rw [hgrow4.block _ (by simp; omega) (fun he => own_ne (World.ownsRow.alloc HRJ.out _) (HP1.out.box.below hbA lb) (by decide) he.symm)]
              exact HP1.out.box.below hbA lb
            have c4 : w4.cell? ⟨w.heap.size + 1, 0, none⟩ = some (.slice va j vc) := rb.cell 0
            have f4 := rb.frozen 0
            have HMM : Hid _ := hM
            clear hown4 hgrow4 hat4 hbA hM rb cb fb lb
            go_wp2_with fail
            go_roundw
            case rel => first | exact ⟨j + 1, _, _, _, _, by omega, by go_num, HMM.out⟩ | ((repeat apply Exists.intro); exact ⟨⟨j + 1, _, _, _, _, by omega, by go_num, HMM.out⟩, rfl⟩)
            case measure => simp [intOf]; omega
    · have ej : j = nc := by omega
      subst ej
      have cb : wr.cell? ⟨w.heap.size + 1, 0, none⟩ = some (.slice va j vc) := hP.box.cell 0
      have cr : wr.cell? ⟨w.heap.size, 0, none⟩ = some (.slice none 0 0) := hP.res.cell 0
      have fr := hP.res.frozen 0
      have q : Row (wr.setCell ⟨w.heap.size, 0, none⟩ (.slice va j vc)) w.heap.size [.slice va j vc] 94 := hP.res.setCell 0 _
      have q0 := q.cell 0
      obtain ⟨g, cap, hv, hg1, hg2⟩ := World.ownsRow.form hP.row hc0
      simp only [Value.slice.injEq] at hv
      obtain ⟨rfl, _, rfl⟩ := hv
      have hrow := owns_cells hP.row (fun k => .slice (some ⟨b k, 0, none⟩) nn (bc k)) (fun k hk => by
        rw [List.getElem?_map, List.getElem?_range (by omega)]; rfl)
      rw [Nat.mul_one] at hrow
      have hNM : NearM (wr.setCell ⟨w.heap.size, 0, none⟩ (.slice (some ⟨g, 0, none⟩) j vc)) j nn ⟨g, vc, b, bc⟩ (fun _ _ => cpE) :=
        ⟨hrow.1.setOther _ _ (show g ≠ w.heap.size by have := hrow.2.2.2.1; omega), fun k hk => (hP.cel k hk).1.setOther _ _ (show b k ≠ w.heap.size by have := (hP.cel k hk).2.1; omega), ⟨hrow.2.1, hrow.2.2.1⟩, fun k hk => (hP.cel k hk).2.2, hP.dis, hn0, hn, hc⟩
      have HNM : Hid _ := hNM
      have HBL : Hid (Below w.heap.size w (wr.setCell ⟨w.heap.size, 0, none⟩ (.slice (some ⟨g, 0, none⟩) j vc))) := hP.bel.setCell (Nat.le_refl _) _
      have HX : Hid (w.heap.size ≤ g ∧ ∀ k, k < j → w.heap.size ≤ b k) := ⟨by have := hrow.2.2.2.1; omega, fun k hk => by have := (hP.cel k hk).2.1; omega⟩
      clear hP HP hrow hNM q
      go_wp2
      refine bodyPost_ret (v := .agg #[.slice (some ⟨g, 0, none⟩) j vc]) (by simp [results, Tryz.results107, go_sem, q0]) rfl ⟨⟨g, vc, b, bc⟩, rfl, HNM.out, HBL.out, HX.out.1, HX.out.2⟩
end Go.Proofs.YtehheaedbnfidaaGreat
