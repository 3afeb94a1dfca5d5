/-
  Far4, Mem3
-/
import Derived.Test.YtehheaedbnfidaaGreatClPackF
import Derived.Deep.AppendLies
import Derived.Test.YtehheaedbnfidaaGreatClPackG
namespace Go.Proofs.YtehheaedbnfidaaGreat
open Go.RowKit

/-- The touches of the set q lie elsewhere now. -/
def FLoc.touched (X : FLoc) (q g len cap : Nat) : FLoc := { X with ta := up1 X.ta q (some ⟨g, 0, none⟩), tl := up1 X.tl q len, tc := up1 X.tc q cap }

theorem without_snoc {xs : List Int} {i : Nat} (hi : i < xs.length) (j : Int) : without j (xs.take (i + 1)) = without j (xs.take i) ++ if xs.getD i 0 = j then [] else [xs.getD i 0] := by
  unfold without
  rw [List.take_add_one, List.filter_append, List.getElem?_eq_getElem hi]
  have : xs.getD i 0 = xs[i] := by simp [List.getD, hi]
  rw [this]
  by_cases h : xs[i] = j <;> simp [h]
theorem without_le (j : Int) (l : List Int) : (without j l).length ≤ l.length := List.length_filter_le _ _
theorem without_mem {j e : Int} {l : List Int} (h : e ∈ without j l) : e ∈ l ∧ e ≠ j := by
  unfold without at h
  rw [List.mem_filter] at h
  exact ⟨h.1, by simpa using h.2⟩

theorem FarM.touch {w w1 : World} {ns wn : Nat} {X : FLoc} {blk : Nat → Nat → Bk} {tch : Nat → List Int} (h : FarM w ns wn X blk tch) (hb : Below w.heap.size w w1) {q g cap : Nat} (hq : q < ns) (l : List Int) (hg : w.heap.size ≤ g) (hi : ∀ k, X.ints ns k → k ≠ X.r)
    (hl : Ints w1 (some ⟨g, 0, none⟩) l.length cap l) (hn : ∀ e, e ∈ l → 0 ≤ e ∧ e < (wn : Int)) (hd : l.Nodup) :
    FarM (w1.setCell ⟨X.r, q * 2 + 1, none⟩ (.slice (some ⟨g, 0, none⟩) l.length cap)) ns wn (X.touched q g l.length cap) blk (up1 tch q l) ∧ Touch (X.own ns) w (w1.setCell ⟨X.r, q * 2 + 1, none⟩ (.slice (some ⟨g, 0, none⟩) l.length cap)) := by
  have h1 := h.below hb (Nat.le_refl _)
  have lr := h.row.lt
  have hb' : ∀ s, s < ns → X.b s ≠ X.r := fun s hs e => absurd (h.row.type (e ▸ h.cel s hs)) (by decide)
  refine ⟨⟨?_, fun s hs => (h1.cel s hs).setOther _ _ (hb' s hs), fun s hs => ?_, h.rcap, h.bcap, h.dis, h.n0, h.n1, h.w0, h.w1, h.sm, fun s hs e he => ?_, fun s hs => ?_⟩, (Touch.of_below hb (Nat.le_refl _)).trans (Touch.setCell _ _ _ _ (Or.inl rfl))⟩
  · refine (h1.row.set _ _).congr fun i hi => ?_
    unfold setV FLoc.touched up1
    by_cases e : i = q * 2 + 1
    · subst e
      rw [if_pos rfl, if_neg (by omega)]
      simp [show (q * 2 + 1) / 2 = q by omega]
    · rw [if_neg e]
      by_cases e2 : i % 2 = 0
      · simp [e2]
      · have : i / 2 ≠ q := by omega
        simp [e2, this]
  · unfold FLoc.touched up1
    by_cases e : s = q
    · subst e
      simp only [if_true]
      refine hl.same fun b off eb => Below.heap_setCell _ _ _ _ ?_
      simp only [Option.some.injEq, Addr.mk.injEq] at eb
      intro e2
      have : b = X.r := e2
      omega
    · simp only [e, if_false]
      exact (h1.tcs s hs).same fun b off eb => Below.heap_setCell _ _ _ _ (hi b ⟨s, off, hs, eb⟩)
  · unfold up1 at he
    by_cases e2 : s = q
    · rw [if_pos e2] at he; exact hn e he
    · rw [if_neg e2] at he; exact h.tin s hs e he
  · unfold up1
    by_cases e2 : s = q
    · rw [if_pos e2]; exact hd
    · rw [if_neg e2]; exact h.tno s hs

/-- A row that a call owns reads as integers. -/
theorem owns_list {w : World} {base g n cap : Nat} {xs : List Int} (h : w.ownsRow base 3 1 (.slice (some ⟨g, 0, none⟩) n cap) n (xs.map (Value.int .i64))) : Ints w (some ⟨g, 0, none⟩) n cap xs := by
  obtain ⟨h1, h2⟩ := h
  rw [List.length_map] at h1
  rcases h2 with ⟨h3, _⟩ | ⟨g', cap', cur, hv, hg, hh, hn', hm, hs, ht⟩
  · cases h3
  · simp only [Value.slice.injEq, Option.some.injEq, Addr.mk.injEq] at hv
    obtain ⟨⟨rfl, _⟩, _, rfl⟩ := hv
    refine ⟨by omega, hn', hm, (fun e => by cases e), fun i hi => ⟨g, 0, rfl, ?_⟩⟩
    have hr : Row w g cur.toList 3 := by unfold Row; simpa using hh
    rw [Nat.zero_add, hr.cell]
    have : (cur.toList.take (n * 1))[i]? = some (.int .i64 (xs.getD i 0)) := by
      rw [ht, List.getElem?_map, List.getElem?_eq_getElem (by omega)]
      simp [List.getD, show i < xs.length by omega]
    rwa [List.getElem?_take, if_pos (by omega)] at this

set_option maxRecDepth 100000 in
set_option maxHeartbeats 3200000 in
theorem fTouch_any (ns wn : Nat) (X : FLoc) (blk : Nat → Nat → Bk) (tch : Nat → List Int) (g o x q j : Nat) (w : World) (h : FarM w ns wn X blk tch) (hi : ∀ k, X.ints ns k → k ≠ X.r) (hp : w.cell? ⟨g, o, none⟩ = some (.slice (some ⟨X.r, 0, none⟩) ns X.rc)) (hx : x ≤ 1000000) (hq : Hid (q = x % ns)) (hj : j < wn) :
    Calls Tryz.prog 152 #[.pointer (some ⟨g, o, none⟩), .int .i64 x, .int .i64 j] w fun e w' => e = .returned (.tuple #[]) ∧ ∃ gg cap, w.heap.size ≤ gg ∧ gg < w'.heap.size ∧ FarM w' ns wn (X.touched q gg (touchF (tch q) j).length cap) blk (up1 tch q (touchF (tch q) j)) ∧ Touch (X.own ns) w w' := by
  have hqs : q < ns := by rw [hq.out]; exact Nat.mod_lt _ h.n0
  obtain ⟨i0, hi0, hz0, hz1, hz2⟩ := info_parts Tryz.infoInt
  obtain ⟨e1, e2⟩ := h.setAt hqs
  have n1 := h.n1
  have w1 := h.w1
  have lg : g < w.heap.size := cell_lt hp
  have l1 := h.row.lt
  have tq := h.tcs q hqs
  have tl := tq.hlen
  have tl4 : X.tl q ≤ 4 := by have := nodup_le wn _ (h.tno q hqs) (h.tin q hqs); omega
  have HTI := h.tin q hqs
  have HM : Hid _ := h
  have HI : Hid _ := hi
  have HTL : Hid _ := tl
  have hjw : ¬ wn ≤ j := by omega
  clear h hi tl
  go_enter Tryz.func152, Tryz.ntmps152
  go_wp2_with (go_at_call 158; refine (fsetOf_any ns X g o x q _ hp HM.out.n0 HM.out.n1 hx hq).mono ?_; rintro e w' ⟨rfl, rfl⟩)
  rename World => w
  go_loopw [7, 8] (fun ov u wr => ∃ (i : Nat) (oa : Option Addr) (ol oc : Nat), i ≤ X.tl q ∧ u = .int .i64 i ∧ ov = .slice oa ol oc ∧ ol = (without j ((tch q).take i)).length ∧ wr.ownsRow w.heap.size 3 1 (.slice oa ol oc) ol ((without j ((tch q).take i)).map (Value.int .i64)) ∧ Below w.heap.size w wr) (fun _ u _ => X.tl q - (intOf u).toNat)
  case atStart => exact ⟨0, none, 0, 0, by omega, rfl, rfl, by simp [without], by simp [without, World.ownsRow], Below.refl _ _⟩
  case round =>
    obtain ⟨i, oa, ol, oc, hi, rfl, rfl, hol, hown, hb⟩ := hrel
    have HO : Hid _ := hown
    have HB : Hid _ := hb
    have HL : Hid _ := hol
    have r0 := (hb.cell (p := ⟨g, o, none⟩) lg).trans hp
    have r1 := (hb.cell (p := ⟨X.r, q * 2, none⟩) l1).trans e1
    have r2 := (hb.cell (p := ⟨X.r, q * 2 + 1, none⟩) l1).trans e2
    have tr := tq.below hb (Nat.le_refl _)
    have ho4 : ol ≤ 4 := by
      have := without_le j ((tch q).take i)
      have h2 := List.length_take_le i (tch q)
      omega
    have hbs := hb.size
    have HRW : Hid (∀ k, (Value.slice oa ol oc).ownBlock = some k → w.heap.size ≤ k) := fun k hk => (owns_lt hown k hk).2
    clear hown hb hol
    by_cases hlt : i < X.tl q
    · obtain ⟨b, off, ha, hc⟩ := tr.hat i hlt
      have HF : Hid _ := without_snoc (xs := tch q) (i := i) (by rw [HTL.out]; exact hlt) j
      rw [ha] at r2
      obtain ⟨y, hy⟩ : ∃ y, (tch q).getD i 0 = y := ⟨_, rfl⟩
      rw [hy] at hc HF
      have lc := cell_lt hc
      clear hy ha
      by_cases hyj : y = (j : Int)
      · have HF2 : Hid _ := HF.out
        rw [hyj] at hc
        clear HF
        go_wp2_with fail
        go_roundw
        case rel => exact ⟨i + 1, oa, ol, oc, by omega, by go_num, rfl, by rw [HF2.out, if_pos hyj, List.append_nil]; exact HL.out, by rw [HF2.out, if_pos hyj, List.append_nil]; exact HO.out, HB.out⟩
        case measure => simp [intOf]; omega
      · have HF2 : Hid _ := HF.out
        have hyb : (y == (j : Int)) = false := by simp [hyj]
        have HY : Hid _ := hyj
        clear HF hyj
        have LM : Hid (ol + 1 ≤ maxLen) := by unfold Hid maxLen; omega
        have L8 : Hid ((ol + 1) * 8 ≤ 140737488355328) := by unfold Hid; omega
        have LB : Hid (w.heap.size ≤ (wr.alloc (.cells #[.int .i64 y] 3)).heap.size) := by unfold Hid; simp; omega
        go_wp2_with (at_builtin; refine wpList_append_lies _ rfl _ _ 25 rfl w.heap.size 3 i0 (.int .i64 0) 1 8 Tryz.underlying25 hi0 hz0 hz1 hz2 rfl (by decide) (.slice oa ol oc) ol ((without j ((tch q).take i)).map (Value.int .i64)) rfl ?o1 ⟨wr.heap.size, 0, none⟩ 1 1 [.int .i64 y] ?o9 rfl ?o3 ?o4 (by omega) ?o5 ?o6 ?o7 _ rfl ?o8)
        case o1 => exact World.ownsRow.alloc HO.out _
        try case o3 => exact World.news_of_block (cs := #[.int .i64 y]) (t := 3) (fr := (0, 0)) (heap_alloc_new wr _)
        case o4 => simp [Value.oneCell']
        case o5 => exact LM.out
        case o6 => exact L8.out
        case o7 => first | exact LB.out | omega
        try case o9 => rfl
        case o8 =>
          intro gg cap2 w4 hown4 hgrow4 hat4 hlt4
          have hb4 : Below w.heap.size w w4 := below_grown (HB.out.alloc hbs _) LB.out hgrow4 HRW.out
          have HB4 : Hid _ := hb4
          have HO4 : Hid _ := hown4
          clear hown4 hgrow4 hat4 hb4
          go_wp2_with fail
          go_roundw
          case rel => first | exact ⟨i + 1, some ⟨gg, 0, none⟩, ol + 1, cap2, by omega, by go_num, rfl, by rw [HF2.out, if_neg HY.out, List.length_append, ← HL.out]; rfl, by rw [HF2.out, if_neg HY.out, List.map_append]; exact HO4.out, HB4.out⟩ | ((repeat apply Exists.intro); exact ⟨⟨i + 1, some ⟨gg, 0, none⟩, ol + 1, cap2, by omega, by go_num, rfl, by rw [HF2.out, if_neg HY.out, List.length_append, ← HL.out]; rfl, by rw [HF2.out, if_neg HY.out, List.map_append]; exact HO4.out, HB4.out⟩, rfl⟩)
          case measure => simp [intOf]; omega
    · have ei : i = X.tl q := by omega
      have HL2 : Hid (without j ((tch q).take i) = without j (tch q)) := by unfold Hid; rw [List.take_of_length_le (by rw [HTL.out, ei]; exact Nat.le_refl _)]
      have LM : Hid (ol + 1 ≤ maxLen) := by unfold Hid maxLen; omega
      have L8 : Hid ((ol + 1) * 8 ≤ 140737488355328) := by unfold Hid; omega
      have LB : Hid (w.heap.size ≤ (wr.alloc (.cells #[.int .i64 (j : Int)] 3)).heap.size) := by unfold Hid; simp; omega
      clear ei
      go_wp2_with (at_builtin; refine wpList_append_lies _ rfl _ _ 25 rfl w.heap.size 3 i0 (.int .i64 0) 1 8 Tryz.underlying25 hi0 hz0 hz1 hz2 rfl (by decide) (.slice oa ol oc) ol ((without j ((tch q).take i)).map (Value.int .i64)) rfl ?p1 ⟨wr.heap.size, 0, none⟩ 1 1 [.int .i64 (j : Int)] ?p9 rfl ?p3 ?p4 (by omega) ?p5 ?p6 ?p7 _ rfl ?p8)
      case p1 => exact World.ownsRow.alloc HO.out _
      try case p3 => exact World.news_of_block (cs := #[.int .i64 (j : Int)]) (t := 3) (fr := (0, 0)) (heap_alloc_new wr _)
      case p4 => simp [Value.oneCell']
      case p5 => exact LM.out
      case p6 => exact L8.out
      case p7 => first | exact LB.out | omega
      try case p9 => rfl
      case p8 =>
        intro gg cap2 w4 hown4 hgrow4 hat4 hlt4
        have hb4 : Below w.heap.size w w4 := below_grown (HB.out.alloc hbs _) LB.out hgrow4 HRW.out
        have hgg : w.heap.size ≤ gg := (owns_lt hown4 gg rfl).2
        have HE : Hid (touchF (tch q) j = without j ((tch q).take i) ++ [(j : Int)]) := by unfold Hid touchF; rw [HL2.out]
        have hE1 : (touchF (tch q) j).length = ol + 1 := by rw [HE.out, List.length_append, ← HL.out]; rfl
        have hin : Ints w4 (some ⟨gg, 0, none⟩) (touchF (tch q) j).length cap2 (touchF (tch q) j) := by
          rw [hE1]
          refine owns_list (base := w.heap.size) ?_
          rw [HE.out, List.map_append]
          exact hown4
        have HFT : Hid _ := HM.out.touch hb4 hqs (touchF (tch q) j) hgg HI.out hin (fun e he => by
          unfold touchF at he
          rw [List.mem_append] at he
          rcases he with he | he
          · exact HTI e (without_mem he).1
          · rw [List.mem_singleton] at he
            omega) (by
          unfold touchF
          rw [List.nodup_append]
          refine ⟨(HM.out.tno q hqs).filter _, by simp, ?_⟩
          intro a ha b hb2
          rw [List.mem_singleton] at hb2
          subst hb2
          exact (without_mem ha).2)
        rw [hE1] at HFT
        have s0 := (hb4.cell (p := ⟨g, o, none⟩) lg).trans hp
        have s2 := (hb4.cell (p := ⟨X.r, q * 2 + 1, none⟩) l1).trans e2
        have sf := (hb4.frozen (p := ⟨X.r, q * 2 + 1, none⟩) l1).trans (HM.out.row.frozen _)
        have HLT : Hid _ := hlt4
        have HE1 : Hid _ := hE1
        clear hown4 hgrow4 hat4 hin hE1 r0 r1 r2
        go_wp2
        refine bodyPost_end (results_none rfl _ _ _) rfl ?_
        exact ⟨rfl, gg, cap2, hgg, by simpa [World.setCell] using HLT.out, by rw [HE1.out]; exact HFT.out.1, HFT.out.2⟩
end Go.Proofs.YtehheaedbnfidaaGreat

namespace Go.Proofs.YtehheaedbnfidaaGreat
open Go.RowKit

def partM (pv y : Nat) (own wd : Nat → Int) (i : Nat) : Nat → Int := fun a => if y ≤ a ∧ a < y + i ∧ a < pv then wd (a - y) else own a

theorem part_step {pv y i : Nat} {own wd : Nat → Int} : partM pv y own wd (i + 1) = if y + i < pv then up1 (partM pv y own wd i) (y + i) (wd i) else partM pv y own wd i := by
  funext a
  by_cases h : y + i < pv
  · rw [if_pos h]
    unfold partM up1
    dsimp only
    by_cases e : a = y + i
    · subst e
      rw [if_pos (by omega), if_pos rfl, Nat.add_sub_cancel_left]
    · rw [if_neg e]
      by_cases c : y ≤ a ∧ a < y + i ∧ a < pv
      · rw [if_pos (by omega), if_pos c]
      · rw [if_neg (by omega), if_neg c]
  · rw [if_neg h]
    unfold partM
    by_cases c : y ≤ a ∧ a < y + i ∧ a < pv
    · rw [if_pos (by omega), if_pos c]
    · rw [if_neg (by omega), if_neg c]

theorem up1_up1 {α : Type} (f : Nat → α) (i : Nat) (u v : α) : up1 (up1 f i u) i v = up1 f i v := by
  funext j
  unfold up1
  by_cases e : j = i <;> simp [e]
theorem up1_self {α : Type} (f : Nat → α) (i : Nat) : up1 f i (f i) = f := by
  funext j
  unfold up1
  by_cases e : j = i <;> simp [e]
theorem up1_at {α : Type} (f : Nat → α) (i : Nat) (v : α) : up1 f i v i = v := by simp [up1]

theorem wdL_at (F : Nat → Int) {i : Nat} (hi : i < 4) : (wdL F)[i]? = some (.int .i64 (F i)) := by
  have : i = 0 ∨ i = 1 ∨ i = 2 ∨ i = 3 := by omega
  rcases this with e | e | e | e <;> subst e <;> rfl

set_option maxRecDepth 100000 in
set_option maxHeartbeats 3200000 in
theorem mWrite_any (nd pv sn ln : Nat) (X : ELoc) (own : Nat → Nat → Int) (sh : Nat → Int) (g o d x : Nat) (F : Nat → Int) (w : World) (h : MemM w nd pv sn X own sh) (hp0 : w.cell? ⟨g, o, none⟩ = some (.int .i64 ln)) (hp : w.cell? ⟨g, o + 1, none⟩ = some (.slice (some ⟨X.r, 0, none⟩) nd X.rc)) (hg : ¬ X.own nd g) (hsb : X.sb < w.heap.size) (hd : d < nd) (hx : x ≤ 1000) (hln : ln = 1 ∨ ln = 2 ∨ ln = 4) :
    Calls Tryz.prog 163 #[.pointer (some ⟨g, o, none⟩), .int .i64 d, .int .i64 x, .agg (wdA F)] w fun e w' => e = .returned (.tuple #[]) ∧ MemM w' nd pv sn X (up1 own d (writeM pv ln (own d) x F)) sh ∧ Touch (X.own nd) w w' := by
  have lg := cell_lt hp0
  obtain ⟨y, hy⟩ : ∃ y, x * ln = y := ⟨_, rfl⟩
  have hy2 : y ≤ 4000 := by rw [← hy]; rcases hln with e | e | e <;> subst e <;> omega
  have hyI : (x : Int) * (ln : Int) = (y : Int) := by rw [← hy]; simp
  have hl4 : ln ≤ 4 := by omega
  have HWR : Hid (writeM pv ln (own d) x F = partM pv y (own d) F ln) := by
    unfold Hid writeM partM
    rw [hy]
    funext a
    by_cases c : y ≤ a ∧ a < y + ln ∧ a < pv
    · rw [if_pos (by omega), if_pos c]
    · rw [if_neg (by omega), if_neg c]
  have hW0 : Row (w.alloc (.cells (wdA F) 169)) w.heap.size (wdL F) 169 := heap_alloc_new w _
  have hB0 : Below w.heap.size w (w.alloc (.cells (wdA F) 169)) := (Below.refl _ _).alloc (Nat.le_refl _) _
  have hT0 : Touch (X.own nd) w (w.alloc (.cells (wdA F) 169)) := Touch.of_below hB0 (Nat.le_refl _)
  have hno : ¬ X.own nd w.heap.size := by
    rintro (e | ⟨k, hk, e⟩)
    · omega
    · have := (h.cel k hk).lt; omega
  have hM0 : MemM (w.alloc (.cells (wdA F) 169)) nd pv sn X (up1 own d (partM pv y (own d) F 0)) sh := by
    have : partM pv y (own d) F 0 = own d := by
      funext a
      unfold partM
      rw [if_neg (by omega)]
    rw [this, up1_self]
    exact h.below hB0 (Nat.le_refl _)
  have hs1 : (w.alloc (.cells (wdA F) 169)).heap.size = w.heap.size + 1 := by simp
  obtain ⟨w1, hw1⟩ : ∃ w1, w.alloc (.cells (wdA F) 169) = w1 := ⟨_, rfl⟩
  rw [hw1] at hW0 hB0 hT0 hM0 hs1
  have HW0 : Hid (Row w1 w.heap.size (wdL F) 169) := hW0
  have HM0 : Hid _ := hM0
  have HB0 : Hid _ := hB0
  have HT0 : Hid _ := hT0
  have HS1 : Hid _ := hs1
  have q0 := (hB0.cell (p := ⟨g, o, none⟩) lg).trans hp0
  have q1 := (hB0.cell (p := ⟨g, o + 1, none⟩) lg).trans hp
  clear hy hW0 hB0 hT0 hM0 hs1 h hp0 hp
  go_enter Tryz.func163, Tryz.ntmps163
  go_wp2_with fail
  try rw [hw1]
  have HW1 : Hid _ := hw1
  clear hw1
  go_loopw [8] (fun u wr => ∃ i : Nat, i ≤ ln ∧ u = .int .i64 i ∧ MemM wr nd pv sn X (up1 own d (partM pv y (own d) F i)) sh ∧ Touch (X.own nd) w1 wr) (fun u _ => ln - (intOf u).toNat)
  case atStart => exact ⟨0, by omega, rfl, HM0.out, Touch.refl _ _⟩
  case round =>
    obtain ⟨i, hi, rfl, hM, hT⟩ := hrel
    have hlg1 : g < w1.heap.size := by have := HS1.out; omega
    have r0 : wr.cell? ⟨g, o, none⟩ = some (.int .i64 ln) := by rw [← q0]; simp only [World.cell?]; rw [hT.block g hlg1 hg]
    have r1 : wr.cell? ⟨g, o + 1, none⟩ = some (.slice (some ⟨X.r, 0, none⟩) nd X.rc) := by rw [← q1]; simp only [World.cell?]; rw [hT.block g hlg1 hg]
    have lr := cell_lt r0
    by_cases hlt : i < ln
    · have hi4 : i < 4 := by omega
      have rb : Row wr w.heap.size (wdL F) 169 := Row.same (w := w1) HW0.out (hT.block _ (by have := HS1.out; omega) hno)
      have c1 : wr.cell? ⟨w.heap.size, i, none⟩ = some (.int .i64 (F i)) := by rw [rb.cell, wdL_at F hi4]
      have lb := rb.lt
      have hF := mFill_any nd pv sn X _ sh g o d (y + i) (F i) wr.drew (hM.below ((Below.refl _ _).drew) (Nat.le_refl _)) r1 hd (by omega)
      rw [show ((y + i : Nat) : Int) = (y : Int) + (i : Int) by omega] at hF
      have HT : Hid _ := hT
      have wr1 : IntKind.i64.wrap (y : Int) = (y : Int) := by rw [IntKind.wrap_i64]; omega
      have wr2 : IntKind.i64.wrap ((y : Int) + (i : Int)) = (y : Int) + (i : Int) := by rw [IntKind.wrap_i64]; omega
      clear rb hM hT
      go_wp2_with fail
      go_region_with (go_at_call 133; refine hF.mono ?_; rintro e w2 ⟨rfl, hM2, hT2⟩)
      all_goals
        have hp' : (if y + i < pv then up1 (up1 own d (partM pv y (own d) F i)) d (up1 (up1 own d (partM pv y (own d) F i) d) (y + i) (F i)) else up1 own d (partM pv y (own d) F i)) = up1 own d (partM pv y (own d) F (i + 1)) := by
          rw [part_step]
          by_cases c : y + i < pv
          · rw [if_pos c, if_pos c, up1_up1, up1_at]
          · rw [if_neg c, if_neg c]
        rw [hp'] at hM2
        have HM2 : Hid _ := hM2
        have HT2 : Hid _ := (HT.out.drewN 1).trans hT2
        clear hM2 hT2 hp'
      all_goals go_wp2_with fail
      all_goals go_roundw
      all_goals try (case rel => exact ⟨i + 1, by omega, by go_num, HM2.out, HT2.out⟩)
      all_goals try (case measure => simp [intOf]; omega)
    · have ei : i = ln := by omega
      subst ei
      have HM : Hid _ := hM
      have HT : Hid _ := hT
      clear hM hT
      go_wp2
      refine bodyPost_end (results_none rfl _ _ _) rfl ?_
      exact ⟨rfl, by rw [HWR.out]; exact HM.out, HT0.out.trans HT.out⟩
end Go.Proofs.YtehheaedbnfidaaGreat
