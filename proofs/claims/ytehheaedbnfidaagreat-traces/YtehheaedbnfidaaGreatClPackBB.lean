/-
  Lent6, Lent7, Lent8, Lent9, LentT
-/
import Derived.Test.YtehheaedbnfidaaGreatClPackBA
import Derived.Deep.QuietTactic
import Derived.BigQuiet
namespace Go.Proofs.YtehheaedbnfidaaGreat
open Go.RowKit

/-- k rounds of lent's loop are done: the rows gt and gm hold T and M; G: each round's own block. -/
structure GSt (w wr : World) (lo : Nat) (ta : Option Addr) (xss : List (List Int)) (n k gt gm : Nat) (T M : List Value) (G : Nat → Nat) : Prop where
  rowT : Row wr gt T 25
  rowM : Row wr gm M 25
  lenT : T.length = n + 8
  lenM : M.length = n
  mt : ∀ i, i < k → i < n → M[i]? = T[i]?
  glo : ∀ i, i < k → lo ≤ G i ∧ G i < wr.heap.size
  ginc : ∀ i j, i < j → j < k → G i < G j
  src : ∀ i, i < k → i < n → ∃ b off ia il ic va vl vc, ta = some ⟨b, off, none⟩ ∧ w.cell? ⟨b, off + i, none⟩ = some (.slice ia il ic) ∧ T[i]? = some (.slice va vl vc) ∧ LentI wr ia (xss.getD i []) va vl vc (G i)
  tail : ∀ i, i < k → n ≤ i → T[i]? = some (.slice (some ⟨G i, 0, none⟩) 1 1) ∧ Row wr (G i) [.int .i64 77] 3

theorem GSt.step {w wr wr' : World} {lo : Nat} {ta : Option Addr} {xss : List (List Int)} {n k gt gm g : Nat} {T M M' : List Value} {G : Nat → Nat} {v : Value}
    (h : GSt w wr lo ta xss n k gt gm T M G) (hgt : gt < lo) (hgm : gm < lo) (hk : ∀ j, j < wr.heap.size → j ≠ gt → j ≠ gm → wr'.heap[j]? = wr.heap[j]?) (hsz : wr.heap.size ≤ wr'.heap.size)
    (hloz : lo ≤ wr.heap.size) (rT : Row wr' gt (T.set k v) 25) (rM : Row wr' gm M' 25) (hkn : k < n + 8) (hM' : M' = if k < n then M.set k v else M) (g1 : wr.heap.size ≤ g) (g2 : g < wr'.heap.size)
    (hs : k < n → ∃ b off ia il ic va vl vc, ta = some ⟨b, off, none⟩ ∧ w.cell? ⟨b, off + k, none⟩ = some (.slice ia il ic) ∧ v = .slice va vl vc ∧ LentI wr' ia (xss.getD k []) va vl vc g)
    (ht : n ≤ k → v = .slice (some ⟨g, 0, none⟩) 1 1 ∧ Row wr' g [.int .i64 77] 3) :
    GSt w wr' lo ta xss n (k + 1) gt gm (T.set k v) M' (fun i => if i = k then g else G i) := by
  have hT : k < T.length := by rw [h.lenT]; exact hkn
  refine ⟨rT, rM, by rw [List.length_set, h.lenT], ?_, ?_, ?_, ?_, ?_, ?_⟩
  · subst hM'; split <;> simp [h.lenM]
  · intro i hi hin
    by_cases e : i = k
    · subst e
      rw [hM', if_pos hin, List.getElem?_set_self (by rw [h.lenM]; exact hin), List.getElem?_set_self hT]
    · rw [List.getElem?_set_ne (by omega), hM']
      have := h.mt i (by omega) hin
      split
      · rw [List.getElem?_set_ne (by omega)]; exact this
      · exact this
  · intro i hi
    by_cases e : i = k
    · simp only [e, if_true]; omega
    · simp only [e, if_false]
      have := h.glo i (by omega)
      omega
  · intro i j hij hj
    have e1 : ¬ i = k := by omega
    have := h.glo i (by omega)
    by_cases e2 : j = k
    · simp only [e1, e2, if_true, if_false]; omega
    · simp only [e1, e2, if_false]
      exact h.ginc i j hij (by omega)
  · intro i hi hin
    by_cases e : i = k
    · subst e
      obtain ⟨b, off, ia, il, ic, va, vl, vc, a1, a2, a3, a4⟩ := hs hin
      refine ⟨b, off, ia, il, ic, va, vl, vc, a1, a2, by rw [List.getElem?_set_self hT, a3], by simpa using a4⟩
    · obtain ⟨b, off, ia, il, ic, va, vl, vc, a1, a2, a3, a4⟩ := h.src i (by omega) hin
      have hg := h.glo i (by omega)
      refine ⟨b, off, ia, il, ic, va, vl, vc, a1, a2, by rw [List.getElem?_set_ne (by omega), a3], ?_⟩
      simp only [e, if_false]
      exact a4.same (hk _ hg.2 (by omega) (by omega))
  · intro i hi hin
    by_cases e : i = k
    · subst e
      obtain ⟨a1, a2⟩ := ht hin
      refine ⟨by rw [List.getElem?_set_self hT, a1]; simp, by simpa using a2⟩
    · obtain ⟨a1, a2⟩ := h.tail i (by omega) hin
      have hg := h.glo i (by omega)
      simp only [e, if_false]
      refine ⟨by rw [List.getElem?_set_ne (by omega), a1], ?_⟩
      unfold Row
      rw [hk _ hg.2 (by omega) (by omega)]
      exact a2

theorem GSt.keep {w wr wr' : World} {lo lo0 : Nat} {ta : Option Addr} {xss : List (List Int)} {n k gt gm : Nat} {T M : List Value} {G : Nat → Nat}
    (h : GSt w wr lo ta xss n k gt gm T M G) (hk : ∀ j, lo0 ≤ j → wr'.heap[j]? = wr.heap[j]?) (h1 : lo0 ≤ gt) (h2 : lo0 ≤ gm) (h3 : lo0 ≤ lo) (hsz : wr.heap.size ≤ wr'.heap.size) : GSt w wr' lo ta xss n k gt gm T M G := by
  refine ⟨by unfold Row; rw [hk _ h1]; exact h.rowT, by unfold Row; rw [hk _ h2]; exact h.rowM, h.lenT, h.lenM, h.mt, fun i hi => ⟨(h.glo i hi).1, Nat.lt_of_lt_of_le (h.glo i hi).2 hsz⟩, h.ginc, ?_, ?_⟩
  · intro i hi hin
    obtain ⟨b, off, ia, il, ic, va, vl, vc, a1, a2, a3, a4⟩ := h.src i hi hin
    exact ⟨b, off, ia, il, ic, va, vl, vc, a1, a2, a3, a4.same (hk _ (Nat.le_trans h3 (h.glo i hi).1))⟩
  · intro i hi hin
    obtain ⟨a1, a2⟩ := h.tail i hi hin
    exact ⟨a1, by unfold Row; rw [hk _ (Nat.le_trans h3 (h.glo i hi).1)]; exact a2⟩

/-- A round behind the lists: one block [77], stored into the row. -/
theorem GSt.past {w wr : World} {lo : Nat} {ta : Option Addr} {xss : List (List Int)} {n k gt gm : Nat} {T M : List Value} {G : Nat → Nat}
    (h : GSt w wr lo ta xss n k gt gm T M G) (hgt : gt < lo) (hgm : gm < lo) (hne : gm ≠ gt) (hloz : lo ≤ wr.heap.size) (hkn : k < n + 8) (hn : n ≤ k) :
    GSt w ((wr.alloc (.cells #[.int .i64 77] 3)).setCell ⟨gt, k, none⟩ (.slice (some ⟨wr.heap.size, 0, none⟩) 1 1)) lo ta xss n (k + 1) gt gm (T.set k (.slice (some ⟨wr.heap.size, 0, none⟩) 1 1)) M (fun i => if i = k then wr.heap.size else G i) := by
  refine h.step hgt hgm ?_ ?_ hloz ?_ ?_ hkn ?_ (Nat.le_refl _) ?_ ?_ ?_
  · intro j h1 h2 h3
    rw [Below.heap_setCell _ _ _ _ h2, Below.heap_alloc _ _ _ h1]
  · simp [World.setCell]
  · exact (h.rowT.alloc _).setCell k _
  · exact (h.rowM.alloc _).setCellOther _ _ hne
  · rw [if_neg (by omega)]
  · simp [World.setCell]
  · intro h1; omega
  · intro _
    refine ⟨rfl, ?_⟩
    have : Row (wr.alloc (.cells #[.int .i64 77] 3)) wr.heap.size [.int .i64 77] 3 := heap_alloc_new wr _
    exact this.setCellOther _ _ (by omega)

/-- A round at a list: one block [77], and the list's own. -/
theorem GSt.list {w wr w2 : World} {lo : Nat} {ta : Option Addr} {xss : List (List Int)} {n k gt gm : Nat} {T M : List Value} {G : Nat → Nat} {b off : Nat} {ia va : Option Addr} {il ic vl vc : Nat} {u : Value}
    (h : GSt w wr lo ta xss n k gt gm T M G) (hgt : gt < lo) (hgm : gm < lo) (hne : gm ≠ gt) (hloz : lo ≤ wr.heap.size) (hn : k < n)
    (a1 : ta = some ⟨b, off, none⟩) (a2 : w.cell? ⟨b, off + k, none⟩ = some (.slice ia il ic))
    (hb : Below (wr.heap.size + 1) ((wr.alloc (.cells #[.int .i64 77] 3)).setCell ⟨gt, k, none⟩ u) w2)
    (hl : LentI w2 ia (xss.getD k []) va vl vc (wr.heap.size + 1)) :
    ∃ G', GSt w ((w2.setCell ⟨gm, k, none⟩ (.slice va vl vc)).setCell ⟨gt, k, none⟩ (.slice va vl vc)) lo ta xss n (k + 1) gt gm (T.set k (.slice va vl vc)) (M.set k (.slice va vl vc)) G' := by
  have hz : wr.heap.size + 1 ≤ w2.heap.size := by
    have := hb.size
    simpa [World.setCell] using this
  have hk2 : ∀ j, j < wr.heap.size → j ≠ gt → w2.heap[j]? = wr.heap[j]? := by
    intro j h1 h2
    rw [hb.block j (by omega), Below.heap_setCell _ _ _ _ h2, Below.heap_alloc _ _ _ h1]
  have rT2 : Row w2 gt (T.set k u) 25 := by
    have := (h.rowT.alloc (.cells #[.int .i64 77] 3)).setCell k u
    exact this.below hb (by omega)
  have rM2 : Row w2 gm M 25 := by
    unfold Row
    rw [hk2 gm (by omega) hne]
    exact h.rowM
  have hl' : ∃ g, wr.heap.size ≤ g ∧ g < w2.heap.size ∧ LentI w2 ia (xss.getD k []) va vl vc g := by
    rcases hl with hl | ⟨e1, e2, e3, e4, e5⟩
    · exact ⟨wr.heap.size, Nat.le_refl _, by omega, Or.inl hl⟩
    · exact ⟨wr.heap.size + 1, by omega, e5.lt, Or.inr ⟨e1, e2, e3, e4, e5⟩⟩
  obtain ⟨g, g1, g2, hlg⟩ := hl'
  refine ⟨_, h.step (g := g) hgt hgm ?_ ?_ hloz ?_ ?_ (by omega) ?_ g1 ?_ ?_ ?_⟩
  · intro j h1 h2 h3
    rw [Below.heap_setCell _ _ _ _ h2, Below.heap_setCell _ _ _ _ h3, hk2 j h1 h2]
  · simp [World.setCell]; omega
  · have := (rT2.setCellOther (g := gm) k (.slice va vl vc) (Ne.symm hne)).setCell k (.slice va vl vc)
    simpa using this
  · exact (rM2.setCell k _).setCellOther _ _ hne
  · rw [if_pos hn]
  · simpa [World.setCell] using g2
  · intro _
    refine ⟨b, off, ia, il, ic, va, vl, vc, a1, a2, rfl, ?_⟩
    refine hlg.same ?_
    rw [Below.heap_setCell _ _ _ _ (by simp only []; omega), Below.heap_setCell _ _ _ _ (by simp only []; omega)]
  · intro h1; omega

end Go.Proofs.YtehheaedbnfidaaGreat

namespace Go.Proofs.YtehheaedbnfidaaGreat
open Go.RowKit
attribute [local go_sem] Tryz.nilInts Tryz.nilGrid

theorem Tryz.infoInts : (Tryz.prog.info? 25).map (fun i => (i.zero, i.size, i.bytes)) = some (some (.slice none 0 0), 1, 24) := by kernel_rfl

theorem made_nil (n : Nat) : madeCells #[Value.slice none 0 0] n = (List.replicate n (Value.slice none 0 0)).toArray := by
  apply Array.ext_getElem?
  intro i
  simp only [madeCells, Array.getElem?_map]
  by_cases h : i < n
  · simp [h, Nat.mod_one]
  · simp [h]

theorem GSt.start (w w5 : World) (lo : Nat) (ta : Option Addr) (xss : List (List Int)) (n : Nat) :
    GSt w ((w5.alloc (.cells (madeCells #[.slice none 0 0] (n + 8)) 25)).alloc (.cells (madeCells #[.slice none 0 0] n) 25)) lo ta xss n 0 w5.heap.size (w5.heap.size + 1) (List.replicate (n + 8) (.slice none 0 0)) (List.replicate n (.slice none 0 0)) (fun _ => 0) := by
  refine ⟨?_, ?_, by simp, by simp, ?_, ?_, ?_, ?_, ?_⟩
  · have : Row (w5.alloc (.cells (madeCells #[.slice none 0 0] (n + 8)) 25)) w5.heap.size (List.replicate (n + 8) (.slice none 0 0)) 25 := by
      rw [made_nil]; exact heap_alloc_new w5 _
    exact this.alloc _
  · have := heap_alloc_new (w5.alloc (.cells (madeCells #[.slice none 0 0] (n + 8)) 25)) (.cells (madeCells #[.slice none 0 0] n) 25)
    rw [World.size_alloc] at this
    rw [made_nil n] at this ⊢
    exact this
  all_goals intros; omega

/-- The turns that were lent. -/
structure LentG (w w' : World) (lo : Nat) (xss : List (List Int)) (ta : Option Addr) (ta' : Option Addr) (tl' tc' : Nat) (ma : Option Addr) (ml mc : Nat) (gt gm : Nat) (T M : List Value) (G : Nat → Nat) : Prop where
  hta : ta' = some ⟨gt, 0, none⟩
  htl : tl' = xss.length
  htc : tc' = xss.length + 8
  hma : ma = some ⟨gm, 0, none⟩
  hml : ml = xss.length
  hmc : mc = xss.length
  lo1 : lo ≤ gt
  lo2 : lo ≤ gm
  lo3 : gt < gm
  st : GSt w w' (gm + 1) ta xss xss.length (xss.length + 8) gt gm T M G

set_option maxRecDepth 100000 in
set_option maxHeartbeats 2000000 in
theorem lent_some (c : Cf) (s : Sl) (w : World) (h : CfgAt w c s) (hc : CfR c) (hn : s.ta ≠ none) :
    Calls Tryz.prog 29 #[cfgV c s] w fun e w' => ∃ s1 ma ml mc, e = .returned (.tuple #[cfgV c s1, .slice ma ml mc]) ∧ Below w.heap.size w w' ∧ LentW w' w.heap.size c s s1 ∧ ∃ gt gm T M G, LentG w w' w.heap.size c.turns s.ta s1.ta s1.tl s1.tc ma ml mc gt gm T M G := by
  obtain ⟨wa, wl, wc, sa, sl, sc, ta, n, tc⟩ := s
  obtain ⟨at0, rfl⟩ : ∃ x, ta = some x := by
    cases ta with
    | none => exact absurd rfl hn
    | some x => exact ⟨x, rfl⟩
  clear hn
  have k0 := LSt.start w c ⟨wa, wl, wc, sa, sl, sc, some at0, n, tc⟩
  have r1 := hc.ways
  rw [h.ways.hlen] at r1
  have r2 := hc.slots
  rw [h.slots.hlen] at r2
  have r3 := hc.turns
  rw [h.turns.hlen] at r3
  obtain ⟨i0, hi, hz0, hz1, hz2⟩ := info_parts Tryz.infoInts
  go_enter Tryz.func29, Tryz.ntmps29
  go_wp2_with fail
  refine (lentInts_any wa wl wc c.ways _ (h.ways.below k0.below (Nat.le_refl _)) r1).mono ?_
  rintro e w1 ⟨va, vl, vc, rfl, l1, hb1, hs1⟩
  have k1 := k0.call hb1 rfl
  obtain ⟨q1, f1, s2, c2, q2, f2⟩ := k1.facts
  go_wp2_with fail
  have k2 := k1.set7 va vl vc
  have l2 : LentI (w1.setCell ⟨w.heap.size, 7, none⟩ (.slice va vl vc)) wa c.ways va vl vc (w.heap.size + 2) := by
    simp only [World.size_alloc] at l1
    exact l1.same (Below.heap_setCell _ _ _ _ (by simp; omega))
  have hs2 : w.heap.size + 2 ≤ (w1.setCell ⟨w.heap.size, 7, none⟩ (.slice va vl vc)).heap.size := by
    have := hb1.size
    simp only [World.size_alloc] at this
    simpa [World.setCell] using this
  clear q1 f1 q2 f2 hb1 hs1 l1 k0 k1
  generalize w1.setCell ⟨w.heap.size, 7, none⟩ (.slice va vl vc) = w2 at *
  clear w1 s2 c2
  refine (lentInts_any sa sl sc c.slots _ (h.slots.below k2.below (Nat.le_refl _)) r2).mono ?_
  rintro e w3 ⟨ua, ul, uc, rfl, l3, hb3, hs3⟩
  have k3 := k2.call hb3 rfl
  have l2' := l2.below hb3 (Nat.le_refl _)
  have hs4 : w.heap.size + 2 ≤ w3.heap.size := Nat.le_trans hs2 hb3.size
  obtain ⟨q1, f1, s2, c2, q2, f2⟩ := k3.facts
  go_wp2_with (first | (at_make; refine wpList_make_exact _ rfl (.tmp 24) (.tmp 24) 41 rfl 25 i0 (.slice none 0 0) Tryz.underlying41 hi hz0 .i64 .i64 _ _ (n + 8) rfl rfl (by simp) (by simp) (by rw [hz2]; omega) (by unfold maxLen; omega) ?_; rw [hz1]) | (at_make; refine wpList_make_exact _ rfl (.tmp 26) (.tmp 26) 41 rfl 25 i0 (.slice none 0 0) Tryz.underlying41 hi hz0 .i64 .i64 _ _ n rfl rfl (by simp) (by simp) (by rw [hz2]; omega) (by unfold maxLen; omega) ?_; rw [hz1]))
  have e5 : (w3.setCell ⟨w.heap.size, 9, none⟩ (.slice ua ul uc)).heap.size = w3.heap.size := by simp [World.setCell]
  have k4 := k3.set9 ua ul uc
  have l2'' : LentI (w3.setCell ⟨w.heap.size, 9, none⟩ (.slice ua ul uc)) wa c.ways va vl vc (w.heap.size + 2) := l2'.same (Below.heap_setCell _ _ _ _ (by simp))
  have l3' : LentI (w3.setCell ⟨w.heap.size, 9, none⟩ (.slice ua ul uc)) sa c.slots ua ul uc w2.heap.size := l3.same (Below.heap_setCell _ _ _ _ (by simp; omega))
  have HE : Hid _ := e5
  have HT : Hid (c.turns.length = n) := h.turns.hlen
  have n1 : ¬ w.heap.size = w3.heap.size := by omega
  clear q1 f1 q2 f2 e5 hb3 hs3 l3 l2' l2 k3 k2
  go_loopw [7] (fun i wr => ∃ k T M G, k ≤ n + 8 ∧ i = .int .i64 (k : Nat) ∧ Below w3.heap.size (w3.setCell ⟨w.heap.size, 9, none⟩ (.slice ua ul uc)) wr ∧ w3.heap.size + 2 ≤ wr.heap.size ∧ GSt w wr (w3.heap.size + 2) (some at0) c.turns n k w3.heap.size (w3.heap.size + 1) T M G) (fun i _ => n + 8 - (intOf i).toNat)
  case atStart =>
    have e := HE.out
    have g := GSt.start w (w3.setCell ⟨w.heap.size, 9, none⟩ (.slice ua ul uc)) (w3.heap.size + 2) (some at0) c.turns n
    rw [e] at g
    refine ⟨0, _, _, _, by omega, rfl, ?_, ?_, g⟩
    · exact ((Below.refl _ _).alloc (by rw [e]; exact Nat.le_refl _) _).alloc (by rw [World.size_alloc, e]; omega) _
    · rw [World.size_alloc, World.size_alloc, e]; exact Nat.le_refl _
  case round =>
    obtain ⟨k, T, M, G, hk, rfl, hbl, hsz, hg⟩ := hrel
    have k5 := k4.call hbl HE.out.symm
    obtain ⟨q1, f1, s2, c2, q2, f2⟩ := k5.facts
    have cB := q1 10
    simp only [cfgA] at cB
    have z1 : w.heap.size < wr.heap.size := by omega
    have z3 : w3.heap.size < wr.heap.size := by omega
    have HG : Hid _ := hg
    have HB : Hid _ := hbl
    by_cases hk8 : k < n + 8
    · obtain ⟨x, hx⟩ : ∃ x, T[k]? = some x := ⟨T[k]'(by rw [hg.lenT]; exact hk8), List.getElem?_eq_getElem _⟩
      have cT : wr.cell? ⟨w3.heap.size, k, none⟩ = some x := by rw [hg.rowT.cell, hx]
      have fT : wr.frozen? ⟨w3.heap.size, k, none⟩ = false := hg.rowT.frozen k
      by_cases hkn : k < n
      · obtain ⟨b, off, ia, il, ic, ha0, hcS, hiS⟩ := h.turns.hat k hkn
        simp only [Option.some.injEq] at ha0
        subst ha0
        have z2 : b < w.heap.size := cell_lt hcS
        have cS : wr.cell? ⟨b, off + k, none⟩ = some (.slice ia il ic) := by rw [k5.below.cell (p := ⟨b, off + k, none⟩) z2]; exact hcS
        have hiR := hiS.below k5.below (Nat.le_refl _)
        have rk : il * 8 ≤ 140737488351232 := by
          have := hc.each k (by rw [HT.out]; exact hkn)
          rwa [hiS.hlen] at this
        have z4 : b < wr.heap.size := by omega
        have n2 : ¬ b = w3.heap.size := by omega
        have HC : Hid _ := hcS
        clear q1 f1 q2 f2 hx hg hbl hcS
        go_wp2_with fail
        have hX : (wr.setCell ⟨w3.heap.size, k, none⟩ (.slice (some ⟨wr.heap.size, 0, none⟩) 1 1)).alloc (.cells #[.int .i64 77] 3) = (wr.alloc (.cells #[.int .i64 77] 3)).setCell ⟨w3.heap.size, k, none⟩ (.slice (some ⟨wr.heap.size, 0, none⟩) 1 1) := (World.setCell_alloc_past _ _ _ _ z3).symm
        rw [hX]
        have HX : Hid _ := hX
        clear hX
        have bX : Below wr.heap.size wr ((wr.setCell ⟨w3.heap.size, k, none⟩ (.slice (some ⟨wr.heap.size, 0, none⟩) 1 1)).alloc (.cells #[.int .i64 77] 3)) → True := fun _ => trivial
        clear bX
        have bW : Below w.heap.size w ((wr.alloc (.cells #[.int .i64 77] 3)).setCell ⟨w3.heap.size, k, none⟩ (.slice (some ⟨wr.heap.size, 0, none⟩) 1 1)) := (k5.below.alloc (by omega) _).setCell (by simp only []; omega) _
        have rTX := (HG.out.rowT.alloc (.cells #[.int .i64 77] 3)).setCell k (.slice (some ⟨wr.heap.size, 0, none⟩) 1 1)
        have rMX := (HG.out.rowM.alloc (.cells #[.int .i64 77] 3)).setCellOther (g := w3.heap.size) k (.slice (some ⟨wr.heap.size, 0, none⟩) 1 1) (by omega)
        have sX : ((wr.alloc (.cells #[.int .i64 77] 3)).setCell ⟨w3.heap.size, k, none⟩ (.slice (some ⟨wr.heap.size, 0, none⟩) 1 1)).heap.size = wr.heap.size + 1 := by simp [World.setCell]
        have HS : Hid _ := sX
        have bY : Below w3.heap.size (w3.setCell ⟨w.heap.size, 9, none⟩ (.slice ua ul uc)) ((wr.alloc (.cells #[.int .i64 77] 3)).setCell ⟨w3.heap.size, k, none⟩ (.slice (some ⟨wr.heap.size, 0, none⟩) 1 1)) := (HB.out.alloc (by omega) _).setCell (by simp) _
        refine (lentInts_any ia il ic (c.turns.getD k []) _ (hiS.below bW (Nat.le_refl _)) rk).mono ?_
        rintro e w6 ⟨xa, xl, xc, rfl, l6, hb6, hs6⟩
        rw [HS.out] at l6 hb6 hs6
        have hG := HG.out.list (by omega) (by omega) (by omega) hsz hkn rfl HC.out hb6 l6
        have HG2 : Hid _ := hG
        have s6 : wr.heap.size + 1 ≤ w6.heap.size := by rw [← HS.out]; exact hb6.size
        have rT6 := rTX.below hb6 (by omega)
        have rM6 := rMX.below hb6 (by omega)
        have cT6 : w6.cell? ⟨w3.heap.size, k, none⟩ = some (.slice (some ⟨wr.heap.size, 0, none⟩) 1 1) := by
          rw [rT6.cell, List.getElem?_set_self (by rw [HG.out.lenT]; exact hk8)]
        have fT6 : w6.frozen? ⟨w3.heap.size, k, none⟩ = false := rT6.frozen k
        obtain ⟨y, hy⟩ : ∃ y, M[k]? = some y := ⟨M[k]'(by rw [HG.out.lenM]; exact hkn), List.getElem?_eq_getElem _⟩
        have cM6 : w6.cell? ⟨w3.heap.size + 1, k, none⟩ = some y := by rw [rM6.cell, hy]
        have fM6 : w6.frozen? ⟨w3.heap.size + 1, k, none⟩ = false := rM6.frozen k
        have b6 : Hid (Below w3.heap.size (w3.setCell ⟨w.heap.size, 9, none⟩ (.slice ua ul uc)) w6) := bY.trans (hb6.mono (by omega))
        clear hG hy rT6 rM6 hb6 hs6 l6 rTX rMX sX bW bY cS cT fT cB hiR hiS
        go_wp2
        go_roundw
        case rel =>
          obtain ⟨G', hg'⟩ := HG2.out
          refine ⟨k + 1, _, _, G', by omega, by go_num, ?_, ?_, hg'⟩
          · exact (b6.out.setCell (by simp) _).setCell (by simp) _
          · simp [World.setCell]; omega
        case measure => simp [intOf]; omega
      · clear q1 f1 q2 f2 hx hg hbl
        go_wp2
        go_roundw
        case rel =>
          have hg' := HG.out.past (by omega) (by omega) (by omega) hsz hk8 (by omega)
          rw [World.setCell_alloc_past _ _ _ _ z3] at hg'
          refine ⟨k + 1, _, _, _, by omega, by go_num, ?_, ?_, hg'⟩
          · refine (HB.out.setCell (Nat.le_refl _) _).alloc (by simp [World.setCell]; omega) _
          · simp [World.setCell]; omega
        case measure => simp [intOf]; omega
    · have ek : k = n + 8 := by omega
      subst ek
      clear cB hg hbl
      go_wp2
      have hk9 : ∀ W : World, (∀ j, w.heap.size + 2 ≤ j → W.heap[j]? = wr.heap[j]?) → wr.heap.size ≤ W.heap.size → LentW W w.heap.size c ⟨wa, wl, wc, sa, sl, sc, some at0, n, tc⟩ ⟨va, vl, vc, ua, ul, uc, some ⟨w3.heap.size, 0, none⟩, n, n + 8⟩ ∧ LentG w W w.heap.size c.turns (some at0) (some ⟨w3.heap.size, 0, none⟩) n (n + 8) (some ⟨w3.heap.size + 1, 0, none⟩) n n w3.heap.size (w3.heap.size + 1) T M G := by
        intro W hW hWz
        have m1 := l2''.below HB.out (by rw [HE.out]; exact Nat.le_refl _)
        have m2 := l3'.below HB.out (by rw [HE.out]; exact Nat.le_refl _)
        have e := HT.out
        refine ⟨⟨⟨w.heap.size + 2, by omega, m1.same (hW _ (Nat.le_refl _))⟩, ⟨w2.heap.size, by omega, m2.same (hW _ hs2)⟩⟩, rfl, e.symm, by rw [e], rfl, e.symm, e.symm, by omega, by omega, by omega, ?_⟩
        rw [e]
        exact HG.out.keep hW (by omega) (by omega) (by omega) hWz
      have HK : Hid _ := hk9
      refine bodyPost_ret (v := .tuple #[cfgV c ⟨va, vl, vc, ua, ul, uc, some ⟨w3.heap.size, 0, none⟩, n, n + 8⟩, .slice (some ⟨w3.heap.size + 1, 0, none⟩) n n]) (by simp [results, Tryz.results29, go_sem, q2]) rfl ⟨⟨va, vl, vc, ua, ul, uc, some ⟨w3.heap.size, 0, none⟩, n, n + 8⟩, _, _, _, rfl, ?_, (HK.out _ ?_ ?_).1, _, _, _, _, _, (HK.out _ ?_ ?_).2⟩
      · iterate 14 refine Below.setCell ?_ (by simp) _
        exact k5.below
      all_goals first
        | (intro j hj; iterate 14 rw [Below.heap_setCell]
           all_goals (simp only []; omega))
        | simp [World.setCell]
end Go.Proofs.YtehheaedbnfidaaGreat

namespace Go.Proofs.YtehheaedbnfidaaGreat
open Go.RowKit
attribute [local go_sem] Tryz.nilInts Tryz.nilGrid

theorem LentI.len {w w0 : World} {sa : Option Addr} {len cap : Nat} {xs : List Int} {va : Option Addr} {vl vc g : Nat} (h : LentI w sa xs va vl vc g) (h0 : Ints w0 sa len cap xs) : vl = len := by
  rcases h with ⟨rfl, rfl, rfl, rfl⟩ | ⟨_, _, h3, _, _⟩
  · exact h0.nil.1.symm
  · rw [h3, h0.hlen]

set_option maxRecDepth 100000 in
set_option maxHeartbeats 400000 in
theorem wholeTurns_none (oa : Option Addr) (ol oc : Nat) (ma : Option Addr) (ml mc : Nat) (w : World) :
    Calls Tryz.prog 73 #[.slice oa ol oc, .slice ma ml mc, .slice none 0 0] w fun e w' => e = .returned (.bool true) ∧ w' = w := by
  go_enter Tryz.func73, Tryz.ntmps73
  go_wp2
  go_ret
  exact ⟨rfl, rfl⟩

set_option maxRecDepth 100000 in
set_option maxHeartbeats 2000000 in
theorem wholeTurns_some (w0 w : World) (lo : Nat) (c : Cf) (at0 : Addr) (n tc gt gm : Nat) (T M : List Value) (G : Nat → Nat) (hr : n * 24 ≤ 140737488351232) (hc : CfR c)
    (h0 : Grid w0 (some at0) n tc c.turns) (hlo : w0.heap.size ≤ lo) (hb : Below lo w0 w) (l1 : lo ≤ gt) (l2 : gt < gm) (hg : GSt w0 w (gm + 1) (some at0) c.turns n (n + 8) gt gm T M G) (top : Nat) (htop : ∀ i, i < n + 8 → G i < top) :
    Calls Tryz.prog 73 #[.slice (some ⟨gt, 0, none⟩) n (n + 8), .slice (some ⟨gm, 0, none⟩) n n, .slice (some at0) n tc] w fun e w' => e = .returned (.bool true) ∧ Below lo w w' ∧ Shaped w w' ∧ (∀ j, top ≤ j → w'.heap[j]? = w.heap[j]?) := by
  have HG : Hid _ := hg
  have HT : Hid (c.turns.length = n) := h0.hlen
  have hle := h0.hle
  clear hg
  go_enter Tryz.func73, Tryz.ntmps73
  go_wp2
  go_loopw [9, 10] (fun ok i wr => ∃ k : Nat, k ≤ n + 8 ∧ ok = .bool true ∧ i = .int .i64 k ∧ (∀ j, k ≤ j → j < n + 8 → wr.heap[G j]? = w.heap[G j]?) ∧ wr.heap[gt]? = w.heap[gt]? ∧ wr.heap[gm]? = w.heap[gm]? ∧ Below lo w wr ∧ Shaped w wr ∧ (∀ j, top ≤ j → wr.heap[j]? = w.heap[j]?)) (fun _ i _ => n + 8 - (intOf i).toNat)
  case atStart => exact ⟨0, by omega, rfl, rfl, fun _ _ _ => rfl, rfl, rfl, Below.refl _ _, Shaped.refl _, fun _ _ => rfl⟩
  case round =>
    obtain ⟨k, hk, rfl, rfl, a1, a2, a3, a4, a5, a6⟩ := hrel
    have A1 : Hid _ := a1
    have A2 : Hid _ := a2
    have A3 : Hid _ := a3
    have A4 : Hid _ := a4
    have A5 : Hid _ := a5
    have A6 : Hid _ := a6
    have rT : Row wr gt T 25 := by unfold Row; rw [a2]; exact HG.out.rowT
    have rM : Row wr gm M 25 := by unfold Row; rw [a3]; exact HG.out.rowM
    by_cases hkn : k < n
    · obtain ⟨b, off, ia, il, ic, va, vl, vc, e1, e2, e3, e4⟩ := HG.out.src k (by omega) hkn
      simp only [Option.some.injEq] at e1
      subst e1
      obtain ⟨b', off', ia', il', ic', e5, e6, hiS⟩ := h0.hat k hkn
      simp only [Option.some.injEq, Addr.mk.injEq, and_true] at e5
      obtain ⟨rfl, rfl⟩ := e5
      rw [e2] at e6
      simp only [Option.some.injEq, Value.slice.injEq] at e6
      obtain ⟨rfl, rfl, rfl⟩ := e6
      have z2 : b < w0.heap.size := cell_lt e2
      have bw : Below lo w0 wr := hb.trans a4
      have cS : wr.cell? ⟨b, off + k, none⟩ = some (.slice ia il ic) := by rw [bw.cell (p := ⟨b, off + k, none⟩) (by simp only []; omega)]; exact e2
      have cT : wr.cell? ⟨gt, k, none⟩ = some (.slice va vl vc) := by rw [rT.cell, e3]
      have cM : wr.cell? ⟨gm, k, none⟩ = some (.slice va vl vc) := by rw [rM.cell, HG.out.mt k (by omega) hkn, e3]
      have hiR := hiS.below bw hlo
      have hlR := e4.same (a1 k (Nat.le_refl _) (by omega))
      have rk : il * 8 ≤ 140737488351232 := by
        have := hc.each k (by rw [HT.out]; exact hkn)
        rwa [hiS.hlen] at this
      have hvl := e4.len hiS
      subst hvl
      clear a1 a2 a3 a4 a5 a6
      go_wp2
      go_quiet ((go_at_call 28; exact Calls.quiet_of_same (wholeInts_any _ _ _ (c.turns.getD k []) _ _ _ (G k) _ (hiR.drewN _) rk (by exact hlR))))
      have gk := HG.out.glo k (by omega)
      have hroom : Room (wr.drewN nq) va vl vc (G k) := by exact hlR.room
      have n1 : gt ≠ G k := by omega
      have n2 : gm ≠ G k := by omega
      have n3 : b ≠ G k := by omega
      go_wp2_with fail
      refine (spoilInts_any va vl vc (G k) lo 0 _ rk hroom (by omega)).mono ?_
      rintro e w2 ⟨rfl, p1, p2, p3, p4⟩
      have P1 : Hid _ := p1
      have P2 : Hid _ := p2
      have P3 : Hid _ := p3
      have cS2 : w2.cell? ⟨b, off + k, none⟩ = some (.slice ia vl ic) := by rw [World.cell?_of_block (w := wr.drewN nq) (p3 b (fun _ => n3))]; exact cS
      have cT2 : w2.cell? ⟨gt, k, none⟩ = some (.slice va vl vc) := by rw [World.cell?_of_block (w := wr.drewN nq) (p3 gt (fun _ => n1))]; exact cT
      have cM2 : w2.cell? ⟨gm, k, none⟩ = some (.slice va vl vc) := by rw [World.cell?_of_block (w := wr.drewN nq) (p3 gm (fun _ => n2))]; exact cM
      have hroom2 : Hid (Room w2 va vl vc (G k)) := hroom.shaped p2
      clear p1 p2 p3 hroom
      go_wp2
      go_quiet ((go_at_call 111; exact Calls.quiet_of_same (shows_any _ _ _ _ _ (p4.drewN _))))
      go_wp2_with fail
      refine (spoilInts_any va vl vc (G k) lo (-1) _ rk (by exact hroom2.out) (by omega)).mono ?_
      rintro e w3 ⟨rfl, q1, q2, q3, q4⟩
      have Q1 : Hid _ := q1
      have Q2 : Hid _ := q2
      have Q3 : Hid _ := q3
      have cS3 : w3.cell? ⟨b, off + k, none⟩ = some (.slice ia vl ic) := by rw [World.cell?_of_block (w := w2.drewN _) (q3 b (fun _ => n3))]; exact cS2
      have cT3 : w3.cell? ⟨gt, k, none⟩ = some (.slice va vl vc) := by rw [World.cell?_of_block (w := w2.drewN _) (q3 gt (fun _ => n1))]; exact cT2
      have cM3 : w3.cell? ⟨gm, k, none⟩ = some (.slice va vl vc) := by rw [World.cell?_of_block (w := w2.drewN _) (q3 gm (fun _ => n2))]; exact cM2
      clear q1 q2 q3
      go_wp2
      go_quiet ((go_at_call 111; exact Calls.quiet_of_same (shows_any _ _ _ _ _ (q4.drewN _))))
      go_wp2
      go_roundw
      case rel =>
        refine ⟨k + 1, by omega, rfl, by go_num, ?_, ?_, ?_, ?_, ?_, ?_⟩
        · intro j j1 j2
          have := HG.out.ginc k j (by omega) j2
          exact ((Q3.out _ (fun _ => by omega)).trans (P3.out _ (fun _ => by omega))).trans (A1.out j (by omega) j2)
        · exact ((Q3.out _ (fun _ => n1)).trans (P3.out _ (fun _ => n1))).trans A2.out
        · exact ((Q3.out _ (fun _ => n2)).trans (P3.out _ (fun _ => n2))).trans A3.out
        · exact below_drewN (((below_drewN ((below_drewN A4.out _).trans P1.out) _)).trans Q1.out) _
        · exact Shaped.trans (b := wr) A5.out (Shaped.trans (b := w2) P2.out Q2.out)
        · intro j hj
          have := htop k (by omega)
          exact ((Q3.out _ (fun _ => by omega)).trans (P3.out _ (fun _ => by omega))).trans (A6.out j hj)
      case measure => simp [intOf]; omega
    · by_cases hk8 : k < n + 8
      · obtain ⟨e1, e2⟩ := HG.out.tail k hk8 (by omega)
        have cT : wr.cell? ⟨gt, k, none⟩ = some (.slice (some ⟨G k, 0, none⟩) 1 1) := by rw [rT.cell, e1]
        have r7 : Row wr (G k) [.int .i64 77] 3 := by unfold Row; rw [a1 k (Nat.le_refl _) hk8]; exact e2
        have hi7 : Ints wr (some ⟨G k, 0, none⟩) 1 1 (List.replicate 1 77) := by
          refine ⟨rfl, by omega, by unfold maxLen; omega, (fun h => by cases h), fun i hi => ⟨G k, 0, rfl, ?_⟩⟩
          obtain rfl : i = 0 := by omega
          rw [r7.cell]; rfl
        clear a1 a2 a3 a4 a5 a6 e1 e2
        go_wp2_with fail
        refine (shows_any (some ⟨G k, 0, none⟩) 1 1 77 _ hi7).mono ?_
        rintro e w' ⟨rfl, rfl⟩
        go_wp2
        go_roundw
        case rel => exact ⟨k + 1, by omega, rfl, by go_num, fun j j1 j2 => A1.out j (by omega) j2, A2.out, A3.out, A4.out, A5.out, A6.out⟩
        case measure => simp [intOf]; omega
      · clear a1 a2 a3 a4 a5 a6
        go_wp2
        go_ret
        exact ⟨rfl, A4.out, A5.out, A6.out⟩
end Go.Proofs.YtehheaedbnfidaaGreat

namespace Go.Proofs.YtehheaedbnfidaaGreat
open Go.RowKit
attribute [local go_sem] Tryz.nilInts Tryz.nilGrid

/-- A configuration that was lent, of one that lay in the world w0. -/
def LentC (w0 w : World) (c : Cf) (s s1 : Sl) (ma : Option Addr) (ml mc : Nat) : Prop :=
  LentW w w0.heap.size c s s1 ∧ ((s.ta = none ∧ s1.ta = none ∧ s1.tl = 0 ∧ s1.tc = 0 ∧ ma = none ∧ ml = 0 ∧ mc = 0) ∨ (s.ta ≠ none ∧ ∃ gt gm T M G, LentG w0 w w0.heap.size c.turns s.ta s1.ta s1.tl s1.tc ma ml mc gt gm T M G))

theorem lent_any (c : Cf) (s : Sl) (w : World) (h : CfgAt w c s) (hc : CfR c) :
    Calls Tryz.prog 29 #[cfgV c s] w fun e w' => ∃ s1 ma ml mc, e = .returned (.tuple #[cfgV c s1, .slice ma ml mc]) ∧ Below w.heap.size w w' ∧ LentC w w' c s s1 ma ml mc := by
  by_cases hn : s.ta = none
  · refine (lent_nil c s w h hc hn).mono ?_
    rintro e w' ⟨s1, rfl, h1, h2, h3, h4, h5⟩
    exact ⟨s1, _, _, _, rfl, h1, h2, Or.inl ⟨hn, h3, h4, h5, rfl, rfl, rfl⟩⟩
  · refine (lent_some c s w h hc hn).mono ?_
    rintro e w' ⟨s1, ma, ml, mc, rfl, h1, h2, h3⟩
    exact ⟨s1, ma, ml, mc, rfl, h1, h2, Or.inr ⟨hn, h3⟩⟩

theorem LentC.same {w0 w w' : World} {c : Cf} {s s1 : Sl} {ma : Option Addr} {ml mc : Nat} (h : LentC w0 w c s s1 ma ml mc) (hb : Below w.heap.size w w') : LentC w0 w' c s s1 ma ml mc := by
  obtain ⟨⟨⟨g1, b1, h1⟩, ⟨g2, b2, h2⟩⟩, h3⟩ := h
  refine ⟨⟨⟨g1, b1, h1.below hb (Nat.le_refl _)⟩, ⟨g2, b2, h2.below hb (Nat.le_refl _)⟩⟩, ?_⟩
  rcases h3 with h3 | ⟨hn, gt, gm, T, M, G, h4⟩
  · exact Or.inl h3
  · have st := h4.st
    refine Or.inr ⟨hn, gt, gm, T, M, G, h4.hta, h4.htl, h4.htc, h4.hma, h4.hml, h4.hmc, h4.lo1, h4.lo2, h4.lo3, ?_⟩
    refine ⟨st.rowT.below hb st.rowT.lt, st.rowM.below hb st.rowM.lt, st.lenT, st.lenM, st.mt, fun i hi => ⟨(st.glo i hi).1, Nat.lt_of_lt_of_le (st.glo i hi).2 hb.size⟩, st.ginc, ?_, ?_⟩
    · intro i hi hin
      obtain ⟨b, off, ia, il, ic, va, vl, vc, a1, a2, a3, a4⟩ := st.src i hi hin
      exact ⟨b, off, ia, il, ic, va, vl, vc, a1, a2, a3, a4.below hb (Nat.le_refl _)⟩
    · intro i hi hin
      obtain ⟨a1, a2⟩ := st.tail i hi hin
      exact ⟨a1, a2.below hb a2.lt⟩

/-- What was lent reads as the configuration does. -/
theorem LentC.reads {w0 w : World} {c : Cf} {s s1 : Sl} {ma : Option Addr} {ml mc : Nat} (h : LentC w0 w c s s1 ma ml mc) (h0 : CfgAt w0 c s) (hc : CfR c) : CfgAt w c s1 := by
  obtain ⟨⟨⟨g1, b1, h1⟩, ⟨g2, b2, h2⟩⟩, h3⟩ := h
  have r1 := hc.ways
  rw [h0.ways.hlen] at r1
  have r2 := hc.slots
  rw [h0.slots.hlen] at r2
  refine ⟨h1.ints h0.ways r1, h2.ints h0.slots r2, ?_⟩
  rcases h3 with ⟨e0, e1, e2, e3, _⟩ | ⟨hn, gt, gm, T, M, G, h4⟩
  · have e4 : c.turns = [] := by
      have h5 := h0.turns.hnil e0
      have h6 := h0.turns.hle
      have h7 := h0.turns.hlen
      exact List.eq_nil_of_length_eq_zero (by omega)
    rw [e1, e2, e3, e4]
    exact ⟨rfl, by omega, by unfold maxLen; omega, fun _ => rfl, fun i hi => absurd hi (Nat.not_lt_zero _)⟩
  · have r3 := hc.turns
    rw [h4.hta, h4.htl, h4.htc]
    refine ⟨rfl, by omega, by unfold maxLen; omega, (fun h => by cases h), fun i hi => ?_⟩
    obtain ⟨b, off, ia, il, ic, va, vl, vc, a1, a2, a3, a4⟩ := h4.st.src i (by omega) hi
    obtain ⟨b', off', ia', il', ic', e5, e6, hiS⟩ := h0.turns.hat i (by rw [← h0.turns.hlen]; exact hi)
    rw [a1] at e5
    simp only [Option.some.injEq, Addr.mk.injEq, and_true] at e5
    obtain ⟨rfl, rfl⟩ := e5
    rw [a2] at e6
    simp only [Option.some.injEq, Value.slice.injEq] at e6
    obtain ⟨rfl, rfl, rfl⟩ := e6
    have rk := hc.each i hi
    rw [hiS.hlen] at rk
    refine ⟨gt, 0, va, vl, vc, rfl, ?_, a4.ints hiS rk⟩
    rw [Nat.zero_add, h4.st.rowT.cell, a3]

/-- wholeTurns of whatever was lent. -/
theorem wholeTurns_any (w0 wl w : World) (c : Cf) (s s1 : Sl) (ma : Option Addr) (ml mc : Nat) (h0 : CfgAt w0 c s) (hc : CfR c) (hb : Below w0.heap.size w0 wl) (h : LentC w0 wl c s s1 ma ml mc) (hbl : Below wl.heap.size wl w) :
    Calls Tryz.prog 73 #[.slice s1.ta s1.tl s1.tc, .slice ma ml mc, .slice s.ta s.tl s.tc] w fun e w' => e = .returned (.bool true) ∧ Below w0.heap.size w w' ∧ Shaped w w' ∧ (∀ j, wl.heap.size ≤ j → w'.heap[j]? = w.heap[j]?) := by
  have h' := h.same hbl
  have hb' : Below w0.heap.size w0 w := below_step hb hbl rfl
  rcases h.2 with ⟨e0, e1, e2, e3, e4, e5, e6⟩ | ⟨hn, gt, gm, T, M, G, h4⟩
  · have t1 := h0.turns.hnil e0
    have t2 := h0.turns.hle
    rw [e0, show s.tl = 0 by omega, t1]
    refine (wholeTurns_none _ _ _ _ _ _ w).mono ?_
    rintro e w' ⟨rfl, rfl⟩
    exact ⟨rfl, Below.refl _ _, Shaped.refl _, fun _ _ => rfl⟩
  · rcases h'.2 with ⟨e0, _⟩ | ⟨_, gt', gm', T', M', G', h5⟩
    · exact absurd e0 hn
    · clear h5 gt' gm' T' M' G'
      obtain ⟨at0, ha⟩ : ∃ x, s.ta = some x := by
        cases hx : s.ta with
        | none => exact absurd hx hn
        | some x => exact ⟨x, rfl⟩
      have st := h4.st
      have hl := h0.turns.hlen
      have st' : GSt w0 w (gm + 1) s.ta c.turns c.turns.length (c.turns.length + 8) gt gm T M G := by
        refine ⟨st.rowT.below hbl st.rowT.lt, st.rowM.below hbl st.rowM.lt, st.lenT, st.lenM, st.mt, fun i hi => ⟨(st.glo i hi).1, Nat.lt_of_lt_of_le (st.glo i hi).2 hbl.size⟩, st.ginc, ?_, ?_⟩
        · intro i hi hin
          obtain ⟨b, off, ia, il, ic, va, vl, vc, a1, a2, a3, a4⟩ := st.src i hi hin
          exact ⟨b, off, ia, il, ic, va, vl, vc, a1, a2, a3, a4.below hbl (Nat.le_refl _)⟩
        · intro i hi hin
          obtain ⟨a1, a2⟩ := st.tail i hi hin
          exact ⟨a1, a2.below hbl a2.lt⟩
      have g0 := h0.turns
      have r3 := hc.turns
      rw [h4.hta, h4.htl, h4.htc, h4.hma, h4.hml, h4.hmc, ← hl, ha]
      rw [ha] at g0 st'
      rw [← hl] at g0
      exact wholeTurns_some w0 w w0.heap.size c at0 c.turns.length s.tc gt gm T M G r3 hc g0 (Nat.le_refl _) hb' h4.lo1 h4.lo3 st' wl.heap.size (fun i hi => (st.glo i hi).2)

theorem LentI.own {w : World} {sa : Option Addr} {xs : List Int} {va : Option Addr} {vl vc g : Nat} (h : LentI w sa xs va vl vc g) : va ≠ none → g < w.heap.size := by
  intro hv
  rcases h with ⟨_, h2, _, _⟩ | ⟨_, _, _, _, h5⟩
  · exact absurd h2 hv
  · exact h5.lt

set_option maxRecDepth 100000 in
set_option maxHeartbeats 2000000 in
theorem whole_any (w0 w : World) (c : Cf) (s s1 : Sl) (ma : Option Addr) (ml mc : Nat) (h0 : CfgAt w0 c s) (hc : CfR c) (hb : Below w0.heap.size w0 w) (h : LentC w0 w c s s1 ma ml mc) :
    Calls Tryz.prog 32 #[cfgV c s1, .slice ma ml mc, cfgV c s] w fun e w' => e = .returned (.bool true) ∧ Below w0.heap.size w w' := by
  have HC : Hid _ := h
  obtain ⟨⟨⟨g1, b1, h1⟩, ⟨g2, b2, h2⟩⟩, _⟩ := h
  have r1 := hc.ways
  rw [h0.ways.hlen] at r1
  have r2 := hc.slots
  rw [h0.slots.hlen] at r2
  have bW : Below w.heap.size w ((w.alloc (.cells (cfgA c s1) 43)).alloc (.cells (cfgA c s) 43)) := ((Below.refl _ _).alloc (Nat.le_refl _) _).alloc (by simp) _
  have bW0 := below_step hb bW rfl
  have V1 : Hid _ := h1.len h0.ways
  have V2 : Hid _ := h2.len h0.slots
  have o1 := h1.own
  have o2 := h2.own
  have O1 : Hid _ := o1
  have O2 : Hid _ := o2
  have rB : Row ((w.alloc (.cells (cfgA c s1) 43)).alloc (.cells (cfgA c s) 43)) w.heap.size (cfgL c s1) 43 := by
    have : Row (w.alloc (.cells (cfgA c s1) 43)) w.heap.size (cfgL c s1) 43 := heap_alloc_new w _
    exact this.alloc _
  clear o1 o2
  go_enter Tryz.func32, Tryz.ntmps32
  go_wp2_with fail
  refine (wholeInts_any _ _ _ c.ways _ _ _ g1 _ (h0.ways.below bW0 (Nat.le_refl _)) r1 (h1.below bW (Nat.le_refl _))).mono ?_
  rintro e w' ⟨rfl, rfl⟩
  go_wp2_with fail
  refine (wholeInts_any _ _ _ c.slots _ _ _ g2 _ (h0.slots.below bW0 (Nat.le_refl _)) r2 (h2.below bW (Nat.le_refl _))).mono ?_
  rintro e w' ⟨rfl, rfl⟩
  go_wp2_with fail
  refine (wholeTurns_any w0 w _ c s s1 ma ml mc h0 hc hb HC.out bW).mono ?_
  rintro e w2 ⟨rfl, p1, p2, p3⟩
  have q2 : ∀ o, w2.cell? ⟨w.heap.size, o, none⟩ = (cfgA c s1)[o]? := by
    intro o
    have : Row w2 w.heap.size (cfgL c s1) 43 := by unfold Row; rw [p3 _ (Nat.le_refl _)]; exact rB
    rw [this.cell]; simp
  have room1 := ((h1.below bW (Nat.le_refl _)).room).shaped p2
  have room2 := ((h2.below bW (Nat.le_refl _)).room).shaped p2
  have P1 : Hid _ := p1
  clear p1 p2 p3 rB
  go_wp2_with fail
  refine (spoilInts_any _ _ _ g1 w0.heap.size 0 _ (by rw [V1.out]; exact r1) room1 b1).mono ?_
  rintro e w3 ⟨rfl, p1, p2, p3, _⟩
  have q3 : ∀ o, w3.cell? ⟨w.heap.size, o, none⟩ = (cfgA c s1)[o]? := by
    intro o
    rw [World.cell?_of_block (w := w2) (p3 w.heap.size (fun hv => by have := O1.out hv; omega))]
    exact q2 o
  have room2' := room2.shaped p2
  have P3 : Hid _ := p1
  clear p1 p2 p3 q2
  go_wp2_with fail
  refine (spoilInts_any _ _ _ g2 w0.heap.size 0 _ (by rw [V2.out]; exact r2) room2' b2).mono ?_
  rintro e w4 ⟨rfl, p1, p2, p3, _⟩
  have P4 : Hid _ := p1
  clear p1 p2 p3 q3
  go_wp2
  go_ret
  exact ⟨rfl, (((bW.mono hb.size).trans P1.out).trans P3.out).trans P4.out⟩
end Go.Proofs.YtehheaedbnfidaaGreat

namespace Go.Proofs.YtehheaedbnfidaaGreat
open Go.RowKit
attribute [local go_sem] Tryz.nilInts Tryz.nilGrid

set_option maxRecDepth 100000 in
set_option maxHeartbeats 2000000 in
theorem whole_anyT (w0 wl w : World) (c : Cf) (s s1 : Sl) (ma : Option Addr) (ml mc : Nat) (h0 : CfgAt w0 c s) (hc : CfR c) (hb0 : Below w0.heap.size w0 wl) (h : LentC w0 wl c s s1 ma ml mc) (hbl : Below wl.heap.size wl w) :
    Calls Tryz.prog 32 #[cfgV c s1, .slice ma ml mc, cfgV c s] w fun e w' => e = .returned (.bool true) ∧ Below w0.heap.size w w' ∧ ∀ j, wl.heap.size ≤ j → j < w.heap.size → w'.heap[j]? = w.heap[j]? := by
  have hb : Below w0.heap.size w0 w := below_step hb0 hbl rfl
  have HC : Hid _ := h
  obtain ⟨⟨⟨g1, b1, h1w⟩, ⟨g2, b2, h2w⟩⟩, _⟩ := h
  have h1 := h1w.below hbl (Nat.le_refl _)
  have h2 := h2w.below hbl (Nat.le_refl _)
  have hsl : wl.heap.size ≤ w.heap.size := hbl.size
  have r1 := hc.ways
  rw [h0.ways.hlen] at r1
  have r2 := hc.slots
  rw [h0.slots.hlen] at r2
  have bW : Below w.heap.size w ((w.alloc (.cells (cfgA c s1) 43)).alloc (.cells (cfgA c s) 43)) := ((Below.refl _ _).alloc (Nat.le_refl _) _).alloc (by simp) _
  have bW0 := below_step hb bW rfl
  have V1 : Hid _ := h1.len h0.ways
  have V2 : Hid _ := h2.len h0.slots
  have o1 := h1w.own
  have o2 := h2w.own
  have O1 : Hid _ := o1
  have O2 : Hid _ := o2
  have rB : Row ((w.alloc (.cells (cfgA c s1) 43)).alloc (.cells (cfgA c s) 43)) w.heap.size (cfgL c s1) 43 := by
    have : Row (w.alloc (.cells (cfgA c s1) 43)) w.heap.size (cfgL c s1) 43 := heap_alloc_new w _
    exact this.alloc _
  clear o1 o2
  go_enter Tryz.func32, Tryz.ntmps32
  go_wp2_with fail
  refine (wholeInts_any _ _ _ c.ways _ _ _ g1 _ (h0.ways.below bW0 (Nat.le_refl _)) r1 (h1.below bW (Nat.le_refl _))).mono ?_
  rintro e w' ⟨rfl, rfl⟩
  go_wp2_with fail
  refine (wholeInts_any _ _ _ c.slots _ _ _ g2 _ (h0.slots.below bW0 (Nat.le_refl _)) r2 (h2.below bW (Nat.le_refl _))).mono ?_
  rintro e w' ⟨rfl, rfl⟩
  go_wp2_with fail
  refine (wholeTurns_any w0 wl _ c s s1 ma ml mc h0 hc hb0 HC.out (below_step hbl bW rfl)).mono ?_
  rintro e w2 ⟨rfl, p1, p2, p3⟩
  have q2 : ∀ o, w2.cell? ⟨w.heap.size, o, none⟩ = (cfgA c s1)[o]? := by
    intro o
    have : Row w2 w.heap.size (cfgL c s1) 43 := by unfold Row; rw [p3 _ hsl]; exact rB
    rw [this.cell]; simp
  have room1 := ((h1.below bW (Nat.le_refl _)).room).shaped p2
  have room2 := ((h2.below bW (Nat.le_refl _)).room).shaped p2
  have P1 : Hid _ := p1
  have T1 : Hid _ := p3
  clear p1 p2 p3 rB
  go_wp2_with fail
  refine (spoilInts_any _ _ _ g1 w0.heap.size 0 _ (by rw [V1.out]; exact r1) room1 b1).mono ?_
  rintro e w3 ⟨rfl, p1, p2, p3, _⟩
  have q3 : ∀ o, w3.cell? ⟨w.heap.size, o, none⟩ = (cfgA c s1)[o]? := by
    intro o
    rw [World.cell?_of_block (w := w2) (p3 w.heap.size (fun hv => by have := O1.out hv; omega))]
    exact q2 o
  have room2' := room2.shaped p2
  have P3 : Hid _ := p1
  have T3 : Hid _ := p3
  clear p1 p2 p3 q2
  go_wp2_with fail
  refine (spoilInts_any _ _ _ g2 w0.heap.size 0 _ (by rw [V2.out]; exact r2) room2' b2).mono ?_
  rintro e w4 ⟨rfl, p1, p2, p3, _⟩
  have P4 : Hid _ := p1
  have T4 : Hid _ := p3
  clear p1 p2 p3 q3
  go_wp2
  go_ret
  exact ⟨rfl, (((bW.mono hb.size).trans P1.out).trans P3.out).trans P4.out, fun j hj hjw => (((T4.out j (fun hv => by have := O2.out hv; omega)).trans (T3.out j (fun hv => by have := O1.out hv; omega))).trans (T1.out j hj)).trans (bW.block j hjw)⟩
end Go.Proofs.YtehheaedbnfidaaGreat
