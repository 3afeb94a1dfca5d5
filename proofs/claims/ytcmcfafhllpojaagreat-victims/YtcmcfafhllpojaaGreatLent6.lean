/-
  The turns that lent makes: what stands in memory behind each round.
-/
import Derived.Test.YtcmcfafhllpojaaGreatLent5
namespace Go.Proofs.YtcmcfafhllpojaaGreat
open Go.RowKit

/-- k rounds of lent's loop are done: the rows gt and gm hold T and M; G: each round's own block. -/
structure GSt (w wr : World) (lo : Nat) (ta : Option Addr) (xss : List (List Int)) (n k gt gm : Nat) (T M : List Value) (G : Nat → Nat) : Prop where
  rowT : Row wr gt T 25
  rowM : Row wr gm M 25
  lenT : T.length = n + 8
  lenM : M.length = n
  mt : ∀ i, i < k → i < n → M[i]? = T[i]?
  glo : ∀ i, i < k → lo ≤ G i ∧ G i < wr.heap.size
  ginc : ∀ i j, i < j → j < k → G i < G j
  src : ∀ i, i < k → i < n → ∃ b off ia il ic va vl vc, ta = some ⟨b, off, none⟩ ∧ w.cell? ⟨b, off + i, none⟩ = some (.slice ia il ic) ∧ T[i]? = some (.slice va vl vc) ∧ LentI wr ia (xss.getD i []) va vl vc (G i)
  tail : ∀ i, i < k → n ≤ i → T[i]? = some (.slice (some ⟨G i, 0, none⟩) 1 1) ∧ Row wr (G i) [.int .i64 77] 3

theorem GSt.step {w wr wr' : World} {lo : Nat} {ta : Option Addr} {xss : List (List Int)} {n k gt gm g : Nat} {T M M' : List Value} {G : Nat → Nat} {v : Value}
    (h : GSt w wr lo ta xss n k gt gm T M G) (hgt : gt < lo) (hgm : gm < lo) (hk : ∀ j, j < wr.heap.size → j ≠ gt → j ≠ gm → wr'.heap[j]? = wr.heap[j]?) (hsz : wr.heap.size ≤ wr'.heap.size)
    (hloz : lo ≤ wr.heap.size) (rT : Row wr' gt (T.set k v) 25) (rM : Row wr' gm M' 25) (hkn : k < n + 8) (hM' : M' = if k < n then M.set k v else M) (g1 : wr.heap.size ≤ g) (g2 : g < wr'.heap.size)
    (hs : k < n → ∃ b off ia il ic va vl vc, ta = some ⟨b, off, none⟩ ∧ w.cell? ⟨b, off + k, none⟩ = some (.slice ia il ic) ∧ v = .slice va vl vc ∧ LentI wr' ia (xss.getD k []) va vl vc g)
    (ht : n ≤ k → v = .slice (some ⟨g, 0, none⟩) 1 1 ∧ Row wr' g [.int .i64 77] 3) :
    GSt w wr' lo ta xss n (k + 1) gt gm (T.set k v) M' (fun i => if i = k then g else G i) := by
  have hT : k < T.length := by rw [h.lenT]; exact hkn
  refine ⟨rT, rM, by rw [List.length_set, h.lenT], ?_, ?_, ?_, ?_, ?_, ?_⟩
  · subst hM'; split <;> simp [h.lenM]
  · intro i hi hin
    by_cases e : i = k
    · subst e
      rw [hM', if_pos hin, List.getElem?_set_self (by rw [h.lenM]; exact hin), List.getElem?_set_self hT]
    · rw [List.getElem?_set_ne (by omega), hM']
      have := h.mt i (by omega) hin
      split
      · rw [List.getElem?_set_ne (by omega)]; exact this
      · exact this
  · intro i hi
    by_cases e : i = k
    · simp only [e, if_true]; omega
    · simp only [e, if_false]
      have := h.glo i (by omega)
      omega
  · intro i j hij hj
    have e1 : ¬ i = k := by omega
    have := h.glo i (by omega)
    by_cases e2 : j = k
    · simp only [e1, e2, if_true, if_false]; omega
    · simp only [e1, e2, if_false]
      exact h.ginc i j hij (by omega)
  · intro i hi hin
    by_cases e : i = k
    · subst e
      obtain ⟨b, off, ia, il, ic, va, vl, vc, a1, a2, a3, a4⟩ := hs hin
      refine ⟨b, off, ia, il, ic, va, vl, vc, a1, a2, by rw [List.getElem?_set_self hT, a3], by simpa using a4⟩
    · obtain ⟨b, off, ia, il, ic, va, vl, vc, a1, a2, a3, a4⟩ := h.src i (by omega) hin
      have hg := h.glo i (by omega)
      refine ⟨b, off, ia, il, ic, va, vl, vc, a1, a2, by rw [List.getElem?_set_ne (by omega), a3], ?_⟩
      simp only [e, if_false]
      exact a4.same (hk _ hg.2 (by omega) (by omega))
  · intro i hi hin
    by_cases e : i = k
    · subst e
      obtain ⟨a1, a2⟩ := ht hin
      refine ⟨by rw [List.getElem?_set_self hT, a1]; simp, by simpa using a2⟩
    · obtain ⟨a1, a2⟩ := h.tail i (by omega) hin
      have hg := h.glo i (by omega)
      simp only [e, if_false]
      refine ⟨by rw [List.getElem?_set_ne (by omega), a1], ?_⟩
      unfold Row
      rw [hk _ hg.2 (by omega) (by omega)]
      exact a2

theorem GSt.keep {w wr wr' : World} {lo lo0 : Nat} {ta : Option Addr} {xss : List (List Int)} {n k gt gm : Nat} {T M : List Value} {G : Nat → Nat}
    (h : GSt w wr lo ta xss n k gt gm T M G) (hk : ∀ j, lo0 ≤ j → wr'.heap[j]? = wr.heap[j]?) (h1 : lo0 ≤ gt) (h2 : lo0 ≤ gm) (h3 : lo0 ≤ lo) (hsz : wr.heap.size ≤ wr'.heap.size) : GSt w wr' lo ta xss n k gt gm T M G := by
  refine ⟨by unfold Row; rw [hk _ h1]; exact h.rowT, by unfold Row; rw [hk _ h2]; exact h.rowM, h.lenT, h.lenM, h.mt, fun i hi => ⟨(h.glo i hi).1, Nat.lt_of_lt_of_le (h.glo i hi).2 hsz⟩, h.ginc, ?_, ?_⟩
  · intro i hi hin
    obtain ⟨b, off, ia, il, ic, va, vl, vc, a1, a2, a3, a4⟩ := h.src i hi hin
    exact ⟨b, off, ia, il, ic, va, vl, vc, a1, a2, a3, a4.same (hk _ (Nat.le_trans h3 (h.glo i hi).1))⟩
  · intro i hi hin
    obtain ⟨a1, a2⟩ := h.tail i hi hin
    exact ⟨a1, by unfold Row; rw [hk _ (Nat.le_trans h3 (h.glo i hi).1)]; exact a2⟩

/-- A round behind the lists: one block [77], stored into the row. -/
theorem GSt.past {w wr : World} {lo : Nat} {ta : Option Addr} {xss : List (List Int)} {n k gt gm : Nat} {T M : List Value} {G : Nat → Nat}
    (h : GSt w wr lo ta xss n k gt gm T M G) (hgt : gt < lo) (hgm : gm < lo) (hne : gm ≠ gt) (hloz : lo ≤ wr.heap.size) (hkn : k < n + 8) (hn : n ≤ k) :
    GSt w ((wr.alloc (.cells #[.int .i64 77] 3)).setCell ⟨gt, k, none⟩ (.slice (some ⟨wr.heap.size, 0, none⟩) 1 1)) lo ta xss n (k + 1) gt gm (T.set k (.slice (some ⟨wr.heap.size, 0, none⟩) 1 1)) M (fun i => if i = k then wr.heap.size else G i) := by
  refine h.step hgt hgm ?_ ?_ hloz ?_ ?_ hkn ?_ (Nat.le_refl _) ?_ ?_ ?_
  · intro j h1 h2 h3
    rw [Below.heap_setCell _ _ _ _ h2, Below.heap_alloc _ _ _ h1]
  · simp [World.setCell]
  · exact (h.rowT.alloc _).setCell k _
  · exact (h.rowM.alloc _).setCellOther _ _ hne
  · rw [if_neg (by omega)]
  · simp [World.setCell]
  · intro h1; omega
  · intro _
    refine ⟨rfl, ?_⟩
    have : Row (wr.alloc (.cells #[.int .i64 77] 3)) wr.heap.size [.int .i64 77] 3 := heap_alloc_new wr _
    exact this.setCellOther _ _ (by omega)

/-- A round at a list: one block [77], and the list's own. -/
theorem GSt.list {w wr w2 : World} {lo : Nat} {ta : Option Addr} {xss : List (List Int)} {n k gt gm : Nat} {T M : List Value} {G : Nat → Nat} {b off : Nat} {ia va : Option Addr} {il ic vl vc : Nat} {u : Value}
    (h : GSt w wr lo ta xss n k gt gm T M G) (hgt : gt < lo) (hgm : gm < lo) (hne : gm ≠ gt) (hloz : lo ≤ wr.heap.size) (hn : k < n)
    (a1 : ta = some ⟨b, off, none⟩) (a2 : w.cell? ⟨b, off + k, none⟩ = some (.slice ia il ic))
    (hb : Below (wr.heap.size + 1) ((wr.alloc (.cells #[.int .i64 77] 3)).setCell ⟨gt, k, none⟩ u) w2)
    (hl : LentI w2 ia (xss.getD k []) va vl vc (wr.heap.size + 1)) :
    ∃ G', GSt w ((w2.setCell ⟨gm, k, none⟩ (.slice va vl vc)).setCell ⟨gt, k, none⟩ (.slice va vl vc)) lo ta xss n (k + 1) gt gm (T.set k (.slice va vl vc)) (M.set k (.slice va vl vc)) G' := by
  have hz : wr.heap.size + 1 ≤ w2.heap.size := by
    have := hb.size
    simpa [World.setCell] using this
  have hk2 : ∀ j, j < wr.heap.size → j ≠ gt → w2.heap[j]? = wr.heap[j]? := by
    intro j h1 h2
    rw [hb.block j (by omega), Below.heap_setCell _ _ _ _ h2, Below.heap_alloc _ _ _ h1]
  have rT2 : Row w2 gt (T.set k u) 25 := by
    have := (h.rowT.alloc (.cells #[.int .i64 77] 3)).setCell k u
    exact this.below hb (by omega)
  have rM2 : Row w2 gm M 25 := by
    unfold Row
    rw [hk2 gm (by omega) hne]
    exact h.rowM
  have hl' : ∃ g, wr.heap.size ≤ g ∧ g < w2.heap.size ∧ LentI w2 ia (xss.getD k []) va vl vc g := by
    rcases hl with hl | ⟨e1, e2, e3, e4, e5⟩
    · exact ⟨wr.heap.size, Nat.le_refl _, by omega, Or.inl hl⟩
    · exact ⟨wr.heap.size + 1, by omega, e5.lt, Or.inr ⟨e1, e2, e3, e4, e5⟩⟩
  obtain ⟨g, g1, g2, hlg⟩ := hl'
  refine ⟨_, h.step (g := g) hgt hgm ?_ ?_ hloz ?_ ?_ (by omega) ?_ g1 ?_ ?_ ?_⟩
  · intro j h1 h2 h3
    rw [Below.heap_setCell _ _ _ _ h2, Below.heap_setCell _ _ _ _ h3, hk2 j h1 h2]
  · simp [World.setCell]; omega
  · have := (rT2.setCellOther (g := gm) k (.slice va vl vc) (Ne.symm hne)).setCell k (.slice va vl vc)
    simpa using this
  · exact (rM2.setCell k _).setCellOther _ _ hne
  · rw [if_pos hn]
  · simpa [World.setCell] using g2
  · intro _
    refine ⟨b, off, ia, il, ic, va, vl, vc, a1, a2, rfl, ?_⟩
    refine hlg.same ?_
    rw [Below.heap_setCell _ _ _ _ (by simp only []; omega), Below.heap_setCell _ _ _ _ (by simp only []; omega)]
  · intro h1; omega

end Go.Proofs.YtcmcfafhllpojaaGreat
