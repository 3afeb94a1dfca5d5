/-
  Link, Link2, Link3, Link4, Link5, Link6, Link7, Link8, Link9
-/
import Derived.Test.YtehheaedbnfidaaGreatClPackC
import Derived.Test.YtehheaedbnfidaaGreatClPackB
namespace Go.Proofs.YtehheaedbnfidaaGreat

/-- The blocks of a domain, by what has happened. -/
structure FarR (c : Cf) (ns wn ln : Nat) (first : Int → Int) (blk : Nat → Nat → Bk) (L : List Ent) : Prop where
  line : ∀ s j, s < ns → j < wn → (blk s j).line = liesF c s j L
  wh : ∀ x : Nat, whereF x L = wayF (blk (x % ns)) wn x
  low : ∀ s j, s < ns → j < wn → -1 ≤ (blk s j).line
  set : ∀ s j, s < ns → j < wn → 0 ≤ (blk s j).line → (blk s j).line % (ns : Int) = s
  one : ∀ s i j, s < ns → i < wn → j < wn → 0 ≤ (blk s i).line → (blk s i).line = (blk s j).line → i = j
  mkd : ∀ s j, s < ns → j < wn → 0 ≤ (blk s j).line → (blk s j).mkd = markedF (blk s j).line L
  wd : ∀ s j i, s < ns → j < wn → i < ln → 0 ≤ (blk s j).line → (blk s j).wd i = wordF ((blk s j).line * ln + i) (first ((blk s j).line * ln + i)) L

theorem first_none {p : Nat → Bool} : ∀ (n j : Nat), (∀ i, j ≤ i → i < j + n → p i = false) → firstW p n j = -1
  | 0, _, _ => rfl
  | n + 1, j, h => by
    unfold firstW
    rw [if_neg (by rw [h j (Nat.le_refl _) (by omega)]; simp)]
    exact first_none n (j + 1) (fun i h1 h2 => h i (by omega) (by omega))
theorem first_hit {p : Nat → Bool} {k : Nat} : ∀ (n j : Nat), j ≤ k → k < j + n → p k = true → (∀ i, j ≤ i → i < k → p i = false) → firstW p n j = k
  | 0, j, h1, h2, _, _ => by omega
  | n + 1, j, h1, h2, h3, h4 => by
    unfold firstW
    by_cases e : j = k
    · subst e; rw [if_pos h3]
    · rw [if_neg (by rw [h4 j (Nat.le_refl _) (by omega)]; simp)]
      exact first_hit n (j + 1) (by omega) (by omega) h3 (fun i h5 h6 => h4 i (by omega) h6)
/-- The way of a line that lies in just one. -/
theorem way_is {b : Nat → Bk} {n k : Nat} {x : Int} (hk : k < n) (hl : (b k).line = x) (ho : ∀ i, i < n → (b i).line = x → i = k) : wayF b n x = k :=
  first_hit n 0 (Nat.zero_le _) (by omega) (by simp [hl]) (fun i _ h2 => by
    have : ¬ (b i).line = x := fun e => by have := ho i (by omega) e; omega
    simp [this])
theorem way_none {b : Nat → Bk} {n : Nat} {x : Int} (ho : ∀ i, i < n → (b i).line ≠ x) : wayF b n x = -1 :=
  first_none n 0 (fun i _ h2 => by simp [ho i (by omega)])

theorem FarR.start (c : Cf) (ns wn ln : Nat) (first : Int → Int) : FarR c ns wn ln first (fun _ _ => bkE) [] :=
  ⟨fun _ _ _ _ => rfl, fun x => (way_none (fun i _ => by show (-1 : Int) ≠ x; omega)).symm, fun _ _ _ _ => by show (-1 : Int) ≤ -1; omega, fun _ _ _ _ h => by have : (0 : Int) ≤ -1 := h; omega, fun _ _ _ _ _ _ h => by have : (0 : Int) ≤ -1 := h; omega, fun _ _ _ _ h => by have : (0 : Int) ≤ -1 := h; omega, fun _ _ _ _ _ _ h => by have : (0 : Int) ≤ -1 := h; omega⟩

/-- What neither fills, takes away nor stores. -/
theorem FarR.other {c : Cf} {ns wn ln : Nat} {first : Int → Int} {blk : Nat → Nat → Bk} {L : List Ent} (h : FarR c ns wn ln first blk L) {e : Ent} (h1 : e.what ≠ 1) (h2 : e.what ≠ 2) (h4 : e.what ≠ 4) : FarR c ns wn ln first blk (e :: L) := by
  have b1 : (e.what == 1) = false := by simp [h1]
  have b4 : (e.what == 4) = false := by simp [h4]
  refine ⟨fun s j hs hj => by rw [liesF_far h1 h2]; exact h.line s j hs hj, fun x => by rw [whereF_far h1 h2]; exact h.wh x, h.low, h.set, h.one, fun s j hs hj h0 => ?_, fun s j i hs hj hi h0 => ?_⟩
  · rw [h.mkd s j hs hj h0]; simp [markedF, b1, b4]
  · rw [h.wd s j i hs hj hi h0]; simp [wordF, b4]

/-- A line is taken away: its way is empty. -/
theorem FarR.gone {c : Cf} {ns wn ln : Nat} {first : Int → Int} {blk : Nat → Nat → Bk} {L : List Ent} (h : FarR c ns wn ln first blk L) (hns : (ns : Int) = c.sets) (h0 : 0 < ns) {t : Int} {y r : Nat} (hr : r < wn) (hy : (blk (y % ns) r).line = y) :
    FarR c ns wn ln first (up2 blk (y % ns) r bkE) (⟨t, 2, 0, y, r, false, false, 0, 0⟩ :: L) := by
  have hs : y % ns < ns := Nat.mod_lt _ h0
  have hm : ((y : Int) % c.sets) = ((y % ns : Nat) : Int) := by rw [← hns]; simp
  have keep : ∀ s j, ¬ (s = y % ns ∧ j = r) → up2 blk (y % ns) r bkE s j = blk s j := fun s j hn => by simp [up2, hn]
  have kn : ∀ s j, s < ns → j < wn → 0 ≤ (up2 blk (y % ns) r bkE s j).line → ¬ (s = y % ns ∧ j = r) := fun s j _ _ hh hc => by
    have : up2 blk (y % ns) r bkE s j = bkE := by simp [up2, hc]
    rw [this] at hh
    have : (0 : Int) ≤ -1 := hh
    omega
  have ny : ∀ s j, s < ns → j < wn → 0 ≤ (up2 blk (y % ns) r bkE s j).line → (up2 blk (y % ns) r bkE s j).line ≠ y := fun s j hs' hj hh e => by
    have hn := kn s j hs' hj hh
    rw [keep s j hn] at e hh
    have h1 := h.set s j hs' hj hh
    rw [e] at h1
    have h2 : s = y % ns := by omega
    subst h2
    exact hn ⟨rfl, h.one _ _ _ hs' hj hr hh (e.trans hy.symm)⟩
  refine ⟨fun s j hs' hj => ?_, fun x => ?_, fun s j hs' hj => ?_, fun s j hs' hj hh => ?_, fun s i j hs' hi hj hh he => ?_, fun s j hs' hj hh => ?_, fun s j i hs' hj hi hh => ?_⟩
  · by_cases hc : s = y % ns ∧ j = r
    · obtain ⟨rfl, rfl⟩ := hc
      simp [up2, liesF, hm, bkE]
    · rw [keep s j hc, h.line s j hs' hj]
      have : ¬ (((y % ns : Nat) : Int) = s ∧ (r : Int) = j) := by omega
      by_cases e1 : ((y % ns : Nat) : Int) = s
      · have e2 : ¬ (r : Int) = j := fun e => this ⟨e1, e⟩
        simp [liesF, e2]
      · have e1' : ¬ ((y : Int) % c.sets = (s : Int)) := by rw [hm]; exact e1
        simp [liesF, e1']
  · by_cases e : x = y
    · subst e
      rw [way_none]
      · simp [whereF]
      · intro i hi he
        by_cases hh : 0 ≤ (up2 blk (x % ns) r bkE (x % ns) i).line
        · exact ny _ _ hs hi hh he
        · omega
    · have e' : ¬ (y : Int) = (x : Int) := by omega
      have hw : whereF (x : Int) (⟨t, 2, 0, y, r, false, false, 0, 0⟩ :: L) = whereF x L := by simp [whereF, e']
      rw [hw, h.wh x]
      unfold wayF
      congr 1
      funext j
      by_cases hc : x % ns = y % ns ∧ j = r
      · have h1 : up2 blk (y % ns) r bkE (x % ns) j = bkE := by simp [up2, hc]
        have h2 : (blk (x % ns) j).line = y := by rw [hc.1, hc.2]; exact hy
        rw [h1, h2]
        have : ¬ (bkE.line = (x : Int)) := by show ¬ (-1 : Int) = x; omega
        simp [this, e']
      · rw [keep _ _ hc]
  · by_cases hc : s = y % ns ∧ j = r
    · have : up2 blk (y % ns) r bkE s j = bkE := by simp [up2, hc]
      rw [this]; show (-1 : Int) ≤ -1; omega
    · rw [keep s j hc]; exact h.low s j hs' hj
  · have hn := kn s j hs' hj hh
    rw [keep s j hn] at hh ⊢
    exact h.set s j hs' hj hh
  · have hn := kn s i hs' hi hh
    have hn2 := kn s j hs' hj (by rw [← he]; exact hh)
    rw [keep s i hn] at hh he
    rw [keep s j hn2] at he
    exact h.one s i j hs' hi hj hh he
  · have hn := kn s j hs' hj hh
    have hny := ny s j hs' hj hh
    rw [keep s j hn] at hh hny ⊢
    rw [h.mkd s j hs' hj hh]
    simp [markedF]
  · have hn := kn s j hs' hj hh
    rw [keep s j hn] at hh ⊢
    rw [h.wd s j i hs' hj hi hh]
    simp [wordF]

/-- A line is filled into an empty way. -/
theorem FarR.fill {c : Cf} {ns wn ln : Nat} {first : Int → Int} {blk : Nat → Nat → Bk} {L : List Ent} (h : FarR c ns wn ln first blk L) (hns : (ns : Int) = c.sets) (h0 : 0 < ns) {t : Int} {x r : Nat} {F : Nat → Int} (hr : r < wn) (he : (blk (x % ns) r).line = -1) (hno : wayF (blk (x % ns)) wn x = -1)
    (hF : ∀ i, i < ln → F i = wordF ((x : Int) * ln + i) (first ((x : Int) * ln + i)) L) :
    FarR c ns wn ln first (up2 blk (x % ns) r ⟨x, false, F⟩) (⟨t, 1, 0, x, r, false, false, 0, 0⟩ :: L) := by
  have hs : x % ns < ns := Nat.mod_lt _ h0
  have hm : ((x : Int) % c.sets) = ((x % ns : Nat) : Int) := by rw [← hns]; simp
  have at' : ∀ s j, s = x % ns ∧ j = r → up2 blk (x % ns) r ⟨x, false, F⟩ s j = ⟨x, false, F⟩ := fun s j hc => by simp [up2, hc]
  have keep : ∀ s j, ¬ (s = x % ns ∧ j = r) → up2 blk (x % ns) r ⟨x, false, F⟩ s j = blk s j := fun s j hn => by simp [up2, hn]
  have nx : ∀ s j, s < ns → j < wn → (blk s j).line ≠ x := fun s j hs' hj e => by
    have h1 := h.set s j hs' hj (by omega)
    rw [e] at h1
    have h2 : s = x % ns := by omega
    subst h2
    have h3 := way_is hj e (fun i hi hi2 => h.one _ i j hs' hi hj (by omega) (hi2.trans e.symm))
    rw [h3] at hno
    omega
  refine ⟨fun s j hs' hj => ?_, fun y => ?_, fun s j hs' hj => ?_, fun s j hs' hj hh => ?_, fun s i j hs' hi hj hh hq => ?_, fun s j hs' hj hh => ?_, fun s j i hs' hj hi hh => ?_⟩
  · by_cases hc : s = x % ns ∧ j = r
    · rw [at' s j hc]
      obtain ⟨rfl, rfl⟩ := hc
      simp [liesF, hm]
    · rw [keep s j hc, h.line s j hs' hj]
      have : ¬ (((x % ns : Nat) : Int) = s ∧ (r : Int) = j) := by omega
      by_cases e1 : ((x % ns : Nat) : Int) = s
      · have e2 : ¬ (r : Int) = j := fun e => this ⟨e1, e⟩
        simp [liesF, e2]
      · have e1' : ¬ ((x : Int) % c.sets = (s : Int)) := by rw [hm]; exact e1
        simp [liesF, e1']
  · by_cases e : y = x
    · subst e
      have hw : whereF (y : Int) (⟨t, 1, 0, y, r, false, false, 0, 0⟩ :: L) = r := by simp [whereF]
      rw [hw]
      refine (way_is hr (by rw [at' _ _ ⟨rfl, rfl⟩]) (fun i hi hi2 => ?_)).symm
      by_cases e2 : i = r
      · exact e2
      · rw [keep _ _ (fun hc => e2 hc.2)] at hi2
        exact absurd hi2 (nx _ i hs hi)
    · have e' : ¬ (x : Int) = (y : Int) := by omega
      have hw : whereF (y : Int) (⟨t, 1, 0, x, r, false, false, 0, 0⟩ :: L) = whereF y L := by simp [whereF, e']
      rw [hw, h.wh y]
      unfold wayF
      congr 1
      funext j
      by_cases hc : y % ns = x % ns ∧ j = r
      · have h2 : (blk (y % ns) j).line = -1 := by rw [hc.1, hc.2]; exact he
        rw [at' _ _ hc, h2]
        have : ¬ ((-1 : Int) = (y : Int)) := by omega
        simp [this, e']
      · rw [keep _ _ hc]
  · by_cases hc : s = x % ns ∧ j = r
    · rw [at' s j hc]; show (-1 : Int) ≤ x; omega
    · rw [keep s j hc]; exact h.low s j hs' hj
  · by_cases hc : s = x % ns ∧ j = r
    · rw [at' s j hc, hc.1]; show (x : Int) % ns = _; simp
    · rw [keep s j hc] at hh ⊢; exact h.set s j hs' hj hh
  · by_cases hc : s = x % ns ∧ i = r
    · by_cases hd : s = x % ns ∧ j = r
      · omega
      · rw [at' s i hc, keep s j hd] at hq
        exact absurd hq.symm (nx s j hs' hj)
    · by_cases hd : s = x % ns ∧ j = r
      · rw [keep s i hc, at' s j hd] at hq
        exact absurd hq (nx s i hs' hi)
      · rw [keep s i hc] at hh
        rw [keep s i hc, keep s j hd] at hq
        exact h.one s i j hs' hi hj hh hq
  · by_cases hc : s = x % ns ∧ j = r
    · rw [at' s j hc]; simp [markedF]
    · rw [keep s j hc] at hh ⊢
      rw [h.mkd s j hs' hj hh]
      have := nx s j hs' hj
      have : ¬ ((x : Int) = (blk s j).line) := fun e => this e.symm
      simp [markedF, this]
  · by_cases hc : s = x % ns ∧ j = r
    · rw [at' s j hc]
      show F i = _
      rw [hF i hi]; simp [wordF]
    · rw [keep s j hc] at hh ⊢
      rw [h.wd s j i hs' hj hi hh]; simp [wordF]
end Go.Proofs.YtehheaedbnfidaaGreat

namespace Go.Proofs.YtehheaedbnfidaaGreat

/-- The near copies of a domain at the time t, by what has happened. -/
def NearR (c : Cf) (nn nc : Nat) (nr : Nat → Nat → Cp) (d : Int) (t : Int) (L : List Ent) : Prop :=
  ∀ k x : Nat, k < nc → stateN nn nr k d x = stateF c k x t false L

theorem stateN_put (nn : Nat) (nr : Nat → Nat → Cp) (k : Nat) (d : Int) (x : Nat) (s : Int) (j : Nat) (e : Int) (y : Nat) :
    stateN nn (putN nn nr k d x s) j e y = if j = k ∧ y % nn = x % nn then (if d = e ∧ x = y then s else 0) else stateN nn nr j e y := by
  unfold stateN putN up2
  by_cases h : j = k ∧ y % nn = x % nn
  · rw [if_pos h, if_pos h]
    simp only
    by_cases g : d = e ∧ x = y
    · rw [if_pos g, if_pos ⟨g.1, by rw [g.2]⟩]
    · rw [if_neg g, if_neg (fun q => g ⟨q.1, by omega⟩)]
  · rw [if_neg h, if_neg h]

theorem stateN_dropAll (p : Nat → Bool) (nn : Nat) (nr : Nat → Nat → Cp) (d : Int) (x j : Nat) (e : Int) (y : Nat) :
    stateN nn (dropAllN p nn nr d x) j e y = if p j = true ∧ e = d ∧ y = x then 0 else stateN nn nr j e y := by
  by_cases h : p j = true ∧ y % nn = x % nn ∧ stateN nn nr j d x ≠ 0
  · have e1 : dropAllN p nn nr d x j (y % nn) = cpE := by unfold dropAllN; rw [if_pos h]
    have l0 : stateN nn (dropAllN p nn nr d x) j e y = 0 := by
      conv => lhs; unfold stateN
      rw [e1]
      split
      · rfl
      · rfl
    rw [l0]
    split
    · rfl
    · next g =>
      obtain ⟨h1, h2, h3⟩ := h
      unfold stateN at h3 ⊢
      rw [h2]
      by_cases q : (nr j (x % nn)).dom = d ∧ (nr j (x % nn)).line = x
      · rw [if_neg (fun q2 => g ⟨h1, q2.1.symm.trans q.1, by omega⟩)]
      · rw [if_neg q] at h3; exact absurd rfl h3
  · have e1 : dropAllN p nn nr d x j (y % nn) = nr j (y % nn) := by unfold dropAllN; rw [if_neg h]
    have l0 : stateN nn (dropAllN p nn nr d x) j e y = stateN nn nr j e y := by
      unfold stateN
      rw [e1]
    rw [l0]
    split
    · next g =>
      obtain ⟨g1, rfl, rfl⟩ := g
      exact Classical.byContradiction fun q => h ⟨g1, rfl, q⟩
    · rfl

theorem stateN_shareAll (p : Nat → Bool) (nn : Nat) (nr : Nat → Nat → Cp) (d : Int) (x j : Nat) (e : Int) (y : Nat) :
    stateN nn (shareAllN p nn nr d x) j e y = if p j = true ∧ e = d ∧ y = x ∧ stateN nn nr j d x ≠ 0 then 1 else stateN nn nr j e y := by
  by_cases h : p j = true ∧ y % nn = x % nn ∧ stateN nn nr j d x ≠ 0
  · have e1 : shareAllN p nn nr d x j (y % nn) = ⟨d, x, 1⟩ := by unfold shareAllN; rw [if_pos h]
    obtain ⟨h1, h2, h3⟩ := h
    have l0 : stateN nn (shareAllN p nn nr d x) j e y = if d = e ∧ (x : Int) = y then 1 else 0 := by
      conv => lhs; unfold stateN
      rw [e1]
    rw [l0]
    by_cases g : e = d ∧ y = x
    · rw [if_pos ⟨g.1.symm, by rw [g.2]⟩, if_pos ⟨h1, g.1, g.2, h3⟩]
    · rw [if_neg (fun q => g ⟨q.1.symm, by omega⟩), if_neg (fun q => g ⟨q.2.1, q.2.2.1⟩)]
      unfold stateN at h3 ⊢
      rw [h2]
      by_cases q : (nr j (x % nn)).dom = d ∧ (nr j (x % nn)).line = x
      · rw [if_neg (fun q2 => g ⟨q2.1.symm.trans q.1, by omega⟩)]
      · rw [if_neg q] at h3; exact absurd rfl h3
  · have e1 : shareAllN p nn nr d x j (y % nn) = nr j (y % nn) := by unfold shareAllN; rw [if_neg h]
    have l0 : stateN nn (shareAllN p nn nr d x) j e y = stateN nn nr j e y := by
      unfold stateN
      rw [e1]
    rw [l0, if_neg (fun g => h ⟨g.1, by rw [g.2.2.1], g.2.2.2⟩)]

theorem flushed_self {c : Cf} (R : Right c) (t : Int) : flushedB c t t = false := by
  have q1 := R.q1
  have f1 := R.f1
  have w0 := R.w0
  have e1 := Int.mul_ediv_add_emod t c.quantum
  have l1 := Int.emod_lt_of_pos t (show 0 < c.quantum by omega)
  have e2 : t / c.quantum * c.quantum = c.quantum * (t / c.quantum) := Int.mul_comm _ _
  unfold flushedB flushAt
  split
  · rfl
  · have : ¬ (t / c.quantum * c.quantum + c.quantum - c.flush + c.quantum ≤ t) := by omega
    simp [this]

theorem stateF_fill {c : Cf} {k x t : Int} {lw : Bool} {L : List Ent} {e : Ent} (hf : flushedB c e.t t = false) (h : e.what = 1) : stateF c k x t lw (e :: L) = stateF c k x t lw L := by
  conv => lhs; unfold stateF
  simp [hf, h]
theorem stateF_gone {c : Cf} {k x t : Int} {lw : Bool} {L : List Ent} {e : Ent} (hf : flushedB c e.t t = false) (h : e.what = 2) : stateF c k x t lw (e :: L) = if x = e.line then 0 else stateF c k x t lw L := by
  conv => lhs; unfold stateF
  by_cases g : x = e.line
  · simp [hf, h, g]
  · have g' : ¬ e.line = x := fun q => g q.symm
    simp [hf, h, g, g']
theorem stateF_store {c : Cf} {k x t : Int} {lw : Bool} {L : List Ent} {e : Ent} (hf : flushedB c e.t t = false) (h : e.what = 4) : stateF c k x t lw (e :: L) = if k = e.core ∧ x = e.line then (if lw = true then 1 else 3) else stateF c k x t lw L := by
  conv => lhs; unfold stateF
  by_cases g : k = e.core ∧ x = e.line
  · obtain ⟨rfl, rfl⟩ := g
    cases lw <;> simp [hf, h]
  · rw [if_neg g]
    by_cases g1 : e.core = k
    · have g2 : ¬ e.line = x := fun q => g ⟨g1.symm, q.symm⟩
      simp [hf, h, g2]
    · simp [hf, h, g1]
theorem stateF_hand {c : Cf} {k x t : Int} {lw : Bool} {L : List Ent} {e : Ent} (hf : flushedB c e.t t = false) (h : e.what = 3) : stateF c k x t lw (e :: L) =
    if k = e.core then (if x = e.line then (if e.lo = true ∧ lw = false then 2 else 1) else if e.line % c.near = x % c.near then 0 else stateF c k x t lw L)
    else if x = e.line then (if e.st = true then 0 else stateF c k x t true L) else stateF c k x t lw L := by
  conv => lhs; unfold stateF
  by_cases g1 : k = e.core
  · subst g1
    rw [if_pos rfl]
    by_cases g2 : x = e.line
    · subst g2
      rw [if_pos rfl]
      cases e.lo <;> cases lw <;> simp [hf, h]
    · have g2' : ¬ e.line = x := fun q => g2 q.symm
      rw [if_neg g2]
      by_cases g3 : e.line % c.near = x % c.near
      · simp [hf, h, g2', g3]
      · simp [hf, h, g2', g3]
  · have g1' : ¬ e.core = k := fun q => g1 q.symm
    rw [if_neg g1]
    by_cases g2 : x = e.line
    · subst g2
      rw [if_pos rfl]
      cases e.st <;> simp [hf, h, g1']
    · have g2' : ¬ e.line = x := fun q => g2 q.symm
      rw [if_neg g2]
      simp [hf, h, g2', g1']

theorem stateF_lw {c : Cf} {k x t : Int} : ∀ (L : List Ent), stateF c k x t true L = if stateF c k x t false L = 0 then 0 else 1
  | [] => rfl
  | e :: L => by
    have ih := stateF_lw (c := c) (k := k) (x := x) (t := t) L
    have dbl : (if stateF c k x t true L = 0 then (0 : Int) else 1) = stateF c k x t true L := by
      by_cases q : stateF c k x t false L = 0
      · rw [ih, if_pos q]; rfl
      · rw [ih, if_neg q]; rfl
    by_cases h0 : flushedB c e.t t = true
    · unfold stateF; rw [if_pos h0, if_pos h0]; rfl
    · have h0' : flushedB c e.t t = false := by simpa using h0
      by_cases h2 : e.what = 2
      · rw [stateF_gone h0' h2, stateF_gone h0' h2]
        split
        · rfl
        · exact ih
      · by_cases h3 : e.what = 3
        · rw [stateF_hand h0' h3, stateF_hand h0' h3]
          split
          · split
            · cases e.lo <;> simp
            · split
              · rfl
              · exact ih
          · split
            · split
              · rfl
              · exact dbl.symm
            · exact ih
        · by_cases h4 : e.what = 4
          · rw [stateF_store h0' h4, stateF_store h0' h4]
            split
            · simp
            · exact ih
          · have skip : ∀ lw, stateF c k x t lw (e :: L) = stateF c k x t lw L := fun lw => by
              conv => lhs; unfold stateF
              simp [h0', h2, h3, h4]
            rw [skip, skip]; exact ih

theorem NearR.fill {c : Cf} {nn nc : Nat} {nr : Nat → Nat → Cp} {d t : Int} {L : List Ent} (R : Right c) (h : NearR c nn nc nr d t L) {e : Ent} (ht : e.t = t) (hw : e.what = 1) : NearR c nn nc nr d t (e :: L) := fun k x hk => by
  rw [stateF_fill (by rw [ht]; exact flushed_self R t) hw]; exact h k x hk
theorem NearR.gone {c : Cf} {nn nc : Nat} {nr : Nat → Nat → Cp} {d t : Int} {L : List Ent} (R : Right c) (h : NearR c nn nc nr d t L) {e : Ent} {y : Nat} (ht : e.t = t) (hw : e.what = 2) (hy : e.line = y) : NearR c nn nc (dropAllN (fun j => decide (j < nc)) nn nr d y) d t (e :: L) := fun k x hk => by
  rw [stateF_gone (by rw [ht]; exact flushed_self R t) hw, stateN_dropAll, hy]
  by_cases g : x = y
  · rw [if_pos ⟨by simp [hk], rfl, g⟩, if_pos (by rw [g])]
  · rw [if_neg (fun q => g q.2.2), if_neg (by omega)]; exact h k x hk
theorem near_mod {c : Cf} {nn x y : Nat} (hn : (nn : Int) = c.near) : ((x : Int) % c.near = (y : Int) % c.near) ↔ x % nn = y % nn := by
  rw [← hn]; omega
theorem NearR.hitStore {c : Cf} {nn nc : Nat} {nr : Nat → Nat → Cp} {d t : Int} {L : List Ent} (R : Right c) (h : NearR c nn nc nr d t L) {e : Ent} {k y : Nat} (ht : e.t = t) (hw : e.what = 4) (hk : e.core = k) (hy : e.line = y) (hs : stateN nn nr k d y ≠ 0) : NearR c nn nc (putN nn nr k d y 3) d t (e :: L) := fun j x hj => by
  rw [stateF_store (by rw [ht]; exact flushed_self R t) hw, stateN_put, hk, hy]
  by_cases g : j = k
  · subst g
    by_cases g2 : x = y
    · subst g2
      rw [if_pos ⟨rfl, rfl⟩, if_pos ⟨rfl, rfl⟩, if_pos ⟨rfl, rfl⟩]; rfl
    · rw [if_neg (fun q : (j : Int) = j ∧ (x : Int) = y => g2 (by omega))]
      by_cases g3 : x % nn = y % nn
      · rw [if_pos ⟨rfl, g3⟩, if_neg (fun q => g2 q.2.symm), ← h j x hj]
        unfold stateN at hs ⊢
        rw [g3]
        by_cases q : (nr j (y % nn)).dom = d ∧ (nr j (y % nn)).line = y
        · rw [if_neg (fun q2 => g2 (by omega))]
        · rw [if_neg q] at hs; exact absurd rfl hs
      · rw [if_neg (fun q => g3 q.2)]; exact h j x hj
  · rw [if_neg (fun q => g q.1), if_neg (fun q => g (by omega))]; exact h j x hj
theorem NearR.handStore {c : Cf} {nn nc : Nat} {nr : Nat → Nat → Cp} {d t : Int} {L : List Ent} (R : Right c) (h : NearR c nn nc nr d t L) (hn : (nn : Int) = c.near) {e f : Ent} {k y : Nat} (ht : e.t = t) (hw : e.what = 3) (hst : e.st = true) (hk : e.core = k) (hy : e.line = y) (ft : f.t = t) (fw : f.what = 4) (fk : f.core = k) (fy : f.line = y) :
    NearR c nn nc (putN nn (dropAllN (fun j => decide (j < nc ∧ j ≠ k)) nn nr d y) k d y 3) d t (f :: e :: L) := fun j x hj => by
  rw [stateF_store (by rw [ft]; exact flushed_self R t) fw, stateF_hand (by rw [ht]; exact flushed_self R t) hw, stateN_put, stateN_dropAll, fk, fy, hk, hy, hst]
  by_cases g : j = k
  · subst g
    rw [if_pos rfl]
    by_cases g2 : x = y
    · subst g2
      rw [if_pos ⟨rfl, rfl⟩, if_pos ⟨rfl, rfl⟩, if_pos ⟨rfl, rfl⟩]; rfl
    · rw [if_neg (fun q : (j : Int) = j ∧ (x : Int) = y => g2 (by omega)), if_neg (fun q : (x : Int) = y => g2 (by omega))]
      by_cases g3 : x % nn = y % nn
      · rw [if_pos ⟨rfl, g3⟩, if_neg (fun q => g2 q.2.symm), if_pos ((near_mod hn).2 g3.symm)]
      · rw [if_neg (fun q => g3 q.2), if_neg (fun q => g2 q.2.2), if_neg (fun q => g3 ((near_mod hn).1 q).symm)]; exact h j x hj
  · have gi : ¬ ((j : Int) = k) := by omega
    rw [if_neg (fun q : j = k ∧ x % nn = y % nn => g q.1), if_neg (fun q : (j : Int) = k ∧ (x : Int) = y => gi q.1), if_neg gi]
    by_cases g2 : x = y
    · subst g2
      rw [if_pos ⟨by simp [hj, g], rfl, rfl⟩, if_pos rfl, if_pos rfl]
    · rw [if_neg (fun q => g2 q.2.2), if_neg (by omega)]; exact h j x hj

theorem found_lone {c : Cf} {nn nc : Nat} {nr : Nat → Nat → Cp} {d t : Int} {L : List Ent} (h : NearR c nn nc nr d t L) (k x : Nat) : foundN nn nr k d x nc = !loneF c k x t L nc 0 := by
  have key : ∀ n i : Nat, i + n = nc → (loneF c k x t L n i = true ↔ ∀ j, i ≤ j → j < nc → ¬ (j ≠ k ∧ stateN nn nr j d x ≠ 0)) := by
    intro n
    induction n with
    | zero => intro i hi; exact ⟨fun _ j h1 h2 => absurd h2 (by omega), fun _ => rfl⟩
    | succ n ih =>
      intro i hi
      unfold loneF
      have hcast : ((i : Int) + 1) = ((i + 1 : Nat) : Int) := by omega
      by_cases g : (i : Int) ≠ k ∧ stateF c i x t false L ≠ 0
      · rw [if_pos g]
        refine ⟨fun q => absurd q (by decide), fun q => absurd ⟨?_, ?_⟩ (q i (Nat.le_refl _) (by omega))⟩
        · omega
        · rw [h i x (by omega)]; exact g.2
      · rw [if_neg g, hcast, ih (i + 1) (by omega)]
        refine ⟨fun q j h1 h2 => ?_, fun q j h1 h2 => q j (by omega) h2⟩
        by_cases e : j = i
        · subst e
          intro w
          exact g ⟨by omega, by rw [← h j x h2]; exact w.2⟩
        · exact q j (by omega) h2
  have key2 : ∀ n : Nat, (foundN nn nr k d x n = true ↔ ∃ j, j < n ∧ (j ≠ k ∧ stateN nn nr j d x ≠ 0)) := by
    intro n
    induction n with
    | zero => exact ⟨fun q => absurd q (by unfold foundN; decide), fun ⟨j, h1, _⟩ => absurd h1 (by omega)⟩
    | succ n ih =>
      unfold foundN
      rw [Bool.or_eq_true, ih, Bool.and_eq_true, decide_eq_true_eq, decide_eq_true_eq]
      constructor
      · rintro (⟨j, h1, h2⟩ | h2)
        · exact ⟨j, by omega, h2⟩
        · exact ⟨n, by omega, h2⟩
      · rintro ⟨j, h1, h2⟩
        by_cases e : j = n
        · subst e; exact Or.inr h2
        · exact Or.inl ⟨j, by omega, h2⟩
  have k1 := key nc 0 (by omega)
  have k2 := key2 nc
  have z : ((0 : Nat) : Int) = 0 := rfl
  rw [z] at k1
  cases hl : loneF c k x t L nc 0 with
  | true =>
    cases hf : foundN nn nr k d x nc with
    | false => rfl
    | true =>
      obtain ⟨j, h1, h2⟩ := k2.1 hf
      exact absurd h2 (k1.1 hl j (Nat.zero_le _) h1)
  | false =>
    cases hf : foundN nn nr k d x nc with
    | true => rfl
    | false =>
      have : loneF c k x t L nc 0 = true := k1.2 (fun j _ h1 h2 => by
        have := k2.2 ⟨j, h1, h2⟩
        rw [hf] at this; cases this)
      rw [hl] at this; cases this

theorem NearR.handLoad {c : Cf} {nn nc : Nat} {nr : Nat → Nat → Cp} {d t : Int} {L : List Ent} (R : Right c) (h : NearR c nn nc nr d t L) (hn : (nn : Int) = c.near) {e : Ent} {k y : Nat} {a : Int} (ht : e.t = t) (hw : e.what = 3) (hst : e.st = false) (hk : e.core = k) (hy : e.line = y) (hlo : e.lo = (loneF c k y t L nc 0 && decide (a < c.priv))) :
    NearR c nn nc (putN nn (shareAllN (fun j => decide (j < nc ∧ j ≠ k)) nn nr d y) k d y (if foundN nn nr k d y nc = true ∨ c.priv ≤ a then 1 else 2)) d t (e :: L) := fun j x hj => by
  have hval : (if foundN nn nr k d y nc = true ∨ c.priv ≤ a then (1 : Int) else 2) = if e.lo = true ∧ false = false then 2 else 1 := by
    rw [found_lone h, hlo]
    by_cases g : a < c.priv
    · have g' : ¬ c.priv ≤ a := by omega
      cases loneF c k y t L nc 0 <;> simp [g, g']
    · have g' : c.priv ≤ a := by omega
      simp [g, g']
  rw [hval, stateF_hand (by rw [ht]; exact flushed_self R t) hw, stateN_put, stateN_shareAll, hk, hy, hst]
  by_cases g : j = k
  · subst g
    rw [if_pos rfl]
    by_cases g2 : x = y
    · subst g2
      rw [if_pos ⟨rfl, rfl⟩, if_pos ⟨rfl, rfl⟩, if_pos rfl]
    · rw [if_neg (fun q : (x : Int) = y => g2 (by omega))]
      by_cases g3 : x % nn = y % nn
      · rw [if_pos ⟨rfl, g3⟩, if_neg (fun q => g2 q.2.symm), if_pos ((near_mod hn).2 g3.symm)]
      · rw [if_neg (fun q => g3 q.2), if_neg (fun q => g2 q.2.2.1), if_neg (fun q => g3 ((near_mod hn).1 q).symm)]; exact h j x hj
  · have gi : ¬ ((j : Int) = k) := by omega
    rw [if_neg (fun q => g q.1), if_neg gi]
    by_cases g2 : x = y
    · subst g2
      rw [if_pos rfl, if_neg (show ¬ (false = true) by decide), stateF_lw, ← h j x hj]
      by_cases g4 : stateN nn nr j d x = 0
      · rw [if_neg (fun q : decide (j < nc ∧ j ≠ k) = true ∧ d = d ∧ x = x ∧ stateN nn nr j d x ≠ 0 => q.2.2.2 g4), if_pos g4]; exact g4
      · rw [if_pos ⟨by simp [hj, g], rfl, rfl, g4⟩, if_neg g4]
    · rw [if_neg (fun q => g2 q.2.2.1), if_neg (by omega)]; exact h j x hj

/-- Another domain's doings. -/
theorem NearR.otherPut {c : Cf} {nn nc : Nat} {nr : Nat → Nat → Cp} {d t : Int} {L : List Ent} (h : NearR c nn nc nr d t L) {e : Int} (he : e ≠ d) {k : Nat} (y : Nat) (s : Int) (hz : ∀ x : Nat, stateF c k x t false L = 0) : NearR c nn nc (putN nn nr k e y s) d t L := fun j x hj => by
  rw [stateN_put]
  by_cases g : j = k ∧ x % nn = y % nn
  · rw [if_pos g, if_neg (fun q => he q.1), g.1, hz]
  · rw [if_neg g]; exact h j x hj
theorem NearR.otherDrop {c : Cf} {nn nc : Nat} {nr : Nat → Nat → Cp} {d t : Int} {L : List Ent} (h : NearR c nn nc nr d t L) {e : Int} (he : e ≠ d) (p : Nat → Bool) (y : Nat) : NearR c nn nc (dropAllN p nn nr e y) d t L := fun j x hj => by
  rw [stateN_dropAll, if_neg (fun q => he q.2.1.symm)]; exact h j x hj
theorem NearR.otherShare {c : Cf} {nn nc : Nat} {nr : Nat → Nat → Cp} {d t : Int} {L : List Ent} (h : NearR c nn nc nr d t L) {e : Int} (he : e ≠ d) (p : Nat → Bool) (y : Nat) : NearR c nn nc (shareAllN p nn nr e y) d t L := fun j x hj => by
  rw [stateN_shareAll, if_neg (fun q => he q.2.1.symm)]; exact h j x hj

theorem flush_none {c : Cf} (R : Right c) {t : Int} (h : flushesB c (t + 1) = false) : flushedB c t (t + 1) = false := by
  cases hf : flushedB c t (t + 1) with
  | false => rfl
  | true =>
    obtain ⟨q, h1, h2⟩ := (flushed_iff R).1 hf
    have q1 := R.q1
    have f1 := R.f1
    have w0 := R.w0
    have e : t + 1 = c.quantum - c.flush + c.quantum * q := by
      have : q * c.quantum = c.quantum * q := Int.mul_comm _ _
      omega
    have : (t + 1) % c.quantum = c.quantum - c.flush := by
      rw [e, Int.add_mul_emod_self_left, Int.emod_eq_of_lt (by omega) (by omega)]
    simp [flushesB, this] at h
theorem flush_all {c : Cf} (R : Right c) {s t : Int} (h : flushesB c t = true) (hs : s < t) : flushedB c s t = true := by
  refine (flushed_iff R).2 ⟨t / c.quantum, ?_, ?_⟩
  · have e1 := Int.mul_ediv_add_emod t c.quantum
    have e2 : t / c.quantum * c.quantum = c.quantum * (t / c.quantum) := Int.mul_comm _ _
    simp only [flushesB, decide_eq_true_eq] at h
    omega
  · have e1 := Int.mul_ediv_add_emod t c.quantum
    have e2 : t / c.quantum * c.quantum = c.quantum * (t / c.quantum) := Int.mul_comm _ _
    simp only [flushesB, decide_eq_true_eq] at h
    omega
theorem stateF_flushed {c : Cf} {k x t : Int} : ∀ {lw : Bool} {L : List Ent}, (∀ e ∈ L, flushedB c e.t t = true) → stateF c k x t lw L = 0
  | _, [], _ => rfl
  | _, e :: L, h => by
    unfold stateF
    rw [if_pos (h e (List.mem_cons_self ..))]

/-- From the end of one cycle to the beginning of the next. -/
theorem NearR.next {c : Cf} {nn nc : Nat} {nr : Nat → Nat → Cp} {d t : Int} {L : List Ent} (R : Right c) (h : NearR c nn nc nr d t L) (hl : ∀ e ∈ L, e.t ≤ t) : NearR c nn nc (if flushesB c (t + 1) = true then (fun _ _ => cpE) else nr) d (t + 1) L := by
  by_cases g : flushesB c (t + 1) = true
  · rw [if_pos g]
    intro k x _
    rw [stateF_flushed (fun e he => flush_all R g (by have := hl e he; omega))]
    unfold stateN
    split
    · rfl
    · rfl
  · rw [if_neg g]
    have g' : flushesB c (t + 1) = false := by simpa using g
    intro k x hk
    rw [state_later R (by omega) (flush_none R g')]
    exact h k x hk
end Go.Proofs.YtehheaedbnfidaaGreat

namespace Go.Proofs.YtehheaedbnfidaaGreat

theorem digit_eq {p q n i j : Int} (hn : 0 < n) (i0 : 0 ≤ i) (i1 : i < n) (j0 : 0 ≤ j) (j1 : j < n) (h : p * n + i = q * n + j) : p = q ∧ i = j := by
  have e1 : (i + p * n) / n = p := by rw [Int.add_mul_ediv_right _ _ (by omega), Int.ediv_eq_zero_of_lt i0 i1]; omega
  have e2 : (j + q * n) / n = q := by rw [Int.add_mul_ediv_right _ _ (by omega), Int.ediv_eq_zero_of_lt j0 j1]; omega
  have : p = q := by rw [← e1, ← e2]; congr 1; omega
  subst this
  exact ⟨rfl, by omega⟩

theorem way_congr {b b' : Nat → Bk} {n : Nat} {x : Int} (h : ∀ j, (b j).line = (b' j).line) : wayF b n x = wayF b' n x := by
  unfold wayF
  congr 1
  funext j
  rw [h j]

/-- A word of a line that lies there is stored. -/
theorem FarR.store {c : Cf} {ns wn ln : Nat} {first : Int → Int} {blk : Nat → Nat → Bk} {L : List Ent} (h : FarR c ns wn ln first blk L) (h0 : 0 < ns) {e : Ent} {x r i : Nat} (hr : r < wn) (hx : (blk (x % ns) r).line = x) (hi : i < ln) (hw : e.what = 4) (hel : e.line = x) (hea : e.addr = (x : Int) * ln + i) :
    FarR c ns wn ln first (up2 blk (x % ns) r ⟨x, true, up1 (blk (x % ns) r).wd i e.val⟩) (e :: L) := by
  have hs : x % ns < ns := Nat.mod_lt _ h0
  have keep : ∀ s j, ¬ (s = x % ns ∧ j = r) → up2 blk (x % ns) r ⟨x, true, up1 (blk (x % ns) r).wd i e.val⟩ s j = blk s j := fun s j hn => by simp [up2, hn]
  have lne : ∀ s j, (up2 blk (x % ns) r ⟨x, true, up1 (blk (x % ns) r).wd i e.val⟩ s j).line = (blk s j).line := fun s j => by
    by_cases hc : s = x % ns ∧ j = r
    · obtain ⟨rfl, rfl⟩ := hc
      have : up2 blk (x % ns) j ⟨x, true, up1 (blk (x % ns) j).wd i e.val⟩ (x % ns) j = ⟨x, true, up1 (blk (x % ns) j).wd i e.val⟩ := by simp [up2]
      rw [this, hx]
    · rw [keep s j hc]
  have n1 : e.what ≠ 1 := by omega
  have n2 : e.what ≠ 2 := by omega
  have nx : ∀ s j, s < ns → j < wn → ¬ (s = x % ns ∧ j = r) → (blk s j).line ≠ x := fun s j hs' hj hn q => by
    have h1 := h.set s j hs' hj (by omega)
    rw [q] at h1
    have h2 : s = x % ns := by omega
    subst h2
    exact hn ⟨rfl, h.one _ _ _ hs' hj hr (by omega) (q.trans hx.symm)⟩
  refine ⟨fun s j hs' hj => by rw [lne, liesF_far n1 n2]; exact h.line s j hs' hj, fun y => by rw [whereF_far n1 n2, h.wh y]; exact way_congr fun j => (lne _ j).symm, fun s j hs' hj => by rw [lne]; exact h.low s j hs' hj, fun s j hs' hj hh => by rw [lne] at hh ⊢; exact h.set s j hs' hj hh, fun s a b hs' ha hb hh he => by rw [lne] at hh he; rw [lne] at he; exact h.one s a b hs' ha hb hh he, fun s j hs' hj hh => ?_, fun s j i' hs' hj hi' hh => ?_⟩
  · by_cases hc : s = x % ns ∧ j = r
    · obtain ⟨rfl, rfl⟩ := hc
      simp [up2, markedF, hw, hel]
    · rw [keep s j hc] at hh ⊢
      rw [h.mkd s j hs' hj hh]
      have := nx s j hs' hj hc
      have : ¬ (e.line = (blk s j).line) := fun q => this (q.symm.trans hel)
      simp [markedF, this]
  · by_cases hc : s = x % ns ∧ j = r
    · obtain ⟨rfl, rfl⟩ := hc
      have ev : up2 blk (x % ns) j ⟨x, true, up1 (blk (x % ns) j).wd i e.val⟩ (x % ns) j = ⟨x, true, up1 (blk (x % ns) j).wd i e.val⟩ := by simp [up2]
      rw [ev]
      simp only
      by_cases g : i' = i
      · subst g
        simp [up1, wordF, hw, hea]
      · have g' : ¬ ((x : Int) * ln + i = (x : Int) * ln + i') := by omega
        have old := h.wd (x % ns) j i' hs' hj hi' (by omega)
        rw [hx] at old
        simp [up1, wordF, hw, hea, g, g', old]
    · rw [keep s j hc] at hh ⊢
      rw [h.wd s j i' hs' hj hi' hh]
      have hne := nx s j hs' hj hc
      have : ¬ (e.addr = (blk s j).line * ln + i') := fun q => by
        rw [hea] at q
        exact hne (digit_eq (by omega) (by omega) (by omega) (by omega) (by omega) q).1.symm
      simp [wordF, this]

theorem where_ne {z : Int} {e : Ent} {L : List Ent} (h : ¬ e.line = z) : whereF z (e :: L) = whereF z L := by
  conv => lhs; unfold whereF
  simp [h]
theorem marked_ne {z : Int} {e : Ent} {L : List Ent} (h : ¬ e.line = z) : markedF z (e :: L) = markedF z L := by
  conv => lhs; unfold markedF
  simp [h]
theorem memory_ne {z a i : Int} {e : Ent} {L : List Ent} (h : ¬ e.line = z) : memoryF z a i (e :: L) = memoryF z a i L := by
  conv => lhs; unfold memoryF
  simp [h]

/-- What stands in memory, by what has happened. -/
structure MemR (pv ln : Nat) (first : Int → Int) (own : Nat → Int) (L : List Ent) : Prop where
  mem : ∀ a : Nat, a < pv → own a = memoryF ((a / ln : Nat) : Int) a (first a) L
  cln : ∀ a : Nat, a < pv → (whereF ((a / ln : Nat) : Int) L < 0 ∨ markedF ((a / ln : Nat) : Int) L = false) → own a = wordF a (first a) L
  shw : ∀ a : Nat, pv ≤ a → wordF a (first a) L = first a

theorem MemR.start {pv ln : Nat} {first : Int → Int} {own : Nat → Int} (h : ∀ a : Nat, a < pv → own a = first a) : MemR pv ln first own [] :=
  ⟨fun a ha => h a ha, fun a ha _ => h a ha, fun _ _ => rfl⟩
theorem MemR.other {pv ln : Nat} {first : Int → Int} {own : Nat → Int} {L : List Ent} (h : MemR pv ln first own L) {e : Ent} (h1 : e.what ≠ 1) (h2 : e.what ≠ 2) (h4 : e.what ≠ 4) : MemR pv ln first own (e :: L) := by
  have b1 : (e.what == 1) = false := by simp [h1]
  have b2 : (e.what == 2) = false := by simp [h2]
  have b4 : (e.what == 4) = false := by simp [h4]
  refine ⟨fun a ha => ?_, fun a ha q => ?_, fun a ha => ?_⟩
  · rw [h.mem a ha]; simp [memoryF, b2]
  · rw [whereF_far h1 h2] at q
    have : markedF ((a / ln : Nat) : Int) (e :: L) = markedF ((a / ln : Nat) : Int) L := by simp [markedF, b1, b4]
    rw [this] at q
    rw [h.cln a ha q]; simp [wordF, b4]
  · have := h.shw a ha
    simpa [wordF, b4] using this
theorem MemR.fill {pv ln : Nat} {first : Int → Int} {own : Nat → Int} {L : List Ent} (h : MemR pv ln first own L) {e : Ent} {x : Nat} (hw : e.what = 1) (hx : e.line = x) (hn : whereF x L < 0) : MemR pv ln first own (e :: L) := by
  refine ⟨fun a ha => ?_, fun a ha q => ?_, fun a ha => ?_⟩
  · rw [h.mem a ha]; simp [memoryF, hw]
  · have : own a = wordF a (first a) L := by
      by_cases g : a / ln = x
      · exact h.cln a ha (Or.inl (by rw [g]; exact hn))
      · have g' : ¬ (e.line = ((a / ln : Nat) : Int)) := by omega
        rw [where_ne g', marked_ne g'] at q
        exact h.cln a ha q
    rw [this]; simp [wordF, hw]
  · have := h.shw a ha
    simpa [wordF, hw] using this
theorem MemR.gone {pv ln : Nat} {first : Int → Int} {own own' : Nat → Int} {L : List Ent} (h : MemR pv ln first own L) {e : Ent} {y : Nat} (hw : e.what = 2) (hy : e.line = y) (ho : ∀ a, a < pv → a / ln = y → own' a = wordF a (first a) L) (hk : ∀ a, a < pv → a / ln ≠ y → own' a = own a) : MemR pv ln first own' (e :: L) := by
  refine ⟨fun a ha => ?_, fun a ha q => ?_, fun a ha => ?_⟩
  · by_cases g : a / ln = y
    · rw [ho a ha g]
      simp [memoryF, hw, hy, g]
    · have g' : ¬ (e.line = ((a / ln : Nat) : Int)) := by omega
      rw [hk a ha g, h.mem a ha, memory_ne g']
  · have : own' a = wordF a (first a) L := by
      by_cases g : a / ln = y
      · exact ho a ha g
      · have g' : ¬ (e.line = ((a / ln : Nat) : Int)) := by omega
        rw [where_ne g', marked_ne g'] at q
        rw [hk a ha g]
        exact h.cln a ha q
    rw [this]; simp [wordF, hw]
  · have := h.shw a ha
    simpa [wordF, hw] using this
theorem MemR.store {pv ln : Nat} {first : Int → Int} {own : Nat → Int} {L : List Ent} (h : MemR pv ln first own L) {e : Ent} {a0 : Nat} (hw : e.what = 4) (hx : e.line = ((a0 / ln : Nat) : Int)) (hea : e.addr = a0) (hap : a0 < pv) (hin : 0 ≤ whereF ((a0 / ln : Nat) : Int) L) : MemR pv ln first own (e :: L) := by
  have n1 : e.what ≠ 1 := by omega
  have n2 : e.what ≠ 2 := by omega
  refine ⟨fun a ha => ?_, fun a ha q => ?_, fun a ha => ?_⟩
  · rw [h.mem a ha]; simp [memoryF, hw]
  · rw [whereF_far n1 n2] at q
    by_cases g : a / ln = a0 / ln
    · exfalso
      rcases q with q | q
      · rw [g] at q; omega
      · simp [markedF, hw, hx, g] at q
    · have g' : ¬ (e.line = ((a / ln : Nat) : Int)) := by omega
      rw [marked_ne g'] at q
      have : own a = wordF a (first a) L := h.cln a ha q
      have g2 : ¬ (e.addr = (a : Int)) := fun q2 => g (by rw [hea] at q2; have : a0 = a := by omega
                                                          rw [this])
      rw [this]; simp [wordF, g2]
  · have := h.shw a ha
    have g2 : ¬ (e.addr = (a : Int)) := by omega
    simpa [wordF, g2] using this

/-- What is near is far. -/
def Inc (c : Cf) (nc : Nat) (t : Int) (L : List Ent) : Prop := ∀ k x : Nat, k < nc → stateF c k x t false L ≠ 0 → 0 ≤ whereF x L

theorem Inc.fill {c : Cf} {nc : Nat} {t : Int} {L : List Ent} (R : Right c) (h : Inc c nc t L) {e : Ent} (ht : e.t = t) (hw : e.what = 1) (hway : 0 ≤ e.way) : Inc c nc t (e :: L) := fun k x hk hs => by
  rw [stateF_fill (by rw [ht]; exact flushed_self R t) hw] at hs
  have := h k x hk hs
  unfold whereF
  split
  · exact hway
  · rw [if_neg (by simp [hw])]; exact this
theorem Inc.gone {c : Cf} {nc : Nat} {t : Int} {L : List Ent} (R : Right c) (h : Inc c nc t L) {e : Ent} (ht : e.t = t) (hw : e.what = 2) : Inc c nc t (e :: L) := fun k x hk hs => by
  rw [stateF_gone (by rw [ht]; exact flushed_self R t) hw] at hs
  by_cases g : (x : Int) = e.line
  · rw [if_pos g] at hs; exact absurd rfl hs
  · rw [if_neg g] at hs
    have g' : ¬ e.line = (x : Int) := fun q => g q.symm
    have := h k x hk hs
    simpa [whereF, hw, g'] using this
theorem Inc.hand {c : Cf} {nc : Nat} {t : Int} {L : List Ent} (R : Right c) (h : Inc c nc t L) {e : Ent} (ht : e.t = t) (hw : e.what = 3) (hin : 0 ≤ whereF e.line L) : Inc c nc t (e :: L) := fun k x hk hs => by
  rw [whereF_far (by omega) (by omega)]
  by_cases g : (x : Int) = e.line
  · rw [g]; exact hin
  · rw [stateF_hand (by rw [ht]; exact flushed_self R t) hw] at hs
    refine h k x hk ?_
    by_cases g1 : (k : Int) = e.core
    · rw [if_pos g1, if_neg g] at hs
      by_cases g2 : e.line % c.near = (x : Int) % c.near
      · rw [if_pos g2] at hs; exact absurd rfl hs
      · rw [if_neg g2] at hs; exact hs
    · rw [if_neg g1, if_neg g] at hs; exact hs
theorem Inc.store {c : Cf} {nc : Nat} {t : Int} {L : List Ent} (R : Right c) (h : Inc c nc t L) {e : Ent} (ht : e.t = t) (hw : e.what = 4) (hin : 0 ≤ whereF e.line L) : Inc c nc t (e :: L) := fun k x hk hs => by
  rw [whereF_far (by omega) (by omega)]
  by_cases g : (x : Int) = e.line
  · rw [g]; exact hin
  · rw [stateF_store (by rw [ht]; exact flushed_self R t) hw, if_neg (fun q => g q.2)] at hs
    exact h k x hk hs
theorem Inc.next {c : Cf} {nc : Nat} {t : Int} {L : List Ent} (R : Right c) (h : Inc c nc t L) (hl : ∀ e ∈ L, e.t ≤ t) : Inc c nc (t + 1) L := fun k x hk hs => by
  by_cases g : flushesB c (t + 1) = true
  · rw [stateF_flushed (fun e he => flush_all R g (by have := hl e he; omega))] at hs
    exact absurd rfl hs
  · have g' : flushesB c (t + 1) = false := by simpa using g
    rw [state_later R (by omega) (flush_none R g')] at hs
    exact h k x hk hs

/-- Each operation was done in a turn of its own, ahead of the flush. -/
def LogTurn (c : Cf) (nc : Nat) (d t : Int) (L : List Ent) : Prop := ∀ e ∈ L, e.t ≤ t ∧ ((e.what = 3 ∨ e.what = 4) → ∃ k : Nat, k < nc ∧ e.core = k ∧ turnZ c k e.t = d ∧ e.t % c.quantum < c.quantum - c.flush)

theorem LogTurn.far {c : Cf} {nc : Nat} {d t : Int} {L : List Ent} (h : LogTurn c nc d t L) {e : Ent} (ht : e.t = t) (h3 : e.what ≠ 3) (h4 : e.what ≠ 4) : LogTurn c nc d t (e :: L) := fun x hx => by
  rcases List.mem_cons.1 hx with q | q
  · subst q; exact ⟨by omega, fun w => by omega⟩
  · exact h x q
theorem LogTurn.core {c : Cf} {nc : Nat} {d t : Int} {L : List Ent} (h : LogTurn c nc d t L) {e : Ent} {k : Nat} (ht : e.t = t) (hk : k < nc) (hc : e.core = k) (h1 : turnZ c k t = d) (h2 : t % c.quantum < c.quantum - c.flush) : LogTurn c nc d t (e :: L) := fun x hx => by
  rcases List.mem_cons.1 hx with q | q
  · subst q; exact ⟨by omega, fun _ => ⟨k, hk, hc, by rw [ht]; exact h1, by rw [ht]; exact h2⟩⟩
  · exact h x q
theorem LogTurn.mono {c : Cf} {nc : Nat} {d t u : Int} {L : List Ent} (h : LogTurn c nc d t L) (hu : t ≤ u) : LogTurn c nc d u L := fun x hx => by
  obtain ⟨a, b⟩ := h x hx
  exact ⟨by omega, b⟩
/-- Where another domain has its turn, nothing of this one is near. -/
theorem LogTurn.away {c : Cf} {nc : Nat} {d t : Int} {L : List Ent} (R : Right c) (h : LogTurn c nc d t L) {k : Nat} (hk : turnZ c k t ≠ d) (x : Nat) : stateF c k x t false L = 0 := by
  refine Classical.byContradiction fun q => ?_
  obtain ⟨e, he, hw, h1, h2, h3⟩ := state_entry q
  obtain ⟨g1, g2⟩ := h e he
  obtain ⟨j, _, g3, g4, g5⟩ := g2 hw
  have ej : j = k := by omega
  subst ej
  have := same_turn R g5 g1 h3
  apply hk
  rw [← g4]
  unfold turnZ
  rw [this]

/-- The touches. -/
theorem touched_hand {c : Cf} {s : Int} {e : Ent} {L : List Ent} (hw : e.what = 3) : touchedF c s (e :: L) = if e.line % c.sets = s then touchedF c s L ++ [e.way] else touchedF c s L := by
  unfold touchedF
  rw [List.reverse_cons, List.filter_append, List.map_append]
  by_cases g : e.line % c.sets = s
  · rw [if_pos g]; simp [hw, g]
  · rw [if_neg g]; simp [g]
theorem touched_other {c : Cf} {s : Int} {e : Ent} {L : List Ent} (hw : e.what ≠ 3) : touchedF c s (e :: L) = touchedF c s L := by
  unfold touchedF
  rw [List.reverse_cons, List.filter_append, List.map_append]
  simp [hw]

/-- The way in which room is made. -/
theorem room_chosen {c : Cf} {ns wn ln : Nat} {first : Int → Int} {blk : Nat → Nat → Bk} {L : List Ent} (h : FarR c ns wn ln first blk L) {s : Nat} (hs : s < ns) {tc : List Int} (ht : SameTouch tc (touchedF c s L)) : roomF (blk s) wn tc = chosenF c wn s L := by
  have key : ∀ n j : Nat, j + n = wn → (firstW (fun j => decide ((blk s j).line = -1)) n j = -1 ∧ emptyF c s L n j = wn) ∨ (∃ i : Nat, i < wn ∧ firstW (fun j => decide ((blk s j).line = -1)) n j = i ∧ emptyF c s L n j = i) := by
    intro n
    induction n with
    | zero => intro j hj; left; exact ⟨rfl, by show (j : Int) = wn; omega⟩
    | succ n ih =>
      intro j hj
      unfold firstW emptyF
      have hjw : j < wn := by omega
      have e1 := h.line s j hs hjw
      have e2 := h.low s j hs hjw
      by_cases g : (blk s j).line = -1
      · right
        refine ⟨j, hjw, by rw [if_pos (by simp [g])], by rw [if_pos (by rw [← e1]; omega)]⟩
      · rw [if_neg (by simp [g]), if_neg (by rw [← e1]; omega)]
        have hcast : ((j : Int) + 1) = ((j + 1 : Nat) : Int) := by omega
        rw [hcast]
        exact ih (j + 1) (by omega)
  unfold roomF chosenF wayF
  have := key wn 0 (by omega)
  have z : ((0 : Nat) : Int) = 0 := rfl
  rw [z] at this
  rcases this with ⟨h1, h2⟩ | ⟨i, h0, h1, h2⟩
  · rw [if_pos h1, h2]
    simp only
    rw [if_neg (by omega)]
    exact ht.victim _
  · rw [h1, h2, if_neg (by omega)]
    simp only
    rw [if_pos (by omega)]
end Go.Proofs.YtehheaedbnfidaaGreat

namespace Go.Proofs.YtehheaedbnfidaaGreat

/-- The numbers of a right configuration. -/
structure Nm (c : Cf) (N : Cn) : Prop where
  right : chk c = 0
  nc : (N.nc : Int) = c.cores
  nd : (N.nd : Int) = c.domains
  nn : (N.nn : Int) = c.near
  ns : (N.ns : Int) = c.sets
  ln : (N.ln : Int) = c.line
  pv : (N.pv : Int) = c.priv
  sn : (N.sn : Int) = c.shared
  wn : ∀ d, N.wn d = c.ways.count (d : Int)
  c0 : 0 < N.nc
  n0 : 0 < N.nn
  s0 : 0 < N.ns
  l0 : 0 < N.ln
  l4 : N.ln ≤ 4
  dp : ∃ p, N.pv = p * N.ln
  ds : ∃ q, N.pv + N.sn = q * N.ln

theorem nm_of {c : Cf} (hc : chk c = 0) : Nm c (cnOf c) := by
  have h := (chk_zero hc).1
  have hb := shape_bounds h
  simp only [shapeB, wordsB, Bool.and_eq_true, within_iff, small_iff, beq_iff_eq] at h
  have e1 : (cnOf c).nc = c.cores.toNat := rfl
  have e2 : (cnOf c).nd = c.domains.toNat := rfl
  have e3 : (cnOf c).nn = c.near.toNat := rfl
  have e4 : (cnOf c).ns = c.sets.toNat := rfl
  have e5 : (cnOf c).ln = c.line.toNat := rfl
  have e6 : (cnOf c).pv = c.priv.toNat := rfl
  have e7 : (cnOf c).sn = c.shared.toNat := rfl
  obtain ⟨_, ⟨⟨⟨⟨_, _⟩, _⟩, hp⟩, hs⟩⟩ := h
  refine ⟨hc, by omega, by omega, by omega, by omega, by omega, by omega, by omega, fun _ => rfl, by omega, by omega, by omega, by omega, by omega, ⟨c.priv.toNat / c.line.toNat, ?_⟩, ⟨(c.priv.toNat + c.shared.toNat) / c.line.toNat, ?_⟩⟩
  · have m0 : c.priv.toNat % c.line.toNat = 0 := by
      have : ((c.priv.toNat % c.line.toNat : Nat) : Int) = 0 := by
        rw [Int.natCast_emod, Int.toNat_of_nonneg (by omega), Int.toNat_of_nonneg (by omega)]; exact hp
      omega
    rw [e6, e5]
    exact (Nat.div_mul_cancel (Nat.dvd_of_mod_eq_zero m0)).symm
  · have m0 : (c.priv.toNat + c.shared.toNat) % c.line.toNat = 0 := by
      have : (((c.priv.toNat + c.shared.toNat) % c.line.toNat : Nat) : Int) = 0 := by
        rw [Int.natCast_emod, Int.natCast_add, Int.toNat_of_nonneg (by omega), Int.toNat_of_nonneg (by omega), Int.toNat_of_nonneg (by omega)]
        rw [Int.add_emod, hp, hs]; simp
      omega
    rw [e6, e7, e5]
    exact (Nat.div_mul_cancel (Nat.dvd_of_mod_eq_zero m0)).symm

/-- What lies in the caches and in memory of the domain d, by what has happened. -/
structure RelL (c : Cf) (N : Cn) (first : Int → Int) (d : Nat) (t : Int) (blk : Nat → Nat → Bk) (tch : Nat → List Int) (own : Nat → Int) (nr : Nat → Nat → Cp) (sh : Nat → Int) (L : List Ent) : Prop where
  far : FarR c N.ns (N.wn d) N.ln first blk L
  tch : ∀ s : Nat, s < N.ns → SameTouch (tch s) (touchedF c s L)
  mem : MemR N.pv N.ln first own L
  near : NearR c N.nn N.nc nr d t L
  inc : Inc c N.nc t L
  lt : LogTurn c N.nc d t L
  emp : ∀ s j, s < N.ns → j < N.wn d → (blk s j).line = -1 → (blk s j).mkd = false
  sh : ∀ a : Nat, N.pv ≤ a → a < N.pv + N.sn → sh (a - N.pv) = first a

theorem up2_up2 {α : Type} (f : Nat → Nat → α) (i j : Nat) (v w : α) : up2 (up2 f i j v) i j w = up2 f i j w := by
  funext a b
  unfold up2
  by_cases h : a = i ∧ b = j
  · rw [if_pos h, if_pos h]
  · rw [if_neg h, if_neg h, if_neg h]

/-- The words of a line that does not lie in the far cache. -/
theorem read_words {c : Cf} {N : Cn} {first : Int → Int} {own : Nat → Int} {sh : Nat → Int} {L : List Ent} (hN : Nm c N) (hm : MemR N.pv N.ln first own L) (hsh : ∀ a : Nat, N.pv ≤ a → a < N.pv + N.sn → sh (a - N.pv) = first a) {x : Nat} (hx : x * N.ln < N.pv + N.sn) (hn : whereF x L < 0) (i : Nat) (hi : i < N.ln) : readM N.pv N.sn N.ln own sh x i = wordF ((x : Int) * N.ln + i) (first ((x : Int) * N.ln + i)) L := by
  have hl4 := hN.l4
  have hl0 := hN.l0
  have hdiv : (x * N.ln + i) / N.ln = x := by
    rw [Nat.mul_comm, Nat.mul_add_div hl0, Nat.div_eq_of_lt hi]; omega
  have hlt : x * N.ln + i < N.pv + N.sn := by
    obtain ⟨q, hq⟩ := hN.ds
    rw [hq] at hx ⊢
    have hxq : x < q := Nat.lt_of_mul_lt_mul_right hx
    have : (x + 1) * N.ln ≤ q * N.ln := Nat.mul_le_mul_right _ hxq
    rw [Nat.succ_mul] at this
    omega
  have cast : ((x : Int) * N.ln + i) = ((x * N.ln + i : Nat) : Int) := by rw [Int.natCast_add, Int.natCast_mul]
  rw [cast]
  unfold readM
  rw [if_pos ⟨hi, by omega⟩]
  unfold wordM
  by_cases g : x * N.ln + i < N.pv
  · rw [if_pos g]
    exact hm.cln _ g (Or.inl (by rw [hdiv]; exact hn))
  · rw [if_neg g, if_pos (by omega), hm.shw _ (by omega)]
    exact hsh _ (by omega) hlt

theorem set_cast {c : Cf} {N : Cn} (hN : Nm c N) (x : Nat) : (x : Int) % c.sets = ((x % N.ns : Nat) : Int) := by rw [← hN.ns]; simp

/-- A line is filled into an empty way. -/
theorem RelL.fill {c : Cf} {N : Cn} {first : Int → Int} {d : Nat} {t : Int} {blk : Nat → Nat → Bk} {tch : Nat → List Int} {own : Nat → Int} {nr : Nat → Nat → Cp} {sh : Nat → Int} {L : List Ent} (hN : Nm c N) (h : RelL c N first d t blk tch own nr sh L) {x r : Nat} (hr : r < N.wn d) (he : (blk (x % N.ns) r).line = -1) (hx : x * N.ln < N.pv + N.sn) (hno : wayF (blk (x % N.ns)) (N.wn d) x = -1) :
    RelL c N first d t (up2 blk (x % N.ns) r ⟨x, false, readM N.pv N.sn N.ln own sh x⟩) tch own nr sh (⟨t, 1, 0, x, r, false, false, 0, 0⟩ :: L) := by
  have R := right_of hN.right
  have hw : whereF x L < 0 := by rw [h.far.wh x, hno]; omega
  refine ⟨h.far.fill hN.ns hN.s0 hr he hno (fun i hi => read_words hN h.mem h.sh hx hw i hi), fun s hs => by rw [touched_other (by simp)]; exact h.tch s hs, h.mem.fill rfl rfl hw, h.near.fill R rfl rfl, h.inc.fill R rfl rfl (by show (0 : Int) ≤ r; omega), h.lt.far rfl (by simp) (by simp), fun s j hs hj hl => ?_, h.sh⟩
  by_cases g : s = x % N.ns ∧ j = r
  · have : up2 blk (x % N.ns) r ⟨x, false, readM N.pv N.sn N.ln own sh x⟩ s j = ⟨x, false, readM N.pv N.sn N.ln own sh x⟩ := by simp [up2, g]
    rw [this]
  · have : up2 blk (x % N.ns) r ⟨x, false, readM N.pv N.sn N.ln own sh x⟩ s j = blk s j := by simp [up2, g]
    rw [this] at hl ⊢
    exact h.emp s j hs hj hl

/-- A line gives way; what it had stands in memory. -/
theorem RelL.gone {c : Cf} {N : Cn} {first : Int → Int} {d : Nat} {t : Int} {blk : Nat → Nat → Bk} {tch : Nat → List Int} {own own' : Nat → Int} {nr : Nat → Nat → Cp} {sh : Nat → Int} {L : List Ent} (hN : Nm c N) (h : RelL c N first d t blk tch own nr sh L) {y r : Nat} (hr : r < N.wn d) (he : (blk (y % N.ns) r).line = y) (ho : ∀ a, a < N.pv → a / N.ln = y → own' a = wordF a (first a) L) (hk : ∀ a, a < N.pv → a / N.ln ≠ y → own' a = own a) :
    RelL c N first d t (up2 blk (y % N.ns) r bkE) tch own' (dropAllN (fun j => decide (j < N.nc)) N.nn nr d y) sh (⟨t, 2, 0, y, r, false, false, 0, 0⟩ :: L) := by
  have R := right_of hN.right
  refine ⟨h.far.gone hN.ns hN.s0 hr he, fun s hs => by rw [touched_other (by simp)]; exact h.tch s hs, h.mem.gone rfl rfl ho hk, h.near.gone R rfl rfl rfl, h.inc.gone R rfl rfl, h.lt.far rfl (by simp) (by simp), fun s j hs hj hl => ?_, h.sh⟩
  by_cases g : s = y % N.ns ∧ j = r
  · have : up2 blk (y % N.ns) r bkE s j = bkE := by simp [up2, g]
    rw [this]; rfl
  · have : up2 blk (y % N.ns) r bkE s j = blk s j := by simp [up2, g]
    rw [this] at hl ⊢
    exact h.emp s j hs hj hl

/-- The touches of one set. -/
theorem touch_one {c : Cf} {N : Cn} {tch : Nat → List Int} {L : List Ent} (hN : Nm c N) (h : ∀ s : Nat, s < N.ns → SameTouch (tch s) (touchedF c s L)) {e : Ent} {x : Nat} (hw : e.what = 3) (hx : e.line = x) : ∀ s : Nat, s < N.ns → SameTouch (up1 tch (x % N.ns) (touchF (tch (x % N.ns)) e.way) s) (touchedF c s (e :: L)) := fun s hs => by
  rw [touched_hand hw, hx, set_cast hN]
  by_cases g : s = x % N.ns
  · subst g
    rw [if_pos rfl]
    have : up1 tch (x % N.ns) (touchF (tch (x % N.ns)) e.way) (x % N.ns) = touchF (tch (x % N.ns)) e.way := by simp [up1]
    rw [this]
    exact (h _ hs).touch _
  · rw [if_neg (by omega)]
    have : up1 tch (x % N.ns) (touchF (tch (x % N.ns)) e.way) s = tch s := by simp [up1, g]
    rw [this]
    exact h s hs

/-- A Load is handed over. -/
theorem RelL.load {c : Cf} {N : Cn} {first : Int → Int} {d : Nat} {t : Int} {blk : Nat → Nat → Bk} {tch : Nat → List Int} {own : Nat → Int} {nr : Nat → Nat → Cp} {sh : Nat → Int} {L : List Ent} (hN : Nm c N) (h : RelL c N first d t blk tch own nr sh L) {k x : Nat} {a way : Int} (hk : k < N.nc) (hway : 0 ≤ whereF x L) (ht1 : turnZ c k t = d) (ht2 : t % c.quantum < c.quantum - c.flush) :
    RelL c N first d t blk (up1 tch (x % N.ns) (touchF (tch (x % N.ns)) way)) own (putN N.nn (shareAllN (fun j => decide (j < N.nc ∧ j ≠ k)) N.nn nr d x) k d x (if foundN N.nn nr k d x N.nc = true ∨ c.priv ≤ a then 1 else 2)) sh (⟨t, 3, k, x, way, false, loneF c k x t L N.nc 0 && decide (a < c.priv), 0, 0⟩ :: L) := by
  have R := right_of hN.right
  exact ⟨h.far.other (by simp) (by simp) (by simp), touch_one (e := ⟨t, 3, k, x, way, false, loneF c k x t L N.nc 0 && decide (a < c.priv), 0, 0⟩) hN h.tch rfl rfl, h.mem.other (by simp) (by simp) (by simp), h.near.handLoad R hN.nn rfl rfl rfl rfl rfl rfl, h.inc.hand R rfl rfl hway, h.lt.core rfl hk rfl ht1 ht2, h.emp, h.sh⟩

theorem emp_store {N : Cn} {d : Nat} {blk : Nat → Nat → Bk} {s r : Nat} {x : Nat} {g : Nat → Int} (h : ∀ s j, s < N.ns → j < N.wn d → (blk s j).line = -1 → (blk s j).mkd = false) : ∀ s' j, s' < N.ns → j < N.wn d → (up2 blk s r ⟨x, true, g⟩ s' j).line = -1 → (up2 blk s r ⟨x, true, g⟩ s' j).mkd = false := fun s' j hs hj hl => by
  by_cases q : s' = s ∧ j = r
  · have : up2 blk s r ⟨x, true, g⟩ s' j = ⟨x, true, g⟩ := by simp [up2, q]
    rw [this] at hl
    have : (x : Int) = -1 := hl
    omega
  · have : up2 blk s r ⟨x, true, g⟩ s' j = blk s' j := by simp [up2, q]
    rw [this] at hl ⊢
    exact h s' j hs hj hl

/-- A Store is handed over. -/
theorem RelL.store {c : Cf} {N : Cn} {first : Int → Int} {d : Nat} {t : Int} {blk : Nat → Nat → Bk} {tch : Nat → List Int} {own : Nat → Int} {nr : Nat → Nat → Cp} {sh : Nat → Int} {L : List Ent} (hN : Nm c N) (h : RelL c N first d t blk tch own nr sh L) {k a r : Nat} {v w2 : Int} (hk : k < N.nc) (ha : a < N.pv) (hr : r < N.wn d) (hl : (blk (a / N.ln % N.ns) r).line = ((a / N.ln : Nat) : Int)) (hway : 0 ≤ whereF ((a / N.ln : Nat) : Int) L) (ht1 : turnZ c k t = d) (ht2 : t % c.quantum < c.quantum - c.flush) :
    RelL c N first d t (up2 blk (a / N.ln % N.ns) r ⟨((a / N.ln : Nat) : Int), true, up1 (blk (a / N.ln % N.ns) r).wd (a - a / N.ln * N.ln) v⟩) (up1 tch (a / N.ln % N.ns) (touchF (tch (a / N.ln % N.ns)) r)) own (putN N.nn (dropAllN (fun j => decide (j < N.nc ∧ j ≠ k)) N.nn nr d (a / N.ln)) k d (a / N.ln) 3) sh (⟨t, 4, k, ((a / N.ln : Nat) : Int), w2, false, false, a, v⟩ :: ⟨t, 3, k, ((a / N.ln : Nat) : Int), r, true, false, 0, 0⟩ :: L) := by
  have R := right_of hN.right
  have hi : a - a / N.ln * N.ln < N.ln := by
    have h1 := Nat.mod_add_div a N.ln
    have h2 := Nat.mod_lt a hN.l0
    have h3 : N.ln * (a / N.ln) = a / N.ln * N.ln := Nat.mul_comm _ _
    omega
  have hai : (a : Int) = ((a / N.ln : Nat) : Int) * N.ln + ((a - a / N.ln * N.ln : Nat) : Int) := by
    have := Nat.div_mul_le_self a N.ln
    rw [← Int.natCast_mul, ← Int.natCast_add]
    congr 1
    omega
  refine ⟨(h.far.other (e := ⟨t, 3, k, ((a / N.ln : Nat) : Int), r, true, false, 0, 0⟩) (by simp) (by simp) (by simp)).store (e := ⟨t, 4, k, ((a / N.ln : Nat) : Int), w2, false, false, a, v⟩) hN.s0 hr hl hi rfl rfl hai, fun s hs => by rw [touched_other (by simp)]; exact touch_one hN h.tch (e := ⟨t, 3, k, ((a / N.ln : Nat) : Int), r, true, false, 0, 0⟩) rfl rfl s hs, (h.mem.other (e := ⟨t, 3, k, ((a / N.ln : Nat) : Int), r, true, false, 0, 0⟩) (by simp) (by simp) (by simp)).store rfl rfl rfl ha ?_, h.near.handStore R hN.nn rfl rfl rfl rfl rfl rfl rfl rfl rfl, (h.inc.hand (e := ⟨t, 3, k, ((a / N.ln : Nat) : Int), r, true, false, 0, 0⟩) R rfl rfl hway).store R rfl rfl ?_, (h.lt.core (e := ⟨t, 3, k, ((a / N.ln : Nat) : Int), r, true, false, 0, 0⟩) rfl hk rfl ht1 ht2).core rfl hk rfl ht1 ht2, emp_store h.emp, h.sh⟩
  · rw [whereF_far (by simp) (by simp)]; exact hway
  · rw [whereF_far (by simp) (by simp)]; exact hway

/-- A Store of what is near. -/
theorem RelL.hit {c : Cf} {N : Cn} {first : Int → Int} {d : Nat} {t : Int} {blk : Nat → Nat → Bk} {tch : Nat → List Int} {own : Nat → Int} {nr : Nat → Nat → Cp} {sh : Nat → Int} {L : List Ent} (hN : Nm c N) (h : RelL c N first d t blk tch own nr sh L) {k a r : Nat} {v w2 : Int} (hk : k < N.nc) (ha : a < N.pv) (hr : r < N.wn d) (hl : (blk (a / N.ln % N.ns) r).line = ((a / N.ln : Nat) : Int)) (hs : stateN N.nn nr k d (a / N.ln) ≠ 0) (ht1 : turnZ c k t = d) (ht2 : t % c.quantum < c.quantum - c.flush) :
    RelL c N first d t (up2 blk (a / N.ln % N.ns) r ⟨((a / N.ln : Nat) : Int), true, up1 (blk (a / N.ln % N.ns) r).wd (a - a / N.ln * N.ln) v⟩) tch own (putN N.nn nr k d (a / N.ln) 3) sh (⟨t, 4, k, ((a / N.ln : Nat) : Int), w2, false, false, a, v⟩ :: L) := by
  have R := right_of hN.right
  have hi : a - a / N.ln * N.ln < N.ln := by
    have h1 := Nat.mod_add_div a N.ln
    have h2 := Nat.mod_lt a hN.l0
    have h3 : N.ln * (a / N.ln) = a / N.ln * N.ln := Nat.mul_comm _ _
    omega
  have hai : (a : Int) = ((a / N.ln : Nat) : Int) * N.ln + ((a - a / N.ln * N.ln : Nat) : Int) := by
    have := Nat.div_mul_le_self a N.ln
    rw [← Int.natCast_mul, ← Int.natCast_add]
    congr 1
    omega
  have hway : 0 ≤ whereF ((a / N.ln : Nat) : Int) L := h.inc k _ hk (by rw [← h.near k _ hk]; exact hs)
  exact ⟨h.far.store (e := ⟨t, 4, k, ((a / N.ln : Nat) : Int), w2, false, false, a, v⟩) hN.s0 hr hl hi rfl rfl hai, fun s hs => by rw [touched_other (by simp)]; exact h.tch s hs, h.mem.store rfl rfl rfl ha hway, h.near.hitStore R rfl rfl rfl rfl hs, h.inc.store R rfl rfl hway, h.lt.core rfl hk rfl ht1 ht2, emp_store h.emp, h.sh⟩

/-- From cycle to cycle. -/
theorem RelL.next {c : Cf} {N : Cn} {first : Int → Int} {d : Nat} {t : Int} {blk : Nat → Nat → Bk} {tch : Nat → List Int} {own : Nat → Int} {nr : Nat → Nat → Cp} {sh : Nat → Int} {L : List Ent} (hN : Nm c N) (h : RelL c N first d t blk tch own nr sh L) : RelL c N first d (t + 1) blk tch own (if flushesB c (t + 1) = true then (fun _ _ => cpE) else nr) sh L :=
  ⟨h.far, h.tch, h.mem, h.near.next (right_of hN.right) (fun e he => (h.lt e he).1), h.inc.next (right_of hN.right) (fun e he => (h.lt e he).1), h.lt.mono (by omega), h.emp, h.sh⟩

/-- Another domain's near copies. -/
theorem RelL.near' {c : Cf} {N : Cn} {first : Int → Int} {d : Nat} {t : Int} {blk : Nat → Nat → Bk} {tch : Nat → List Int} {own : Nat → Int} {nr nr' : Nat → Nat → Cp} {sh : Nat → Int} {L : List Ent} (h : RelL c N first d t blk tch own nr sh L) (hn : NearR c N.nn N.nc nr' d t L) : RelL c N first d t blk tch own nr' sh L :=
  { h with near := hn }

theorem near_empty {c : Cf} {nn nc : Nat} {d t : Int} : NearR c nn nc (fun _ _ => cpE) d t [] := fun k x _ => by
  unfold stateN
  split
  · rfl
  · rfl
theorem RelL.start {c : Cf} {N : Cn} {first : Int → Int} {d : Nat} {own : Nat → Int} {sh : Nat → Int} (ho : ∀ a : Nat, a < N.pv → own a = first a) (hs : ∀ a : Nat, N.pv ≤ a → a < N.pv + N.sn → sh (a - N.pv) = first a) : RelL c N first d (-1) (fun _ _ => bkE) (fun _ => []) own (fun _ _ => cpE) sh [] :=
  ⟨FarR.start .., fun _ _ => by intro lo hi; rfl, MemR.start ho, near_empty, fun _ _ _ hh => absurd rfl hh, fun e he => absurd he (by simp), fun _ _ _ _ _ => rfl, hs⟩
end Go.Proofs.YtehheaedbnfidaaGreat

namespace Go.Proofs.YtehheaedbnfidaaGreat

structure RelC (M : MDat) (N : Cn) (d : Nat) (t : Int) (m : Mh) (S : So) : Prop where
  now : m.now = t
  evs : m.tr d = S.evs
  nx : ∀ k, k < N.nc → S.next.getD k 0 = (m.dn d k : Int)
  wt : m.wt d = S.queue
  bz : ∀ k, k < N.nc → (S.how.getD k 0 ≠ 0 ↔ ((m.wk k).busy = true ∧ (m.wk k).dom = (d : Int)))
  bg : ∀ k, k < N.nc → S.how.getD k 0 ≠ 0 → (m.wk k).issue = S.began.getD k 0
  ops : ∀ k, k < N.nc → m.ops d k = progF M d k
  kin : ∀ k, k < N.nc → ∀ o ∈ m.ops d k, o.1 = 0 ∨ o.1 = 1

/-- The lists of a play are as long as there are cores. -/
structure Lens (N : Cn) (S : So) : Prop where
  hl : S.how.length = N.nc
  nl : S.next.length = N.nc
  fl : S.free.length = N.nc
  bl : S.began.length = N.nc

theorem SoOk.lens {M : MDat} {N : Cn} {d : Nat} {S : So} {B : Nat} (h : SoOk M d S B) (hN : Nm M.c N) : Lens N S := by
  have := hN.nc
  exact ⟨by rw [h.hl]; omega, by rw [h.nl]; omega, by rw [h.fl]; omega, by rw [h.bl]; omega⟩

/-- What others do. -/
theorem RelC.frame {M : MDat} {N : Cn} {d : Nat} {t : Int} {m m' : Mh} {S : So} (h : RelC M N d t m S) (h1 : m'.now = m.now) (h2 : m'.tr d = m.tr d) (h3 : m'.dn d = m.dn d) (h4 : m'.wt d = m.wt d) (h5 : m'.ops d = m.ops d)
    (h6 : ∀ k, k < N.nc → (((m'.wk k).busy = true ∧ (m'.wk k).dom = (d : Int)) ↔ ((m.wk k).busy = true ∧ (m.wk k).dom = (d : Int)))) (h7 : ∀ k, k < N.nc → (m.wk k).busy = true → (m.wk k).dom = (d : Int) → (m'.wk k).issue = (m.wk k).issue) : RelC M N d t m' S :=
  ⟨by rw [h1]; exact h.now, by rw [h2]; exact h.evs, fun k hk => by rw [h3]; exact h.nx k hk, by rw [h4]; exact h.wt, fun k hk => by rw [h6 k hk]; exact h.bz k hk, fun k hk hh => by
    have hb := (h.bz k hk).1 hh
    rw [h7 k hk hb.1 hb.2]; exact h.bg k hk hh, fun k hk => by rw [h5]; exact h.ops k hk, fun k hk => by rw [h5]; exact h.kin k hk⟩

theorem RelC.opOf {M : MDat} {N : Cn} {d k : Nat} {t : Int} {m : Mh} {S : So} {o : OpT} (h : RelC M N d t m S) (hk : k < N.nc) (ho : m.next d k = some o) : opAt M d k S = o := by
  unfold Mh.next at ho
  unfold opAt
  rw [h.nx k hk, Int.toNat_natCast, ← h.ops k hk, List.getD_eq_getElem?_getD, ho]
  rfl
theorem RelC.has {M : MDat} {N : Cn} {d k : Nat} {t : Int} {m : Mh} {S : So} (h : RelC M N d t m S) (hk : k < N.nc) (hn : S.next.getD k 0 < (progF M d k).length) : ∃ o, m.next d k = some o ∧ opAt M d k S = o ∧ (o.1 = 0 ∨ o.1 = 1) := by
  rw [h.nx k hk, ← h.ops k hk] at hn
  have hl : m.dn d k < (m.ops d k).length := by omega
  have ho : m.next d k = some ((m.ops d k)[m.dn d k]'hl) := by unfold Mh.next; exact List.getElem?_eq_getElem hl
  exact ⟨_, ho, h.opOf hk ho, h.kin k hk _ (List.getElem_mem hl)⟩
theorem RelC.lacks {M : MDat} {N : Cn} {d k : Nat} {t : Int} {m : Mh} {S : So} (h : RelC M N d t m S) (hk : k < N.nc) (hn : m.next d k = none) : ((progF M d k).length : Int) ≤ S.next.getD k 0 := by
  rw [h.nx k hk, ← h.ops k hk]
  unfold Mh.next at hn
  have := List.getElem?_eq_none_iff.1 hn
  omega

/-- What is under way at k is done. -/
theorem RelC.finish {M : MDat} {N : Cn} {d k : Nat} {t : Int} {m : Mh} {S : So} (h : RelC M N d t m S) (hl : Lens N S) (hk : k < N.nc) (hb : S.how.getD k 0 ≠ 0) (v f : Int) : RelC M N d t (m.finish k v f) (S.done k t v f) := by
  obtain ⟨b1, b2⟩ := (h.bz k hk).1 hb
  have bg := h.bg k hk hb
  have dd : (m.wk k).dom.toNat = d := by rw [b2]; exact Int.toNat_natCast d
  have kn : k < S.next.length := by rw [hl.nl]; exact hk
  have kh : k < S.how.length := by rw [hl.hl]; exact hk
  refine ⟨h.now, ?_, fun j hj => ?_, h.wt, fun j hj => ?_, fun j hj hh => ?_, h.ops, h.kin⟩
  · unfold Mh.finish So.done
    simp only [dd]
    have : up1 m.tr d (m.tr d ++ [⟨k, m.dn d k, v, f, (m.wk k).issue, m.now⟩]) d = m.tr d ++ [⟨k, m.dn d k, v, f, (m.wk k).issue, m.now⟩] := by simp [up1]
    rw [this, h.evs, h.nx k hk, bg, h.now]
  · unfold Mh.finish So.done
    simp only [dd]
    rw [getD_set kn]
    by_cases e : j = k
    · subst e
      rw [if_pos rfl, h.nx j hj]
      simp [up2]
    · rw [if_neg e, h.nx j hj]
      simp [up2, e]
  · unfold Mh.finish So.done
    simp only
    rw [getD_set kh]
    by_cases e : j = k
    · subst e
      rw [if_pos rfl]
      simp [up1]
    · rw [if_neg e]
      simp only [up1, e, if_false]
      exact h.bz j hj
  · unfold So.done at hh ⊢
    unfold Mh.finish
    simp only at hh ⊢
    rw [getD_set kh] at hh
    by_cases e : j = k
    · subst e
      rw [if_pos rfl] at hh; exact absurd rfl hh
    · rw [if_neg e] at hh
      simp only [up1, e, if_false]
      exact h.bg j hj hh

/-- Something begins at k, which was idle. -/
theorem RelC.begun {M : MDat} {N : Cn} {d k : Nat} {t : Int} {m : Mh} {S : So} (h : RelC M N d t m S) (hl : Lens N S) (hk : k < N.nc) {w : Int} (hw : w ≠ 0) :
    RelC M N d t { m with wk := up1 m.wk k ⟨true, d, m.now⟩ } { S with began := S.began.set k t, how := S.how.set k w } := by
  have kb : k < S.began.length := by rw [hl.bl]; exact hk
  have kh : k < S.how.length := by rw [hl.hl]; exact hk
  refine ⟨h.now, h.evs, h.nx, h.wt, fun j hj => ?_, fun j hj hh => ?_, h.ops, h.kin⟩
  · simp only
    rw [getD_set kh]
    by_cases e : j = k
    · subst e
      rw [if_pos rfl]
      simp [up1, hw]
    · rw [if_neg e]
      simp only [up1, e, if_false]
      exact h.bz j hj
  · simp only at hh ⊢
    rw [getD_set kh] at hh
    rw [getD_set kb]
    by_cases e : j = k
    · subst e
      rw [if_pos rfl]
      simp [up1, h.now]
    · rw [if_neg e] at hh ⊢
      simp only [up1, e, if_false]
      exact h.bg j hj hh

/-- All of it. -/
structure Rel (M : MDat) (N : Cn) (d : Nat) (t : Int) (m : Mh) (S : So) : Prop where
  core : RelC M N d t m S
  log : RelL M.c N (firstF0 M d) d t (m.blk d) (m.tch d) (m.own d) m.nr m.sh S.log

theorem up3_at {α : Type} (f : Nat → Nat → Nat → α) (d i j : Nat) (v : α) : up3 f d i j v d = up2 (f d) i j v := by
  funext a b
  simp [up3, up2]
theorem up3_other {α : Type} (f : Nat → Nat → Nat → α) {d e : Nat} (i j : Nat) (v : α) (h : e ≠ d) : up3 f d i j v e = f e := by
  funext a b
  simp [up3, h]
theorem up2_at {α : Type} (f : Nat → Nat → α) (d i : Nat) (v : α) : up2 f d i v d = up1 (f d) i v := by
  funext a
  simp [up2, up1]
theorem up2_other {α : Type} (f : Nat → Nat → α) {d e : Nat} (i : Nat) (v : α) (h : e ≠ d) : up2 f d i v e = f e := by
  funext a
  simp [up2, h]
theorem up1_same {α : Type} (f : Nat → α) (d : Nat) (v : α) : up1 f d v d = v := by simp [up1]
theorem up1_other {α : Type} (f : Nat → α) {d e : Nat} (v : α) (h : e ≠ d) : up1 f d v e = f e := by simp [up1, h]

theorem first_spec {p : Nat → Bool} : ∀ n j : Nat, firstW p n j = -1 ∨ ∃ i : Nat, j ≤ i ∧ i < j + n ∧ firstW p n j = (i : Int) ∧ p i = true
  | 0, _ => Or.inl rfl
  | n + 1, j => by
    unfold firstW
    by_cases h : p j = true
    · rw [if_pos h]; exact Or.inr ⟨j, Nat.le_refl _, by omega, rfl, h⟩
    · rw [if_neg h]
      rcases first_spec (p := p) n (j + 1) with q | ⟨i, h1, h2, h3, h4⟩
      · exact Or.inl q
      · exact Or.inr ⟨i, by omega, by omega, h3, h4⟩
theorem way_spec (b : Nat → Bk) (n : Nat) (x : Int) : wayF b n x = -1 ∨ ∃ r : Nat, r < n ∧ wayF b n x = (r : Int) ∧ (b r).line = x := by
  rcases first_spec (p := fun j => decide ((b j).line = x)) n 0 with q | ⟨i, _, h2, h3, h4⟩
  · exact Or.inl q
  · exact Or.inr ⟨i, by omega, h3, by simpa using h4⟩

/-- A service, case by case. -/
theorem mserve_none {N : Cn} {m : Mh} {d : Nat} (hq : m.wt d = []) : m.serve N d = (m, -1) := by
  unfold Mh.serve; rw [hq]
theorem mserve_fetch {N : Cn} {m : Mh} {d k x : Nat} {q : List Int} {o : OpT} (hq : m.wt d = (k : Int) :: q) (hn : m.next d k = some o) (hx : (o.2.1 / (N.ln : Int)).toNat = x) (hw : wayF (m.blk d (x % N.ns)) (N.wn d) x = -1) : m.serve N d = (m.fetch N d x, -1) := by
  unfold Mh.serve; rw [hq]
  simp only [Int.toNat_natCast, hn, hx]
  rw [if_pos hw]
theorem mserve_done {N : Cn} {m : Mh} {d k x r : Nat} {q : List Int} {o : OpT} (hq : m.wt d = (k : Int) :: q) (hn : m.next d k = some o) (hx : (o.2.1 / (N.ln : Int)).toNat = x) (hw : wayF (m.blk d (x % N.ns)) (N.wn d) x = (r : Int)) :
    m.serve N d = ((((({ m with wt := up1 m.wt d q, tch := up2 m.tch d (x % N.ns) (touchF (m.tch d (x % N.ns)) (r : Int)) } : Mh).hand N d k o).perform N d o).finish k ((({ m with wt := up1 m.wt d q, tch := up2 m.tch d (x % N.ns) (touchF (m.tch d (x % N.ns)) (r : Int)) } : Mh).hand N d k o).valueOf N d o) 0), (k : Int)) := by
  unfold Mh.serve; rw [hq]
  simp only [Int.toNat_natCast, hn, hx]
  rw [if_neg (by rw [hw]; omega), hw]
theorem hand_load {N : Cn} {m : Mh} {d k x : Nat} {o : OpT} (ho : o.1 = 0) (hx : (o.2.1 / (N.ln : Int)).toNat = x) : m.hand N d k o = { m with nr := putN N.nn (shareAllN (fun j => decide (j < N.nc ∧ j ≠ k)) N.nn m.nr d x) k d x (if foundN N.nn m.nr k d x N.nc = true ∨ N.c.priv ≤ o.2.1 then 1 else 2) } := by
  unfold Mh.hand
  simp only [hx]
  rw [if_neg (by omega)]
theorem hand_store {N : Cn} {m : Mh} {d k x : Nat} {o : OpT} (ho : o.1 = 1) (hx : (o.2.1 / (N.ln : Int)).toNat = x) : m.hand N d k o = { m with nr := putN N.nn (dropAllN (fun j => decide (j < N.nc ∧ j ≠ k)) N.nn m.nr d x) k d x 3 } := by
  unfold Mh.hand
  simp only [hx]
  rw [if_pos ho]
theorem perform_load {N : Cn} {m : Mh} {d : Nat} {o : OpT} (ho : o.1 = 0) : m.perform N d o = m := by
  unfold Mh.perform
  simp only
  rw [if_pos (Or.inr ho)]
theorem perform_store {N : Cn} {m : Mh} {d x r : Nat} {o : OpT} (ho : o.1 = 1) (hx : (o.2.1 / (N.ln : Int)).toNat = x) (hw : wayF (m.blk d (x % N.ns)) (N.wn d) x = (r : Int)) : m.perform N d o = { m with blk := up3 m.blk d (x % N.ns) r ⟨(m.blk d (x % N.ns) r).line, true, up1 (m.blk d (x % N.ns) r).wd (o.2.1.toNat - x * N.ln) o.2.2⟩ } := by
  unfold Mh.perform
  simp only [hx, hw, Int.toNat_natCast]
  rw [if_neg (by omega)]
theorem value_store {N : Cn} {m : Mh} {d : Nat} {o : OpT} (ho : o.1 = 1) : m.valueOf N d o = o.2.2 := by
  unfold Mh.valueOf
  simp only
  rw [if_neg (by omega)]
theorem value_load {N : Cn} {m : Mh} {d x r : Nat} {o : OpT} (ho : o.1 = 0) (hx : (o.2.1 / (N.ln : Int)).toNat = x) (hw : wayF (m.blk d (x % N.ns)) (N.wn d) x = (r : Int)) : m.valueOf N d o = (m.blk d (x % N.ns) r).wd (o.2.1.toNat - x * N.ln) := by
  unfold Mh.valueOf
  simp only [hx, hw, Int.toNat_natCast]
  rw [if_pos ho, if_neg (by omega)]
theorem value_load' {N : Cn} {m : Mh} {d x r : Nat} {o : OpT} (ho : o.1 = 0) (hx : (o.2.1 / (N.ln : Int)).toNat = x) (hw : wayF (m.blk d (x % N.ns)) (N.wn d) x = (r : Int)) (m' : Mh) (hb : m'.blk = m.blk) : m'.valueOf N d o = (m.blk d (x % N.ns) r).wd (o.2.1.toNat - x * N.ln) := by
  rw [← hb] at hw ⊢
  exact value_load ho hx hw
theorem perform_store' {N : Cn} {m : Mh} {d x r : Nat} {o : OpT} (ho : o.1 = 1) (hx : (o.2.1 / (N.ln : Int)).toNat = x) (hw : wayF (m.blk d (x % N.ns)) (N.wn d) x = (r : Int)) (m' : Mh) (hb : m'.blk = m.blk) : m'.perform N d o = { m' with blk := up3 m.blk d (x % N.ns) r ⟨(m.blk d (x % N.ns) r).line, true, up1 (m.blk d (x % N.ns) r).wd (o.2.1.toNat - x * N.ln) o.2.2⟩ } := by
  rw [← hb] at hw ⊢
  exact perform_store ho hx hw
end Go.Proofs.YtehheaedbnfidaaGreat

namespace Go.Proofs.YtehheaedbnfidaaGreat

theorem RelC.told {M : MDat} {N : Cn} {d : Nat} {t : Int} {m : Mh} {S : So} (h : RelC M N d t m S) (e : Ent) : RelC M N d t m (S.told e) :=
  ⟨h.now, h.evs, h.nx, h.wt, h.bz, h.bg, h.ops, h.kin⟩
theorem RelC.same {M : MDat} {N : Cn} {d : Nat} {t : Int} {m m' : Mh} {S : So} (h : RelC M N d t m S) (h1 : m'.now = m.now) (h2 : m'.tr = m.tr) (h3 : m'.dn = m.dn) (h4 : m'.wt = m.wt) (h5 : m'.ops = m.ops) (h6 : m'.wk = m.wk) : RelC M N d t m' S :=
  h.frame h1 (by rw [h2]) (by rw [h3]) (by rw [h4]) (by rw [h5]) (fun k _ => by rw [h6]) (fun k _ _ _ => by rw [h6])

/-- The line of an operation that is no fault. -/
theorem line_of {c : Cf} {N : Cn} (hN : Nm c N) {o : OpT} (hf : faultF c o = 0) : ∃ a : Nat, o.2.1 = (a : Int) ∧ a < N.pv + N.sn ∧ (o.2.1 / (N.ln : Int)).toNat = a / N.ln ∧ o.2.1 / c.line = ((a / N.ln : Nat) : Int) ∧ a / N.ln * N.ln ≤ a ∧ a < a / N.ln * N.ln + N.ln ∧ (o.1 = 1 → a < N.pv) := by
  obtain ⟨a0, a1⟩ := fault_none hf
  have hp := hN.pv
  have hs := hN.sn
  obtain ⟨a, ha⟩ : ∃ a : Nat, o.2.1 = (a : Int) := ⟨_, (Int.toNat_of_nonneg a0).symm⟩
  have hm := Nat.mod_add_div a N.ln
  have hlt := Nat.mod_lt a hN.l0
  have hcm : N.ln * (a / N.ln) = a / N.ln * N.ln := Nat.mul_comm _ _
  refine ⟨a, ha, by omega, ?_, ?_, by omega, by omega, fun h1 => ?_⟩
  · rw [ha, ← Int.natCast_ediv]; exact Int.toNat_natCast _
  · rw [ha, ← hN.ln, ← Int.natCast_ediv]
  · unfold faultF at hf
    by_cases q : o.2.1 < 0 ∨ c.priv + c.shared ≤ o.2.1
    · rw [if_pos q] at hf; omega
    · rw [if_neg q] at hf
      by_cases q2 : o.1 = 1 ∧ c.priv ≤ o.2.1
      · rw [if_pos q2] at hf; omega
      · omega

theorem write_in {pv ln a y : Nat} {own wd : Nat → Int} (h4 : ln ≤ 4) (ha : a < pv) (h1 : y * ln ≤ a) (h2 : a < y * ln + ln) : writeM pv ln own y wd a = wd (a - y * ln) := by
  unfold writeM; rw [if_pos ⟨h1, h2, by omega, ha⟩]
theorem write_out {pv ln a y : Nat} {own wd : Nat → Int} (h0 : 0 < ln) (h : a / ln ≠ y) : writeM pv ln own y wd a = own a := by
  unfold writeM
  rw [if_neg (fun q => h ?_)]
  obtain ⟨q1, q2, _⟩ := q
  have hle : y ≤ a / ln := (Nat.le_div_iff_mul_le h0).2 q1
  have hlt : a / ln < y + 1 := (Nat.div_lt_iff_lt_mul h0).2 (by rw [Nat.succ_mul]; exact q2)
  omega

set_option maxHeartbeats 1600000 in
theorem Rel.serve {M : MDat} {N : Cn} {d : Nat} {t : Int} {m : Mh} {S : So} {B : Nat} (hN : Nm M.c N) (hc : N.c = M.c) (hd : d < N.nd) (h : Rel M N d t m S) (hs : SoOk M d S B) (ht : ∀ k, k < N.nc → S.how.getD k 0 ≠ 0 → turnZ M.c k t = d ∧ t % M.c.quantum < M.c.quantum - M.c.flush) :
    Rel M N d t (m.serve N d).1 (So.serve M d S t) ∧ (((m.serve N d).2 = -1 ∧ (So.serve M d S t).free = S.free) ∨ ∃ k, k < N.nc ∧ (m.serve N d).2 = (k : Int) ∧ S.how.getD k 0 ≠ 0 ∧ (So.serve M d S t).free = S.free.set k (t + 1)) := by
  cases hq : S.queue with
  | nil =>
    have hq' : m.wt d = [] := h.core.wt.trans hq
    have e : So.serve M d S t = S := by unfold So.serve; rw [hq]
    rw [mserve_none hq', e]
    exact ⟨h, Or.inl ⟨rfl, rfl⟩⟩
  | cons core q =>
    obtain ⟨k, rfl, hk', hk1⟩ := hs.qu core (by rw [hq]; exact List.mem_cons_self ..)
    have hnc : M.c.cores.toNat = N.nc := by have := hN.nc; omega
    have hk : k < N.nc := by omega
    have hb : S.how.getD k 0 ≠ 0 := by omega
    have hq' : m.wt d = (k : Int) :: q := h.core.wt.trans hq
    have hnx : S.next.getD k 0 < (progF M d k).length := by rcases hs.hw k hk' with e | e <;> omega
    obtain ⟨o, ho, hoa, hkin⟩ := h.core.has hk hnx
    have hf : faultF M.c o = 0 := by rw [← hoa]; exact hs.w1 k hk' hk1
    obtain ⟨a, ha, hap, hx1, hx2, hx3, hx4, hst⟩ := line_of hN hf
    obtain ⟨okd, oad, ovl⟩ := o
    simp only at ha hx1 hx2 hst hkin
    obtain ⟨t1, t2⟩ := ht k hk hb
    have hl := hs.lens hN
    have F := h.log.far
    have hsl : a / N.ln % N.ns < N.ns := Nat.mod_lt _ hN.s0
    have hwh := F.wh (a / N.ln)
    have l4 := hN.l4
    have l0 := hN.l0
    rcases way_spec (m.blk d (a / N.ln % N.ns)) (N.wn d) ((a / N.ln : Nat) : Int) with hw | ⟨r, hr, hw, hline⟩
    · rw [mserve_fetch hq' ho hx1 hw]
      have hneg : ¬ 0 ≤ whereF ((a / N.ln : Nat) : Int) S.log := by rw [hwh, hw]; omega
      have hsm : smallB ((N.wn d : Nat) : Int) = true := by rw [hN.wn]; exact ways_small hN.right (by have := hN.nd; omega)
      have hroom := room_chosen F hsl (h.log.tch _ hsl)
      obtain ⟨c0, c1⟩ := chosen_bd (c := M.c) (set := ((a / N.ln % N.ns : Nat) : Int)) (log := S.log) hsm
      obtain ⟨r, hrr⟩ : ∃ r : Nat, chosenF M.c (N.wn d) ((a / N.ln % N.ns : Nat) : Int) S.log = (r : Int) := ⟨_, (Int.toNat_of_nonneg c0).symm⟩
      have hr : r < N.wn d := by omega
      have hset := set_cast hN (a / N.ln)
      have hch : chosenF M.c (M.c.ways.count (d : Int)) (((a / N.ln : Nat) : Int) % M.c.sets) S.log = (r : Int) := by rw [hset, ← hN.wn]; exact hrr
      have hlies : liesF M.c (((a / N.ln : Nat) : Int) % M.c.sets) (r : Int) S.log = (m.blk d (a / N.ln % N.ns) r).line := by rw [hset]; exact (F.line _ _ hsl hr).symm
      have hlow := F.low (a / N.ln % N.ns) r hsl hr
      have hxl : a / N.ln * N.ln < N.pv + N.sn := by omega
      by_cases hy : (m.blk d (a / N.ln % N.ns) r).line = -1
      · have hmk := h.log.emp _ r hsl hr hy
        rw [serve_fill hq hoa hx2 hneg hch hlies (by omega)]
        have hfe : m.fetch N d (a / N.ln) = { m with blk := up3 m.blk d (a / N.ln % N.ns) r ⟨((a / N.ln : Nat) : Int), false, readM N.pv N.sn N.ln (m.own d) m.sh (a / N.ln)⟩ } := by
          unfold Mh.fetch
          simp only [hroom, hrr, Int.toNat_natCast, hy, hmk, if_true, Bool.false_eq_true, if_false]
        rw [hfe]
        have hL := h.log.fill hN hr hy hxl hw
        rw [← up3_at] at hL
        exact ⟨⟨RelC.told (by exact h.core.same rfl rfl rfl rfl rfl rfl) _, hL⟩, Or.inl ⟨rfl, rfl⟩⟩
      · obtain ⟨y, hyy⟩ : ∃ y : Nat, (m.blk d (a / N.ln % N.ns) r).line = (y : Int) := ⟨_, (Int.toNat_of_nonneg (by omega)).symm⟩
        have hys : y % N.ns = a / N.ln % N.ns := by
          have := F.set _ r hsl hr (by omega)
          rw [hyy] at this; omega
        have hmkd := F.mkd _ r hsl hr (by omega)
        rw [hyy] at hmkd
        have hwd := fun i (hi : i < N.ln) => F.wd _ r i hsl hr hi (by omega)
        rw [hyy] at hwd
        have hline' : (m.blk d (y % N.ns) r).line = (y : Int) := by rw [hys]; exact hyy
        have hdig : ∀ b : Nat, b / N.ln = y → y * N.ln ≤ b ∧ b < y * N.ln + N.ln := fun b hb => by
          have h1 := Nat.mod_add_div b N.ln
          have h2 := Nat.mod_lt b l0
          rw [hb] at h1
          have : N.ln * y = y * N.ln := Nat.mul_comm _ _
          omega
        by_cases hm : (m.blk d (a / N.ln % N.ns) r).mkd = true
        · rw [serve_gone hq hoa hx2 hneg hch (hlies.trans hyy) (by omega) (by rw [← hmkd]; exact hm)]
          have hfe : m.fetch N d (a / N.ln) = { m with nr := dropAllN (fun j => decide (j < N.nc)) N.nn m.nr d y, own := up1 m.own d (writeM N.pv N.ln (m.own d) y (m.blk d (a / N.ln % N.ns) r).wd), blk := up3 m.blk d (a / N.ln % N.ns) r bkE } := by
            have hn1 : ¬ ((y : Int) = -1) := by omega
            unfold Mh.fetch
            simp only [hroom, hrr, Int.toNat_natCast, hyy, hm, if_true, hn1, if_false]
          rw [hfe]
          have hL := h.log.gone (own' := writeM N.pv N.ln (m.own d) y (m.blk d (a / N.ln % N.ns) r).wd) hN hr hline' (fun b hb hby => by
            obtain ⟨g1, g2⟩ := hdig b hby
            rw [write_in l4 hb g1 g2, hwd _ (by omega)]
            have : (y : Int) * N.ln + ((b - y * N.ln : Nat) : Int) = (b : Int) := by
              rw [← Int.natCast_mul, ← Int.natCast_add]; congr 1; omega
            rw [this]) (fun b hb hby => write_out l0 hby)
          rw [hys, ← up3_at] at hL
          have hown : up1 m.own d (writeM N.pv N.ln (m.own d) y (m.blk d (a / N.ln % N.ns) r).wd) d = writeM N.pv N.ln (m.own d) y (m.blk d (a / N.ln % N.ns) r).wd := up1_same ..
          rw [← hown] at hL
          exact ⟨⟨RelC.told (by exact h.core.same rfl rfl rfl rfl rfl rfl) _, hL⟩, Or.inl ⟨rfl, rfl⟩⟩
        · have hm' : (m.blk d (a / N.ln % N.ns) r).mkd = false := by simpa using hm
          rw [serve_both hq hoa hx2 hneg hch (hlies.trans hyy) (by omega) (by rw [← hmkd]; exact hm')]
          have hfe : m.fetch N d (a / N.ln) = { m with nr := dropAllN (fun j => decide (j < N.nc)) N.nn m.nr d y, blk := up3 m.blk d (a / N.ln % N.ns) r ⟨((a / N.ln : Nat) : Int), false, readM N.pv N.sn N.ln (m.own d) m.sh (a / N.ln)⟩ } := by
            have hn1 : ¬ ((y : Int) = -1) := by omega
            unfold Mh.fetch
            simp only [hroom, hrr, Int.toNat_natCast, hyy, hm', Bool.false_eq_true, if_false, hn1]
          rw [hfe]
          have hL := h.log.gone (own' := m.own d) hN hr hline' (fun b hb hby => h.log.mem.cln b hb (Or.inr (by rw [hby, ← hmkd]; exact hm'))) (fun b hb hby => rfl)
          rw [hys] at hL
          have hno : wayF (up2 (m.blk d) (a / N.ln % N.ns) r bkE (a / N.ln % N.ns)) (N.wn d) ((a / N.ln : Nat) : Int) = -1 := by
            rw [← hL.far.wh (a / N.ln)]
            by_cases g : (y : Int) = ((a / N.ln : Nat) : Int)
            · simp [whereF, g]
            · have : whereF ((a / N.ln : Nat) : Int) S.log = -1 := hwh.trans hw
              rw [where_ne g]; exact this
          have hL2 := hL.fill hN hr (by simp [up2, bkE]) hxl hno
          rw [up2_up2, ← up3_at] at hL2
          exact ⟨⟨RelC.told (RelC.told (by exact h.core.same rfl rfl rfl rfl rfl rfl) _) _, hL2⟩, Or.inl ⟨rfl, rfl⟩⟩
    · rw [mserve_done hq' ho hx1 hw]
      have hpos : 0 ≤ whereF ((a / N.ln : Nat) : Int) S.log := by rw [hwh, hw]; omega
      have hwr : whereF ((a / N.ln : Nat) : Int) S.log = (r : Int) := hwh.trans hw
      have hpop : RelC M N d t { m with wt := up1 m.wt d q, tch := up2 m.tch d (a / N.ln % N.ns) (touchF (m.tch d (a / N.ln % N.ns)) (r : Int)) } { S with queue := q } :=
        ⟨h.core.now, h.core.evs, h.core.nx, up1_same .., h.core.bz, h.core.bg, h.core.ops, h.core.kin⟩
      have hl' : Lens N { S with queue := q } := ⟨hl.hl, hl.nl, hl.fl, hl.bl⟩
      have hat : oad.toNat = a := by rw [ha]; exact Int.toNat_natCast a
      rcases hkin with hld | hsto
      · subst hld
        rw [serve_load hq hoa (by simp) hx2 hpos, hand_load rfl hx1, perform_load rfl, value_load' rfl hx1 hw _ ?hb]
        case hb => rfl
        have hv : (m.blk d (a / N.ln % N.ns) r).wd (oad.toNat - a / N.ln * N.ln) = wordF oad (firstF0 M d oad) (⟨t, 3, k, ((a / N.ln : Nat) : Int), whereF ((a / N.ln : Nat) : Int) S.log, false, loneF M.c k ((a / N.ln : Nat) : Int) t S.log M.c.cores.toNat 0 && decide (oad < M.c.priv), 0, 0⟩ :: S.log) := by
          rw [hat, F.wd _ r _ hsl hr (by omega) (by rw [hline]; omega), hline]
          have : ((a / N.ln : Nat) : Int) * N.ln + ((a - a / N.ln * N.ln : Nat) : Int) = oad := by
            rw [ha, ← Int.natCast_mul, ← Int.natCast_add]; congr 1; omega
          rw [this]
          simp [wordF]
        simp only
        rw [hv]
        have hL := h.log.load (a := oad) (way := (r : Int)) hN hk hpos t1 t2
        rw [← up2_at, ← hc] at hL
        have hC := ((hpop.same (m' := { m with wt := up1 m.wt d q, tch := up2 m.tch d (a / N.ln % N.ns) (touchF (m.tch d (a / N.ln % N.ns)) (r : Int)), nr := putN N.nn (shareAllN (fun j => decide (j < N.nc ∧ j ≠ k)) N.nn m.nr d (a / N.ln)) k d (a / N.ln) (if foundN N.nn m.nr k d (a / N.ln) N.nc = true ∨ N.c.priv ≤ oad then 1 else 2) }) rfl rfl rfl rfl rfl rfl).told ⟨t, 3, k, ((a / N.ln : Nat) : Int), whereF ((a / N.ln : Nat) : Int) S.log, false, loneF M.c k ((a / N.ln : Nat) : Int) t S.log M.c.cores.toNat 0 && decide (oad < M.c.priv), 0, 0⟩).finish ⟨hl'.hl, hl'.nl, hl'.fl, hl'.bl⟩ hk hb (wordF oad (firstF0 M d oad) (⟨t, 3, k, ((a / N.ln : Nat) : Int), whereF ((a / N.ln : Nat) : Int) S.log, false, loneF M.c k ((a / N.ln : Nat) : Int) t S.log M.c.cores.toNat 0 && decide (oad < M.c.priv), 0, 0⟩ :: S.log)) 0
        refine ⟨⟨hC, ?_⟩, Or.inr ⟨k, hk, rfl, hb, rfl⟩⟩
        rw [hc] at hL
        show RelL M.c N (firstF0 M d) d t (m.blk d) (up2 m.tch d (a / N.ln % N.ns) (touchF (m.tch d (a / N.ln % N.ns)) (r : Int)) d) (m.own d) (putN N.nn (shareAllN (fun j => decide (j < N.nc ∧ j ≠ k)) N.nn m.nr d (a / N.ln)) k d (a / N.ln) (if foundN N.nn m.nr k d (a / N.ln) N.nc = true ∨ N.c.priv ≤ oad then 1 else 2)) m.sh (⟨t, 3, k, ((a / N.ln : Nat) : Int), whereF ((a / N.ln : Nat) : Int) S.log, false, loneF M.c k ((a / N.ln : Nat) : Int) t S.log M.c.cores.toNat 0 && decide (oad < M.c.priv), 0, 0⟩ :: S.log)
        rw [hnc, hwr, hc]
        exact hL
      · subst hsto
        have hapv := hst rfl
        rw [serve_store hq hoa hx2 hpos, hand_store rfl hx1, perform_store' rfl hx1 hw _ ?hb, value_store rfl]
        case hb => rfl
        have hL := h.log.store (v := ovl) (w2 := (r : Int)) hN hk hapv hr hline hpos t1 t2
        rw [← up2_at, ← up3_at] at hL
        have hC := (((hpop.same (m' := { m with wt := up1 m.wt d q, tch := up2 m.tch d (a / N.ln % N.ns) (touchF (m.tch d (a / N.ln % N.ns)) (r : Int)), nr := putN N.nn (dropAllN (fun j => decide (j < N.nc ∧ j ≠ k)) N.nn m.nr d (a / N.ln)) k d (a / N.ln) 3, blk := up3 m.blk d (a / N.ln % N.ns) r ⟨(m.blk d (a / N.ln % N.ns) r).line, true, up1 (m.blk d (a / N.ln % N.ns) r).wd (oad.toNat - a / N.ln * N.ln) ovl⟩ }) rfl rfl rfl rfl rfl rfl).told ⟨t, 3, k, ((a / N.ln : Nat) : Int), whereF ((a / N.ln : Nat) : Int) S.log, true, false, 0, 0⟩).told ⟨t, 4, k, ((a / N.ln : Nat) : Int), whereF ((a / N.ln : Nat) : Int) S.log, false, false, oad, ovl⟩).finish ⟨hl'.hl, hl'.nl, hl'.fl, hl'.bl⟩ hk hb ovl 0
        refine ⟨⟨hC, ?_⟩, Or.inr ⟨k, hk, rfl, hb, rfl⟩⟩
        show RelL M.c N (firstF0 M d) d t (up3 m.blk d (a / N.ln % N.ns) r ⟨(m.blk d (a / N.ln % N.ns) r).line, true, up1 (m.blk d (a / N.ln % N.ns) r).wd (oad.toNat - a / N.ln * N.ln) ovl⟩ d) (up2 m.tch d (a / N.ln % N.ns) (touchF (m.tch d (a / N.ln % N.ns)) (r : Int)) d) (m.own d) (putN N.nn (dropAllN (fun j => decide (j < N.nc ∧ j ≠ k)) N.nn m.nr d (a / N.ln)) k d (a / N.ln) 3) m.sh (⟨t, 4, k, ((a / N.ln : Nat) : Int), whereF ((a / N.ln : Nat) : Int) S.log, false, false, oad, ovl⟩ :: ⟨t, 3, k, ((a / N.ln : Nat) : Int), whereF ((a / N.ln : Nat) : Int) S.log, true, false, 0, 0⟩ :: S.log)
        rw [hat, hline, hwr, ha]
        exact hL
end Go.Proofs.YtehheaedbnfidaaGreat

namespace Go.Proofs.YtehheaedbnfidaaGreat

theorem mbegin_fault {N : Cn} {m : Mh} {d k : Nat} {o : OpT} (hf : faultF N.c o ≠ 0) : m.begin N d k o = { m with wk := up1 m.wk k ⟨true, d, m.now⟩ } := by
  unfold Mh.begin
  simp only
  rw [if_pos hf]
theorem mbegin_wait {N : Cn} {m : Mh} {d k x : Nat} {o : OpT} (hf : faultF N.c o = 0) (hx : (o.2.1 / (N.ln : Int)).toNat = x) (hs : (o.1 = 0 ∧ stateN N.nn m.nr k d x = 0) ∨ (o.1 ≠ 0 ∧ stateN N.nn m.nr k d x ≠ 2 ∧ stateN N.nn m.nr k d x ≠ 3)) : m.begin N d k o = { m with wk := up1 m.wk k ⟨true, d, m.now⟩, wt := up1 m.wt d (m.wt d ++ [(k : Int)]) } := by
  unfold Mh.begin
  simp only [hx]
  rw [if_neg (by rw [hf]; simp), if_pos hs]
theorem mbegin_load {N : Cn} {m : Mh} {d k x : Nat} {o : OpT} (hf : faultF N.c o = 0) (hx : (o.2.1 / (N.ln : Int)).toNat = x) (ho : o.1 = 0) (hs : stateN N.nn m.nr k d x ≠ 0) : m.begin N d k o = ({ m with wk := up1 m.wk k ⟨true, d, m.now⟩ } : Mh).finish k (({ m with wk := up1 m.wk k ⟨true, d, m.now⟩ } : Mh).valueOf N d o) 0 := by
  unfold Mh.begin
  simp only [hx]
  rw [if_neg (by rw [hf]; simp), if_neg (by omega), if_neg (by omega), perform_load ho]
theorem mbegin_store {N : Cn} {m : Mh} {d k x : Nat} {o : OpT} (hf : faultF N.c o = 0) (hx : (o.2.1 / (N.ln : Int)).toNat = x) (ho : o.1 = 1) (hs : stateN N.nn m.nr k d x = 2 ∨ stateN N.nn m.nr k d x = 3) : m.begin N d k o = (({ m with wk := up1 m.wk k ⟨true, d, m.now⟩, nr := putN N.nn m.nr k d x 3 } : Mh).perform N d o).finish k o.2.2 0 := by
  unfold Mh.begin
  simp only [hx]
  rw [if_neg (by rw [hf]; simp), if_neg (by omega), if_pos ho, value_store ho]

/-- The states of a copy. -/
theorem state_range {c : Cf} {k x t : Int} : ∀ (lw : Bool) (L : List Ent), 0 ≤ stateF c k x t lw L ∧ stateF c k x t lw L ≤ 3
  | _, [] => by unfold stateF; omega
  | lw, e :: L => by
    have i1 := state_range (c := c) (k := k) (x := x) (t := t) true L
    have i2 := state_range (c := c) (k := k) (x := x) (t := t) lw L
    unfold stateF
    repeat' split
    all_goals first | omega | exact i1 | exact i2

set_option maxHeartbeats 1600000 in
/-- An operation begins at a core that is idle. -/
theorem Rel.begin {M : MDat} {N : Cn} {d k : Nat} {t : Int} {m : Mh} {S : So} {B : Nat} {o : OpT} (hN : Nm M.c N) (hc : N.c = M.c) (h : Rel M N d t m S) (hs : SoOk M d S B) (hk : k < N.nc) (ho : m.next d k = some o) (t1 : turnZ M.c k t = d) (t2 : t % M.c.quantum < M.c.quantum - M.c.flush) :
    Rel M N d t (m.begin N d k o) (So.begin M d k S t) := by
  have hoa := h.core.opOf hk ho
  have hkin : o.1 = 0 ∨ o.1 = 1 := h.core.kin k hk o (by
    unfold Mh.next at ho
    obtain ⟨h1, h2⟩ := List.getElem?_eq_some_iff.1 ho
    rw [← h2]; exact List.getElem_mem h1)
  have hl := hs.lens hN
  have hL := h.log
  unfold So.begin
  rw [hoa]
  by_cases hf : faultF M.c o ≠ 0
  · simp only [if_pos hf]
    rw [mbegin_fault (by rw [hc]; exact hf)]
    exact ⟨h.core.begun hl hk (by decide), hL⟩
  · simp only [if_neg hf]
    have hf0 : faultF M.c o = 0 := by omega
    obtain ⟨a, ha, hap, hx1, hx2, hx3, hx4, hst⟩ := line_of hN hf0
    have hns := hL.near k (a / N.ln) hk
    have hnc : M.c.cores.toNat = N.nc := by have := hN.nc; omega
    rw [hx2]
    obtain ⟨r0, r3⟩ := state_range (c := M.c) (k := k) (x := ((a / N.ln : Nat) : Int)) (t := t) false S.log
    by_cases hq : stateF M.c k ((a / N.ln : Nat) : Int) t false S.log = 0 ∨ (o.1 = 1 ∧ stateF M.c k ((a / N.ln : Nat) : Int) t false S.log = 1)
    · simp only [if_pos hq]
      rw [mbegin_wait (by rw [hc]; exact hf0) hx1 (by rw [hns]; omega)]
      have h1 := h.core.begun hl hk (w := 1) (by decide)
      exact ⟨⟨h1.now, h1.evs, h1.nx, by
        show up1 m.wt d (m.wt d ++ [(k : Int)]) d = S.queue ++ [(k : Int)]
        rw [up1_same, h.core.wt], h1.bz, h1.bg, h1.ops, h1.kin⟩, hL⟩
    · simp only [if_neg hq]
      have hne : stateN N.nn m.nr k d (a / N.ln) ≠ 0 := by rw [hns]; omega
      have hway : 0 ≤ whereF ((a / N.ln : Nat) : Int) S.log := hL.inc k _ hk (by rw [← hns]; exact hne)
      have hwh := hL.far.wh (a / N.ln)
      have hsl : a / N.ln % N.ns < N.ns := Nat.mod_lt _ hN.s0
      have hat : o.2.1.toNat = a := by rw [ha]; exact Int.toNat_natCast a
      rcases way_spec (m.blk d (a / N.ln % N.ns)) (N.wn d) ((a / N.ln : Nat) : Int) with hw | ⟨r, hr, hw, hline⟩
      · rw [hwh, hw] at hway; omega
      · by_cases h1 : o.1 = 1
        · simp only [if_pos h1]
          rw [mbegin_store (by rw [hc]; exact hf0) hx1 h1 (by rw [hns]; omega), perform_store' h1 hx1 hw _ ?hb]
          case hb => rfl
          have hG := hL.hit (v := o.2.2) (w2 := 0) hN hk (hst h1) hr hline hne t1 t2
          rw [← up3_at] at hG
          have hb := h.core.begun hl hk (w := 1) (by decide)
          have hC := ((hb.same (m' := { m with wk := up1 m.wk k ⟨true, d, m.now⟩, nr := putN N.nn m.nr k d (a / N.ln) 3, blk := up3 m.blk d (a / N.ln % N.ns) r ⟨(m.blk d (a / N.ln % N.ns) r).line, true, up1 (m.blk d (a / N.ln % N.ns) r).wd (o.2.1.toNat - a / N.ln * N.ln) o.2.2⟩ }) rfl rfl rfl rfl rfl rfl).told ⟨t, 4, k, ((a / N.ln : Nat) : Int), 0, false, false, o.2.1, o.2.2⟩).finish (k := k) ⟨by show (S.how.set k 1).length = _; rw [List.length_set]; exact hl.hl, hl.nl, hl.fl, by show (S.began.set k t).length = _; rw [List.length_set]; exact hl.bl⟩ hk (by show (S.how.set k 1).getD k 0 ≠ 0; rw [getD_set (by rw [hl.hl]; exact hk), if_pos rfl]; decide) o.2.2 0
          have hdone : ((({ S with began := S.began.set k t, how := S.how.set k 1 } : So).told ⟨t, 4, k, ((a / N.ln : Nat) : Int), 0, false, false, o.2.1, o.2.2⟩).done k t o.2.2 0) = ((({ S with began := S.began.set k t } : So).told ⟨t, 4, k, ((a / N.ln : Nat) : Int), 0, false, false, o.2.1, o.2.2⟩).done k t o.2.2 0) := by
            unfold So.done So.told
            simp only [List.set_set]
          rw [hdone] at hC
          refine ⟨hC, ?_⟩
          show RelL M.c N (firstF0 M d) d t (up3 m.blk d (a / N.ln % N.ns) r ⟨(m.blk d (a / N.ln % N.ns) r).line, true, up1 (m.blk d (a / N.ln % N.ns) r).wd (o.2.1.toNat - a / N.ln * N.ln) o.2.2⟩ d) (m.tch d) (m.own d) (putN N.nn m.nr k d (a / N.ln) 3) m.sh (⟨t, 4, k, ((a / N.ln : Nat) : Int), 0, false, false, o.2.1, o.2.2⟩ :: S.log)
          rw [hat, hline, ha]
          exact hG
        · simp only [if_neg h1]
          have h0 : o.1 = 0 := by omega
          rw [mbegin_load (by rw [hc]; exact hf0) hx1 h0 hne, value_load' h0 hx1 hw _ ?hb]
          case hb => rfl
          have hv : (m.blk d (a / N.ln % N.ns) r).wd (o.2.1.toNat - a / N.ln * N.ln) = wordF o.2.1 (firstF0 M d o.2.1) S.log := by
            rw [hat, hL.far.wd _ r _ hsl hr (by omega) (by rw [hline]; omega), hline]
            have : ((a / N.ln : Nat) : Int) * N.ln + ((a - a / N.ln * N.ln : Nat) : Int) = o.2.1 := by
              rw [ha, ← Int.natCast_mul, ← Int.natCast_add]; congr 1; omega
            rw [this]
          rw [hv]
          have hb := h.core.begun hl hk (w := 1) (by decide)
          have hC := hb.finish (k := k) ⟨by show (S.how.set k 1).length = _; rw [List.length_set]; exact hl.hl, hl.nl, hl.fl, by show (S.began.set k t).length = _; rw [List.length_set]; exact hl.bl⟩ hk (by show (S.how.set k 1).getD k 0 ≠ 0; rw [getD_set (by rw [hl.hl]; exact hk), if_pos rfl]; decide) (wordF o.2.1 (firstF0 M d o.2.1) S.log) 0
          have hdone : (({ S with began := S.began.set k t, how := S.how.set k 1 } : So).done k t (wordF o.2.1 (firstF0 M d o.2.1) S.log) 0) = (({ S with began := S.began.set k t } : So).done k t (wordF o.2.1 (firstF0 M d o.2.1) S.log) 0) := by
            unfold So.done
            simp only [List.set_set]
          rw [hdone] at hC
          exact ⟨hC, hL⟩

/-- What another domain e does at the core k, whose turn is not d's. -/
structure Other (c : Cf) (t : Int) (N : Cn) (d : Nat) (m m' : Mh) : Prop where
  now : m'.now = m.now
  tr : m'.tr d = m.tr d
  dn : m'.dn d = m.dn d
  wt : m'.wt d = m.wt d
  ops : m'.ops d = m.ops d
  blk : m'.blk d = m.blk d
  tch : m'.tch d = m.tch d
  own : m'.own d = m.own d
  sh : m'.sh = m.sh
  wk : ∀ k, k < N.nc → (((m'.wk k).busy = true ∧ (m'.wk k).dom = (d : Int)) ↔ ((m.wk k).busy = true ∧ (m.wk k).dom = (d : Int))) ∧ ((m.wk k).busy = true → (m.wk k).dom = (d : Int) → (m'.wk k).issue = (m.wk k).issue)
  near : ∀ (L : List Ent), (∀ k : Nat, turnZ c k t ≠ d → ∀ x : Nat, stateF c k x t false L = 0) → NearR c N.nn N.nc m.nr d t L → NearR c N.nn N.nc m'.nr d t L

theorem Rel.other {M : MDat} {N : Cn} {d : Nat} {t : Int} {m m' : Mh} {S : So} (hN : Nm M.c N) (h : Rel M N d t m S) (o : Other M.c t N d m m') : Rel M N d t m' S := by
  refine ⟨h.core.frame o.now o.tr o.dn o.wt o.ops (fun k hk => (o.wk k hk).1) (fun k hk => (o.wk k hk).2), ?_⟩
  rw [o.blk, o.tch, o.own, o.sh]
  exact h.log.near' (o.near _ (fun k hk x => h.log.lt.away (right_of hN.right) hk x) h.log.near)
theorem Other.refl {c : Cf} {t : Int} {N : Cn} {d : Nat} {m : Mh} : Other c t N d m m := ⟨rfl, rfl, rfl, rfl, rfl, rfl, rfl, rfl, rfl, fun _ _ => ⟨Iff.rfl, fun _ _ => rfl⟩, fun _ _ h => h⟩
theorem Other.trans {cf : Cf} {t : Int} {N : Cn} {d : Nat} {a b c : Mh} (h : Other cf t N d a b) (g : Other cf t N d b c) : Other cf t N d a c :=
  ⟨g.now.trans h.now, g.tr.trans h.tr, g.dn.trans h.dn, g.wt.trans h.wt, g.ops.trans h.ops, g.blk.trans h.blk, g.tch.trans h.tch, g.own.trans h.own, g.sh.trans h.sh, fun k hk => ⟨(g.wk k hk).1.trans (h.wk k hk).1, fun h1 h2 => by
    obtain ⟨q1, q2⟩ := (h.wk k hk).1.2 ⟨h1, h2⟩
    rw [(g.wk k hk).2 q1 q2]; exact (h.wk k hk).2 h1 h2⟩, fun L h1 h2 => g.near L h1 (h.near L h1 h2)⟩
end Go.Proofs.YtehheaedbnfidaaGreat

namespace Go.Proofs.YtehheaedbnfidaaGreat

theorem lturn_range {c : Cf} (h : chk c = 0) {k : Nat} {t : Int} (hk : (k : Int) < c.cores) (ho : openB c k (turnZ c k t) t = true) : 0 ≤ turnZ c k t ∧ turnZ c k t < c.domains := by
  have R := right_of h
  unfold openB at ho
  simp only [Bool.and_eq_true, decide_eq_true_eq] at ho
  refine ⟨ho.1.2, ?_⟩
  have hi : k < c.turns.length := by have := R.tl; omega
  have hrow := grid_row R hi
  have e : c.turns.getD k [] = c.turns[k] := by simp [List.getD, hi]
  have hl := R.each _ (List.getElem_mem hi)
  rw [← e] at hl
  unfold turnZ rowOf
  obtain ⟨j, hj, hjl⟩ := mod_nat (a := t / c.quantum) (n := (c.turns.getD k []).length) (by omega)
  rw [hj, Int.toNat_natCast]
  unfold listB at hl
  simp only [Bool.and_eq_true, List.all_eq_true] at hl
  have hm : ∀ (l : List Int) (j : Nat), j < l.length → l.getD j 0 ∈ l := fun l j hj => by
    rw [List.getD_eq_getElem?_getD, List.getElem?_eq_getElem hj]
    exact List.getElem_mem hj
  have hm := hm _ j hjl
  have := hl.2 _ hm
  rw [within_iff] at this
  omega

theorem lserved_range {c : Cf} (h : chk c = 0) (t : Int) : servedF c t = -1 ∨ (0 ≤ servedF c t ∧ servedF c t < c.domains) := by
  have R := right_of h
  unfold servedF
  split
  · right
    obtain ⟨j, hj, hjl⟩ := mod_nat (a := t / c.slot) (n := c.slots.length) (by have := R.t1; omega)
    rw [hj, Int.toNat_natCast]
    have hm : ∀ (l : List Int) (j : Nat), j < l.length → l.getD j 0 ∈ l := fun l j hj => by
      rw [List.getD_eq_getElem?_getD, List.getElem?_eq_getElem hj]
      exact List.getElem_mem hj
    have hm := hm _ j hjl
    have hs := (chk_zero h).2.2.1
    simp only [slotsB, listB, Bool.and_eq_true, List.all_eq_true] at hs
    have := hs.1.2.2 _ hm
    rw [within_iff] at this
    omega
  · exact Or.inl rfl

theorem serves_served {c : Cf} {d : Nat} {t : Int} : servesB c d t = true ↔ servedF c t = (d : Int) := by
  unfold servesB servedF
  by_cases h : t % c.slot = c.slot - 1
  · rw [if_pos h]; simp [h]
  · rw [if_neg h]; simp [h]

/-- Parts of what another domain does. -/
theorem Other.perform {c : Cf} {t : Int} {N : Cn} {d e : Nat} {m : Mh} (hne : e ≠ d) (o : OpT) : Other c t N d m (m.perform N e o) := by
  unfold Mh.perform
  simp only
  split
  · exact Other.refl
  · exact ⟨rfl, rfl, rfl, rfl, rfl, up3_other _ _ _ _ (fun q => hne q.symm), rfl, rfl, rfl, fun _ _ => ⟨Iff.rfl, fun _ _ => rfl⟩, fun _ _ h => h⟩
theorem Other.finish {c : Cf} {t : Int} {N : Cn} {d e k : Nat} {m : Mh} (hne : e ≠ d) (hk : (m.wk k).dom = (e : Int)) (v f : Int) : Other c t N d m (m.finish k v f) := by
  have dd : (m.wk k).dom.toNat = e := by rw [hk]; exact Int.toNat_natCast e
  have hne' : d ≠ e := fun q => hne q.symm
  unfold Mh.finish
  simp only [dd]
  refine ⟨rfl, up1_other _ _ hne', up2_other _ _ _ hne', rfl, rfl, rfl, rfl, rfl, rfl, fun j _ => ?_, fun _ _ h => h⟩
  by_cases q : j = k
  · subst q
    simp only [up1_same]
    exact ⟨⟨fun h => absurd h.1 (by decide), fun h => absurd (h.2.symm.trans hk) (by omega)⟩, fun _ _ => by trivial⟩
  · have e2 : up1 m.wk k ⟨false, (m.wk k).dom, (m.wk k).issue⟩ j = m.wk j := up1_other _ _ q
    dsimp only
    rw [e2]
    exact ⟨Iff.rfl, fun _ _ => rfl⟩
theorem Other.hand {c : Cf} {t : Int} {N : Cn} {d e k : Nat} {m : Mh} (hne : e ≠ d) (hk : turnZ c k t ≠ d) (o : OpT) : Other c t N d m (m.hand N e k o) := by
  have hne' : (e : Int) ≠ (d : Int) := by omega
  unfold Mh.hand
  simp only
  split
  · exact ⟨rfl, rfl, rfl, rfl, rfl, rfl, rfl, rfl, rfl, fun _ _ => ⟨Iff.rfl, fun _ _ => rfl⟩, fun L hz h => (h.otherDrop hne' _ _).otherPut hne' _ _ (hz k hk)⟩
  · exact ⟨rfl, rfl, rfl, rfl, rfl, rfl, rfl, rfl, rfl, fun _ _ => ⟨Iff.rfl, fun _ _ => rfl⟩, fun L hz h => (h.otherShare hne' _ _).otherPut hne' _ _ (hz k hk)⟩
theorem Other.fetch {c : Cf} {t : Int} {N : Cn} {d e x : Nat} {m : Mh} (hne : e ≠ d) : Other c t N d m (m.fetch N e x) := by
  have hne' : (e : Int) ≠ (d : Int) := by omega
  have hne2 : d ≠ e := fun q => hne q.symm
  unfold Mh.fetch
  simp only
  by_cases h1 : (m.blk e (x % N.ns) (roomF (m.blk e (x % N.ns)) (N.wn e) (m.tch e (x % N.ns))).toNat).line = -1
  · simp only [h1, if_true]
    split
    · exact ⟨rfl, rfl, rfl, rfl, rfl, up3_other _ _ _ _ hne2, rfl, up1_other _ _ hne2, rfl, fun _ _ => ⟨Iff.rfl, fun _ _ => rfl⟩, fun _ _ h => h⟩
    · exact ⟨rfl, rfl, rfl, rfl, rfl, up3_other _ _ _ _ hne2, rfl, rfl, rfl, fun _ _ => ⟨Iff.rfl, fun _ _ => rfl⟩, fun _ _ h => h⟩
  · simp only [h1, if_false]
    split
    · exact ⟨rfl, rfl, rfl, rfl, rfl, up3_other _ _ _ _ hne2, rfl, up1_other _ _ hne2, rfl, fun _ _ => ⟨Iff.rfl, fun _ _ => rfl⟩, fun _ _ h => h.otherDrop hne' _ _⟩
    · exact ⟨rfl, rfl, rfl, rfl, rfl, up3_other _ _ _ _ hne2, rfl, rfl, rfl, fun _ _ => ⟨Iff.rfl, fun _ _ => rfl⟩, fun _ _ h => h.otherDrop hne' _ _⟩
theorem hand_wk {N : Cn} {m : Mh} {e k : Nat} {o : OpT} : (m.hand N e k o).wk = m.wk := by
  unfold Mh.hand; simp only; split <;> rfl
theorem perform_wk {N : Cn} {m : Mh} {e : Nat} {o : OpT} : (m.perform N e o).wk = m.wk := by
  unfold Mh.perform; simp only; split <;> rfl
theorem fetch_wk {N : Cn} {m : Mh} {e x : Nat} : (m.fetch N e x).wk = m.wk := by
  unfold Mh.fetch; simp only; split <;> split <;> rfl

theorem Other.serve {c : Cf} {t : Int} {N : Cn} {d e : Nat} {m : Mh} (hne : e ≠ d) (hw : ∀ core q, m.wt e = core :: q → ∃ k : Nat, core = (k : Int) ∧ (m.wk k).dom = (e : Int) ∧ turnZ c k t = (e : Int)) : Other c t N d m (m.serve N e).1 := by
  have hne2 : d ≠ e := fun q => hne q.symm
  unfold Mh.serve
  cases hq : m.wt e with
  | nil => exact Other.refl
  | cons core q =>
    obtain ⟨k, rfl, h1, h2⟩ := hw core q hq
    simp only [Int.toNat_natCast]
    cases hn : m.next e k with
    | none => exact Other.refl
    | some o =>
      simp only
      split
      · exact Other.fetch hne
      · refine Other.trans (b := { m with wt := up1 m.wt e q, tch := up2 m.tch e ((o.2.1 / (N.ln : Int)).toNat % N.ns) (touchF (m.tch e ((o.2.1 / (N.ln : Int)).toNat % N.ns)) (wayF (m.blk e ((o.2.1 / (N.ln : Int)).toNat % N.ns)) (N.wn e) ((o.2.1 / (N.ln : Int)).toNat : Nat))) }) ?_ ?_
        · exact ⟨rfl, rfl, rfl, up1_other _ _ hne2, rfl, rfl, up2_other _ _ _ hne2, rfl, rfl, fun _ _ => ⟨Iff.rfl, fun _ _ => rfl⟩, fun _ _ h => h⟩
        · refine Other.trans (Other.hand (k := k) hne (by omega) o) (Other.trans (Other.perform hne o) (Other.finish hne ?_ _ _))
          rw [perform_wk, hand_wk]
          exact h1

theorem Other.begin {c : Cf} {t : Int} {N : Cn} {d e k : Nat} {m : Mh} (hne : e ≠ d) (hk : turnZ c k t = (e : Int)) (hb : (m.wk k).busy = false) (o : OpT) : Other c t N d m (m.begin N e k o) := by
  have hne2 : d ≠ e := fun q => hne q.symm
  have hne' : (e : Int) ≠ (d : Int) := by omega
  have hwk : ∀ j, (((up1 m.wk k ⟨true, (e : Int), m.now⟩ j).busy = true ∧ (up1 m.wk k ⟨true, (e : Int), m.now⟩ j).dom = (d : Int)) ↔ ((m.wk j).busy = true ∧ (m.wk j).dom = (d : Int))) ∧ ((m.wk j).busy = true → (m.wk j).dom = (d : Int) → (up1 m.wk k ⟨true, (e : Int), m.now⟩ j).issue = (m.wk j).issue) := fun j => by
    by_cases q : j = k
    · subst q
      simp only [up1_same]
      exact ⟨⟨fun h => absurd h.2 hne', fun h => by rw [hb] at h; exact absurd h.1 (by decide)⟩, fun h => by rw [hb] at h; exact absurd h (by decide)⟩
    · have e2 : up1 m.wk k ⟨true, (e : Int), m.now⟩ j = m.wk j := up1_other _ _ q
      rw [e2]
      exact ⟨Iff.rfl, fun _ _ => rfl⟩
  have h1 : Other c t N d m { m with wk := up1 m.wk k ⟨true, (e : Int), m.now⟩ } := ⟨rfl, rfl, rfl, rfl, rfl, rfl, rfl, rfl, rfl, fun j _ => hwk j, fun _ _ h => h⟩
  have hdom : ∀ m' : Mh, m'.wk = up1 m.wk k ⟨true, (e : Int), m.now⟩ → (m'.wk k).dom = (e : Int) := fun m' q => by rw [q, up1_same]
  unfold Mh.begin
  simp only
  split
  · exact h1
  · split
    · exact ⟨rfl, rfl, rfl, up1_other _ _ hne2, rfl, rfl, rfl, rfl, rfl, fun j _ => hwk j, fun _ _ h => h⟩
    · split
      · refine h1.trans (Other.trans (b := { m with wk := up1 m.wk k ⟨true, (e : Int), m.now⟩, nr := putN N.nn m.nr k e (o.2.1 / (N.ln : Int)).toNat 3 }) ?_ ((Other.perform hne o).trans (Other.finish hne (hdom _ perform_wk) _ _)))
        exact ⟨rfl, rfl, rfl, rfl, rfl, rfl, rfl, rfl, rfl, fun _ _ => ⟨Iff.rfl, fun _ _ => rfl⟩, fun L hz h => h.otherPut hne' _ _ (hz k (by omega))⟩
      · exact h1.trans ((Other.perform hne o).trans (Other.finish hne (hdom _ perform_wk) _ _))

/-- Who is under way is a domain. -/
def Doms (N : Cn) (m : Mh) : Prop := ∀ k, k < N.nc → (m.wk k).busy = true → ∃ e, e < N.nd ∧ (m.wk k).dom = (e : Int)

theorem Doms.same {N : Cn} {m m' : Mh} (h : Doms N m) (e : m'.wk = m.wk) : Doms N m' := fun k hk hb => by rw [e] at hb ⊢; exact h k hk hb
theorem Doms.finish {N : Cn} {m : Mh} (h : Doms N m) (k : Nat) (v f : Int) : Doms N (m.finish k v f) := fun j hj hb => by
  unfold Mh.finish at hb ⊢
  simp only at hb ⊢
  by_cases q : j = k
  · subst q; rw [up1_same] at hb; exact absurd hb (by simp)
  · rw [up1_other _ _ q] at hb ⊢; exact h j hj hb
theorem Doms.serve {N : Cn} {m : Mh} (h : Doms N m) (e : Nat) : Doms N (m.serve N e).1 := by
  unfold Mh.serve
  cases hq : m.wt e with
  | nil => exact h
  | cons core q =>
    simp only
    cases hn : m.next e core.toNat with
    | none => exact h
    | some o =>
      simp only
      split
      · exact h.same fetch_wk
      · refine Doms.finish ?_ _ _ _
        exact h.same (by rw [perform_wk, hand_wk])
theorem Doms.begin {N : Cn} {m : Mh} (h : Doms N m) {e : Nat} (he : e < N.nd) (k : Nat) (o : OpT) : Doms N (m.begin N e k o) := by
  have h1 : ∀ m' : Mh, m'.wk = up1 m.wk k ⟨true, (e : Int), m.now⟩ → Doms N m' := fun m' q j hj hb => by
    rw [q] at hb ⊢
    by_cases q2 : j = k
    · subst q2; rw [up1_same]; exact ⟨e, he, rfl⟩
    · rw [up1_other _ _ q2] at hb ⊢; exact h j hj hb
  unfold Mh.begin
  simp only
  split
  · exact h1 _ rfl
  · split
    · exact h1 _ rfl
    · split
      · exact Doms.finish (h1 _ perform_wk) _ _ _
      · exact Doms.finish (h1 _ perform_wk) _ _ _

theorem works_closed {M : MDat} {d k : Nat} {S : So} {t : Int} (h0 : S.how.getD k 0 = 0) (h : t < S.free.getD k 0 ∨ ((progF M d k).length : Int) ≤ S.next.getD k 0 ∨ openB M.c k d t = false) : So.works M d k S t = S := by
  unfold So.works
  rw [if_neg (by omega), if_pos (Or.inr h)]
theorem open_other {c : Cf} {k : Nat} {d t : Int} (h : turnZ c k t ≠ d) : openB c k d t = false := by
  unfold openB
  simp [h]

/-- A core's part of the cycle, for every domain. -/
theorem Rel.step {M : MDat} {N : Cn} {k : Nat} {t : Int} {m : Mh} {S : Nat → So} {served : Int} (hN : Nm M.c N) (hc : N.c = M.c) (hk : k < N.nc)
    (hrel : ∀ d, d < N.nd → Rel M N d t m (S d)) (hok : ∀ d, d < N.nd → ∃ B, SoOk M d (S d) B) (hdom : Doms N m)
    (hturn : ∀ d : Nat, d < N.nd → (S d).how.getD k 0 ≠ 0 → turnZ M.c k t = (d : Int))
    (hfault : ∀ d, d < N.nd → (S d).how.getD k 0 = 2 → faultF M.c (opAt M d k (S d)) ≠ 0 ∧ t ≤ (S d).began.getD k 0 + 2)
    (hfree : ∀ d, d < N.nd → (S d).free.getD k 0 ≤ t ∨ (k : Int) = served)
    (hserved : (k : Int) = served → ∃ e, e < N.nd ∧ turnZ M.c k t = (e : Int) ∧ t < (S e).free.getD k 0) :
    (∀ d, d < N.nd → Rel M N d t (m.step N served k) (So.works M d k (S d) t)) ∧ Doms N (m.step N served k) := by
  have hnc : M.c.cores.toNat = N.nc := by have := hN.nc; omega
  unfold Mh.step
  by_cases hb : (m.wk k).busy = true
  · rw [if_pos hb]
    obtain ⟨e, he, hde⟩ := hdom k hk hb
    have hre := hrel e he
    have hhow : (S e).how.getD k 0 ≠ 0 := (hre.core.bz k hk).2 ⟨hb, hde⟩
    have hte := hturn e he hhow
    obtain ⟨B, hs⟩ := hok e he
    have hw := hs.hw k (by omega)
    obtain ⟨o, ho, hoa, _⟩ := hre.core.has hk (by omega)
    have hbg := hre.core.bg k hk hhow
    have hnow := hre.core.now
    have hoth : ∀ d, d < N.nd → d ≠ e → So.works M d k (S d) t = S d := fun d hd hne => by
      refine works_closed ?_ (Or.inr (Or.inr (open_other (by omega))))
      refine Classical.byContradiction fun q => ?_
      have := ((hrel d hd).core.bz k hk).1 q
      omega
    have hend : m.endFault N k = if faultF M.c o ≠ 0 ∧ (m.wk k).issue + 2 ≤ m.now then m.finish k 0 (faultF M.c o) else m := by
      unfold Mh.endFault
      have dd : (m.wk k).dom.toNat = e := by rw [hde]; exact Int.toNat_natCast e
      rw [dd, ho, hc]
    rw [hend]
    by_cases hf : faultF M.c o ≠ 0 ∧ (m.wk k).issue + 2 ≤ m.now
    · rw [if_pos hf]
      refine ⟨fun d hd => ?_, hdom.finish _ _ _⟩
      by_cases q : d = e
      · subst q
        have h2 : (S d).how.getD k 0 = 2 := by
          rcases hw with w | ⟨w | w, _⟩
          · exact absurd w hhow
          · have := hs.w1 k (by omega) w
            rw [hoa] at this; exact absurd this hf.1
          · exact w
        have := (hfault d hd h2).2
        have hwk : So.works M d k (S d) t = (S d).done k t 0 (faultF M.c o) := by
          unfold So.works
          rw [if_pos ⟨h2, by omega⟩, hoa]
        rw [hwk]
        exact ⟨hre.core.finish (hs.lens hN) hk hhow 0 _, hre.log⟩
      · rw [hoth d hd q]
        exact (hrel d hd).other hN (Other.finish (fun q2 => q q2.symm) hde _ _)
    · rw [if_neg hf]
      refine ⟨fun d hd => ?_, hdom⟩
      by_cases q : d = e
      · subst q
        have hwk : So.works M d k (S d) t = S d := by
          unfold So.works
          rw [if_neg (fun w => hf ⟨by rw [← hoa]; exact (hfault d hd w.1).1, by omega⟩), if_pos (Or.inl hhow)]
        rw [hwk]; exact hre
      · rw [hoth d hd q]; exact hrel d hd
  · rw [if_neg hb]
    have hb' : (m.wk k).busy = false := by simpa using hb
    have h0 : ∀ d, d < N.nd → (S d).how.getD k 0 = 0 := fun d hd => Classical.byContradiction fun q => hb (((hrel d hd).core.bz k hk).1 q).1
    by_cases hsv : (k : Int) = served
    · rw [if_pos hsv]
      obtain ⟨e, he, h1, h2⟩ := hserved hsv
      refine ⟨fun d hd => ?_, hdom⟩
      by_cases q : d = e
      · subst q; rw [works_closed (h0 d hd) (Or.inl h2)]; exact hrel d hd
      · rw [works_closed (h0 d hd) (Or.inr (Or.inr (open_other (by omega))))]; exact hrel d hd
    · rw [if_neg hsv]
      have hfr : ∀ d, d < N.nd → (S d).free.getD k 0 ≤ t := fun d hd => (hfree d hd).resolve_right hsv
      have hm : m.now = t ∨ N.nd = 0 := by
        by_cases q : N.nd = 0
        · exact Or.inr q
        · exact Or.inl (hrel 0 (by omega)).core.now
      have hnd0 : N.nd ≠ 0 := by have := (right_of hN.right).d1; have := hN.nd; omega
      have hnow : m.now = t := hm.resolve_right hnd0
      rw [hnow, hc]
      by_cases hop : openB M.c k (turnZ M.c k t) t = false
      · rw [if_pos hop]
        refine ⟨fun d hd => ?_, hdom⟩
        have : openB M.c k d t = false := by
          by_cases q : turnZ M.c k t = (d : Int)
          · rw [← q]; exact hop
          · exact open_other q
        rw [works_closed (h0 d hd) (Or.inr (Or.inr this))]; exact hrel d hd
      · rw [if_neg hop]
        have hop' : openB M.c k (turnZ M.c k t) t = true := by simpa using hop
        obtain ⟨r0, r1⟩ := lturn_range hN.right (by have := hN.nc; omega) hop'
        obtain ⟨e, hte⟩ : ∃ e : Nat, turnZ M.c k t = (e : Int) := ⟨_, (Int.toNat_of_nonneg r0).symm⟩
        have he : e < N.nd := by have := hN.nd; omega
        rw [hte, Int.toNat_natCast]
        have hoe : openB M.c k e t = true := by rw [← hte]; exact hop'
        cases hn : m.next e k with
        | none =>
          refine ⟨fun d hd => ?_, hdom⟩
          by_cases q : d = e
          · subst q; rw [works_closed (h0 d hd) (Or.inr (Or.inl ((hrel d hd).core.lacks hk hn)))]; exact hrel d hd
          · rw [works_closed (h0 d hd) (Or.inr (Or.inr (open_other (by omega))))]; exact hrel d hd
        | some o =>
          refine ⟨fun d hd => ?_, hdom.begin he _ _⟩
          by_cases q : d = e
          · subst q
            obtain ⟨B, hs⟩ := hok d hd
            have hlt : (S d).next.getD k 0 < (progF M d k).length := by
              have h1 := (hrel d hd).core.nx k hk
              have h2 := (hrel d hd).core.ops k hk
              unfold Mh.next at hn
              obtain ⟨h3, _⟩ := List.getElem?_eq_some_iff.1 hn
              rw [← h2, h1]; omega
            have hwk : So.works M d k (S d) t = So.begin M d k (S d) t := by
              unfold So.works
              have := h0 d hd
              have := hfr d hd
              rw [if_neg (by omega), if_neg (fun w => ?_)]
              rcases w with w | w | w | w
              · omega
              · omega
              · omega
              · rw [hoe] at w; exact absurd w (by decide)
            rw [hwk]
            have hop2 := hoe
            unfold openB at hop2
            simp only [Bool.and_eq_true, decide_eq_true_eq] at hop2
            have w0 := (right_of hN.right).w0
            exact (hrel d hd).begin hN hc hs hk hn hte (by omega)
          · rw [works_closed (h0 d hd) (Or.inr (Or.inr (open_other (by omega))))]
            exact (hrel d hd).other hN (Other.begin (fun q2 => q q2.symm) hte hb' o)
end Go.Proofs.YtehheaedbnfidaaGreat

namespace Go.Proofs.YtehheaedbnfidaaGreat

theorem worksAll_snoc {M : MDat} {d : Nat} {t : Int} : ∀ (n j : Nat) (S : So), So.worksAll M d t (n + 1) j S = So.works M d (j + n) (So.worksAll M d t n j S) t
  | 0, _, _ => rfl
  | n + 1, j, S => by
    have := worksAll_snoc (M := M) (d := d) (t := t) n (j + 1) (So.works M d j S t)
    rw [So.worksAll, this, So.worksAll]
    congr 1
    omega
theorem worksAll_ahead {M : MDat} {d : Nat} {t : Int} {k : Nat} : ∀ (n : Nat) (S : So), n ≤ k → viewF (So.worksAll M d t n 0 S) k = viewF S k
  | 0, _, _ => rfl
  | n + 1, S, h => by
    rw [worksAll_snoc, view_works_other (by omega)]
    exact worksAll_ahead n S (by omega)
theorem view_op {M : MDat} {d k : Nat} {S S' : So} (h : viewF S k = viewF S' k) : opAt M d k S = opAt M d k S' := by
  have : S.next.getD k 0 = S'.next.getD k 0 := congrArg (fun v => v.2.1) h
  unfold opAt
  rw [this]

/-- The service of a cycle, for every domain. -/
theorem Rel.service {M : MDat} {N : Cn} {t : Int} {m : Mh} {S : Nat → So} (hN : Nm M.c N) (hc : N.c = M.c) (hnow : m.now = t)
    (hrel : ∀ d, d < N.nd → Rel M N d t m (S d)) (hok : ∀ d, d < N.nd → ∃ B, SoOk M d (S d) B) (hdom : Doms N m)
    (hturn : ∀ d : Nat, d < N.nd → ∀ k, k < N.nc → (S d).how.getD k 0 ≠ 0 → turnZ M.c k t = (d : Int) ∧ t % M.c.quantum < M.c.quantum - M.c.flush)
    (hfree : ∀ d, d < N.nd → ∀ k, (S d).free.getD k 0 ≤ t) :
    (∀ d, d < N.nd → Rel M N d t (m.service N).1 (So.service M d (S d) t)) ∧ Doms N (m.service N).1 ∧
    (∀ d, d < N.nd → ∀ k : Nat, (So.service M d (S d) t).free.getD k 0 ≤ t ∨ (k : Int) = (m.service N).2) ∧
    (∀ k : Nat, k < N.nc → (k : Int) = (m.service N).2 → ∃ e, e < N.nd ∧ turnZ M.c k t = (e : Int) ∧ t < (So.service M e (S e) t).free.getD k 0) := by
  unfold Mh.service
  rw [hc, hnow]
  have skip : ∀ d : Nat, servedF M.c t ≠ (d : Int) → So.service M d (S d) t = S d := fun d hd => by
    unfold So.service
    rw [if_neg (fun q => hd (serves_served.1 q))]
  by_cases hneg : servedF M.c t < 0
  · rw [if_pos hneg]
    refine ⟨fun d hd => by rw [skip d (by omega)]; exact hrel d hd, hdom, fun d hd k => by rw [skip d (by omega)]; exact Or.inl (hfree d hd k), fun k _ q => ?_⟩
    have : (k : Int) = -1 := q
    omega
  · rw [if_neg hneg]
    obtain ⟨e, he'⟩ : ∃ e : Nat, servedF M.c t = (e : Int) := ⟨_, (Int.toNat_of_nonneg (by omega)).symm⟩
    have he : e < N.nd := by
      have := lserved_range hN.right t
      have := hN.nd
      omega
    rw [he', Int.toNat_natCast]
    have own : So.service M e (S e) t = So.serve M e (S e) t := by
      unfold So.service
      rw [if_pos (serves_served.2 he')]
    obtain ⟨B, hs⟩ := hok e he
    obtain ⟨h1, h2⟩ := (hrel e he).serve hN hc he hs (hturn e he)
    have hl := hs.lens hN
    refine ⟨fun d hd => ?_, hdom.serve e, fun d hd k => ?_, fun k hk q => ?_⟩
    · by_cases g : d = e
      · subst g; rw [own]; exact h1
      · rw [skip d (by omega)]
        refine (hrel d hd).other hN (Other.serve (fun q => g q.symm) fun core q hq => ?_)
        have hq' : (S e).queue = core :: q := (hrel e he).core.wt.symm.trans hq
        obtain ⟨k, e1, e2, e3⟩ := hs.qu core (by rw [hq']; exact List.mem_cons_self ..)
        have hk : k < N.nc := by have := hN.nc; omega
        have hh : (S e).how.getD k 0 ≠ 0 := by omega
        exact ⟨k, e1, (((hrel e he).core.bz k hk).1 hh).2, (hturn e he k hk hh).1⟩
    · by_cases g : d = e
      · subst g
        rw [own]
        rcases h2 with ⟨_, q⟩ | ⟨j, q1, q2, q3, q4⟩
        · rw [q]; exact Or.inl (hfree d hd k)
        · rw [q4, q2]
          by_cases w : k = j
          · right; rw [w]
          · left
            rw [getD_set (by rw [hl.fl]; exact q1), if_neg w]
            exact hfree d hd k
      · rw [skip d (by omega)]; exact Or.inl (hfree d hd k)
    · rcases h2 with ⟨q1, _⟩ | ⟨j, q1, q2, q3, q4⟩
      · omega
      · have : k = j := by omega
        subst this
        refine ⟨e, he, (hturn e he k hk q3).1, ?_⟩
        rw [own, q4, getD_set (by rw [hl.fl]; exact q1), if_pos rfl]
        omega

/-- The steps of the first n cores. -/
theorem Rel.steps {M : MDat} {N : Cn} {t : Int} {m : Mh} {S : Nat → So} {served : Int} (hN : Nm M.c N) (hc : N.c = M.c) (t0 : 0 ≤ t) (t1 : t ≤ 10000)
    (hrel : ∀ d, d < N.nd → Rel M N d t m (S d)) (hok : ∀ d, d < N.nd → ∃ B, SoOk M d (S d) B) (hdom : Doms N m)
    (hturn : ∀ d : Nat, d < N.nd → ∀ k, k < N.nc → (S d).how.getD k 0 ≠ 0 → turnZ M.c k t = (d : Int))
    (hfault : ∀ d, d < N.nd → ∀ k, k < N.nc → (S d).how.getD k 0 = 2 → faultF M.c (opAt M d k (S d)) ≠ 0 ∧ t ≤ (S d).began.getD k 0 + 2)
    (hfree : ∀ d, d < N.nd → ∀ k : Nat, (S d).free.getD k 0 ≤ t ∨ (k : Int) = served)
    (hserved : ∀ k : Nat, k < N.nc → (k : Int) = served → ∃ e, e < N.nd ∧ turnZ M.c k t = (e : Int) ∧ t < (S e).free.getD k 0) :
    ∀ n, n ≤ N.nc → (∀ d, d < N.nd → Rel M N d t (Mh.steps N served n m) (So.worksAll M d t n 0 (S d))) ∧ Doms N (Mh.steps N served n m)
  | 0, _ => ⟨hrel, hdom⟩
  | n + 1, h => by
    obtain ⟨ih1, ih2⟩ := Rel.steps hN hc t0 t1 hrel hok hdom hturn hfault hfree hserved n (by omega)
    have hnc : M.c.cores.toNat = N.nc := by have := hN.nc; omega
    have vw : ∀ d, viewF (So.worksAll M d t n 0 (S d)) n = viewF (S d) n := fun d => worksAll_ahead n (S d) (Nat.le_refl _)
    have v1 : ∀ d, (So.worksAll M d t n 0 (S d)).how.getD n 0 = (S d).how.getD n 0 := fun d => congrArg (fun v => v.1) (vw d)
    have v3 : ∀ d, (So.worksAll M d t n 0 (S d)).free.getD n 0 = (S d).free.getD n 0 := fun d => congrArg (fun v => v.2.2.1) (vw d)
    have v4 : ∀ d, (So.worksAll M d t n 0 (S d)).began.getD n 0 = (S d).began.getD n 0 := fun d => congrArg (fun v => v.2.2.2) (vw d)
    have := Rel.step (k := n) (S := fun d => So.worksAll M d t n 0 (S d)) (served := served) hN hc (by omega) ih1 (fun d hd => by
      obtain ⟨B, hs⟩ := hok d hd
      exact ⟨_, SoOk.worksAll hN.right t0 t1 n 0 hs (by omega)⟩) ih2 (fun d hd hh => hturn d hd n (by omega) (by rw [← v1 d]; exact hh)) (fun d hd hh => by
      rw [v4, view_op (vw d)]
      exact hfault d hd n (by omega) (by rw [← v1 d]; exact hh)) (fun d hd => by rw [v3]; exact hfree d hd n) (fun q => by
      obtain ⟨e, h1, h2, h3⟩ := hserved n (by omega) q
      exact ⟨e, h1, h2, by rw [v3]; exact h3⟩)
    refine ⟨fun d hd => ?_, this.2⟩
    rw [worksAll_snoc, Nat.zero_add]
    exact this.1 d hd

/-- Between two cycles. -/
structure Links (M : MDat) (N : Cn) (T : Nat) (m : Mh) : Prop where
  core : ∀ d, d < N.nd → RelC M N d T m (So.upto M d T)
  log : ∀ d, d < N.nd → RelL M.c N (firstF0 M d) d ((T : Int) - 1) (m.blk d) (m.tch d) (m.own d) m.nr m.sh (So.upto M d T).log
  doms : Doms N m

theorem turn_is {c : Cf} {k : Nat} {d t : Int} (h : turnIs c k d (t / c.quantum) = true) : turnZ c k t = d := by
  unfold turnIs at h
  unfold turnZ
  simpa using h

theorem RelC.tick {M : MDat} {N : Cn} {d : Nat} {t : Int} {m : Mh} {S : So} (h : RelC M N d t m S) : RelC M N d (t + 1) { m with now := m.now + 1 } S :=
  ⟨by show m.now + 1 = t + 1; rw [h.now], h.evs, h.nx, h.wt, h.bz, h.bg, h.ops, h.kin⟩

theorem Links.cycle {M : MDat} {N : Cn} {T : Nat} {m : Mh} (hN : Nm M.c N) (hc : N.c = M.c) (hT : T + 1 ≤ 10000) (h : Links M N T m) : Links M N (T + 1) { m.cycle N with now := (m.cycle N).now + 1 } := by
  have hnc : M.c.cores.toNat = N.nc := by have := hN.nc; omega
  have hnd := hN.nd
  have hnd0 : 0 < N.nd := by have := (right_of hN.right).d1; omega
  have hnow : m.now = T := (h.core 0 hnd0).now
  obtain ⟨m0, hm0⟩ : ∃ m0 : Mh, m0 = if flushesB N.c m.now = true then { m with nr := fun _ _ => cpE } else m := ⟨_, rfl⟩
  have hrel0 : ∀ d, d < N.nd → Rel M N d T m0 (So.upto M d T) := fun d hd => by
    have hL := (h.log d hd).next hN
    have e : (T : Int) - 1 + 1 = T := by omega
    rw [e] at hL
    rw [hm0, hc, hnow]
    by_cases g : flushesB M.c (T : Int) = true
    · rw [if_pos g] at hL ⊢
      exact ⟨(h.core d hd).same (by exact hnow.symm) rfl rfl rfl rfl rfl, hL⟩
    · rw [if_neg g] at hL ⊢
      exact ⟨h.core d hd, hL⟩
  have hdom0 : Doms N m0 := h.doms.same (by rw [hm0]; split <;> rfl)
  have hnow0 : m0.now = T := (hrel0 0 hnd0).core.now
  have hok : ∀ d, d < N.nd → ∃ B, SoOk M d (So.upto M d T) B := fun d _ => ⟨_, SoOk.upto hN.right T (by omega)⟩
  have hut : ∀ d : Nat, d < N.nd → ∀ k, k < N.nc → (So.upto M d T).how.getD k 0 ≠ 0 → turnZ M.c k T = (d : Int) ∧ (T : Int) % M.c.quantum < M.c.quantum - M.c.flush := fun d hd k hk hh => by
    obtain ⟨_, h2, h3⟩ := under_turn (d := d) (T := T) (k := k) hN.right (by omega) (by omega) (by omega) hh
    exact ⟨turn_is h2, h3⟩
  obtain ⟨s1, s2, s3, s4⟩ := Rel.service hN hc hnow0 hrel0 hok hdom0 hut (fun d _ k => free_upto T k)
  have st := Rel.steps (S := fun d => So.service M d (So.upto M d T) T) (served := (m0.service N).2) hN hc (by omega : (0 : Int) ≤ T) (by omega) s1 (fun d hd => by
    obtain ⟨B, hs⟩ := hok d hd
    exact ⟨_, hs.service hN.right (by omega) (by omega)⟩) s2 (fun d hd k hk hh => by
    obtain ⟨B, hs⟩ := hok d hd
    refine (hut d hd k hk ?_).1
    rcases service_view (t := (T : Int)) hs (k := k) (by omega) with q | ⟨q1, q2⟩
    · have : (So.service M d (So.upto M d T) T).how.getD k 0 = (So.upto M d T).how.getD k 0 := congrArg (fun v => v.1) q
      rw [← this]; exact hh
    · omega) (fun d hd k hk hh => by
    obtain ⟨B, hs⟩ := hok d hd
    obtain ⟨q1, q2⟩ := service_how hh
    have hf := fault_service (t := (T : Int)) hs (book_upto (d := d) hN.right T (by omega)).1
    refine ⟨hf k (by omega) hh, ?_⟩
    rw [q2]
    exact fail_upto hN.right T (by omega) k (by omega) q1) s3 s4 N.nc (Nat.le_refl _)
  have hcy : m.cycle N = Mh.steps N (m0.service N).2 N.nc (m0.service N).1 := by
    unfold Mh.cycle
    rw [← hm0]
  rw [hcy]
  refine ⟨fun d hd => ?_, fun d hd => ?_, st.2.same rfl⟩
  · have q := (st.1 d hd).core.tick
    rw [← hnc] at q
    rw [← hnc]
    exact q
  · have q := (st.1 d hd).log
    have e : (((T + 1 : Nat) : Int) - 1) = T := by omega
    rw [e]
    rw [← hnc] at q
    rw [← hnc]
    exact q

/-- What was laid down. -/
structure Laid (M : MDat) (N : Cn) (ops : Nat → Nat → List OpT) (own : Nat → Nat → Int) (sh : Nat → Int) : Prop where
  prog : ∀ d k, d < N.nd → k < N.nc → ops d k = progF M d k
  kin : ∀ d k, d < N.nd → k < N.nc → ∀ o ∈ ops d k, o.1 = 0 ∨ o.1 = 1
  first : ∀ d a : Nat, d < N.nd → a < N.pv → own d a = firstF0 M d a
  share : ∀ d a : Nat, d < N.nd → N.pv ≤ a → a < N.pv + N.sn → sh (a - N.pv) = firstF0 M d a

theorem links_start {M : MDat} {N : Cn} {ops : Nat → Nat → List OpT} {own : Nat → Nat → Int} {sh : Nat → Int} (h : Laid M N ops own sh) (b : Wk) (hb : b.busy = false) : Links M N 0 ⟨0, own, sh, fun _ _ => cpE, ops, fun _ _ => 0, fun _ _ _ => bkE, fun _ _ => [], fun _ => [], fun _ => [], fun _ => b⟩ := by
  have z : ∀ k, (List.replicate M.c.cores.toNat (0 : Int)).getD k 0 = 0 := fun k => by
    rw [List.getD_eq_getElem?_getD, List.getElem?_replicate]; split <;> rfl
  refine ⟨fun d hd => ⟨rfl, rfl, fun k _ => z k, rfl, fun k _ => ⟨fun q => absurd (z k) q, fun q => ?_⟩, fun k _ q => absurd (z k) q, fun k hk => h.prog d k hd hk, fun k hk => h.kin d k hd hk⟩, fun d hd => RelL.start (fun a ha => h.first d a hd ha) (fun a h1 h2 => h.share d a hd h1 h2), fun k _ q => ?_⟩
  · have : b.busy = true := q.1
    rw [hb] at this; cases this
  · have : b.busy = true := q
    rw [hb] at this; cases this

/-- THE LINK: behind T cycles. -/
theorem links_runs {M : MDat} {N : Cn} {m : Mh} (hN : Nm M.c N) (hc : N.c = M.c) (h : Links M N 0 m) : ∀ T, T ≤ 10000 → Links M N T (Mh.runs N T m)
  | 0, _ => h
  | T + 1, hT => (links_runs hN hc h T (by omega)).cycle hN hc hT
end Go.Proofs.YtehheaedbnfidaaGreat
