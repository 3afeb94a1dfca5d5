/-
  MachOk, MachOk2
-/
import Derived.Test.YtehheaedbnfidaaGreatClMachC
import Derived.Test.YtehheaedbnfidaaGreatClPackL
import Derived.Test.YtehheaedbnfidaaGreatClMachH
namespace Go.Proofs.YtehheaedbnfidaaGreat

theorem up1_ne {α : Type} {f : Nat → α} {i j : Nat} {v : α} (h : j ≠ i) : up1 f i v j = f j := by simp [up1, h]

/-- An operation is done: its core waits nowhere. -/
theorem MhOk.finish {N : Cn} {m : Mh} (h : MhOk N m) {k d : Nat} (hk : k < N.nc) (hd : d < N.nd) (hdom : (m.wk k).dom = (d : Int)) (hdn : m.dn d k < (m.ops d k).length) (hw : ∀ e, e < N.nd → (k : Int) ∉ m.wt e) (v f : Int) : MhOk N (m.finish k v f) := by
  have hfin : m.finish k v f = { m with tr := up1 m.tr d (m.tr d ++ [⟨k, m.dn d k, v, f, (m.wk k).issue, m.now⟩]), dn := up2 m.dn d k (m.dn d k + 1), wk := up1 m.wk k ⟨false, (m.wk k).dom, (m.wk k).issue⟩ } := by
    unfold Mh.finish
    dsimp only
    rw [hdom, Int.toNat_natCast]
  have hdn2 : ∀ e j, ¬ (e = d ∧ j = k) → up2 m.dn d k (m.dn d k + 1) e j = m.dn e j := fun e j hn => by simp [up2, hn]
  rw [hfin]
  refine ⟨h.len, h.kin, fun e j => ?_, fun e => ?_, fun j hj hb => ?_, fun e he c hc => ?_, h.wn, fun j hj => ?_, h.ln, h.mks⟩
  · show up2 m.dn d k (m.dn d k + 1) e j ≤ (m.ops e j).length
    by_cases hc : e = d ∧ j = k
    · obtain ⟨rfl, rfl⟩ := hc
      simp [up2]; omega
    · rw [hdn2 e j hc]; exact h.dn e j
  · show (up1 m.tr d (m.tr d ++ [_]) e).length = sumN (up2 m.dn d k (m.dn d k + 1) e) N.nc
    by_cases he : e = d
    · subst he
      have e1 : up2 m.dn e k (m.dn e k + 1) e = up1 (m.dn e) k (m.dn e k + 1) := by funext j; simp [up2, up1]
      rw [e1, sum_up, if_pos hk, up1_at, List.length_append, h.tr]
      have hle : m.dn e k ≤ sumN (m.dn e) N.nc := by
        have := sum_up (m.dn e) k 0 N.nc
        rw [if_pos hk] at this
        have h2 := sum_up (m.dn e) k (m.dn e k) N.nc
        rw [if_pos hk, up1_self] at h2
        omega
      simp
      omega
    · have e1 : up2 m.dn d k (m.dn d k + 1) e = m.dn e := by funext j; simp [up2, he]
      rw [e1, up1_ne he]
      exact h.tr e
  · have hb' : (up1 m.wk k ⟨false, (m.wk k).dom, (m.wk k).issue⟩ j).busy = true := hb
    by_cases e : j = k
    · subst e; rw [up1_at] at hb'; simp at hb'
    · rw [up1_ne e] at hb'
      obtain ⟨d', h1, h2, h3⟩ := h.bz j hj hb'
      refine ⟨d', h1, ?_, ?_⟩
      · show (up1 m.wk k _ j).dom = _
        rw [up1_ne e]; exact h2
      · show up2 m.dn d k (m.dn d k + 1) d' j < _
        rw [hdn2 d' j (fun hh => e hh.2)]; exact h3
  · obtain ⟨j, h1, h2, h3, h4, o, h5, h6⟩ := h.wt e he c hc
    have hjk : j ≠ k := fun hh => by subst hh; subst h2; exact hw e he hc
    refine ⟨j, h1, h2, ?_, ?_, o, ?_, h6⟩
    · show (up1 m.wk k _ j).busy = true
      rw [up1_ne hjk]; exact h3
    · show (up1 m.wk k _ j).dom = _
      rw [up1_ne hjk]; exact h4
    · show (m.ops e j)[up2 m.dn d k (m.dn d k + 1) e j]? = some o
      rw [hdn2 e j (fun hh => hjk hh.2)]; exact h5
  · show 0 ≤ (up1 m.wk k _ j).issue ∧ (up1 m.wk k _ j).issue ≤ m.now
    by_cases e : j = k
    · subst e; rw [up1_at]; exact h.is j hj
    · rw [up1_ne e]; exact h.is j hj

theorem way_line {b : Nat → Bk} {n : Nat} {x : Int} (h : 0 ≤ wayF b n x) : (b (wayF b n x).toNat).line = x := by
  have := (first_lt (fun j => decide ((b j).line = x)) n 0).2
  unfold wayF at h ⊢
  rcases this with e | e
  · omega
  · simpa using e.2

theorem MhOk.perform {N : Cn} {m : Mh} (h : MhOk N m) (d : Nat) (o : OpT) : MhOk N (m.perform N d o) := by
  unfold Mh.perform
  dsimp only
  split
  · exact h
  · rename_i hc
    have hw : 0 ≤ wayF (m.blk d ((o.2.1 / (N.ln : Int)).toNat % N.ns)) (N.wn d) ((o.2.1 / (N.ln : Int)).toNat) := by omega
    have hl := way_line hw
    refine ⟨h.len, h.kin, h.dn, h.tr, h.bz, h.wt, h.wn, h.is, fun e s j => ?_, fun e s j hh => ?_⟩
    · simp only [up3]
      split
      · exact h.ln _ _ _
      · exact h.ln e s j
    · simp only [up3] at hh ⊢
      split at hh
      · rename_i hcc
        rw [if_pos hcc]
        simp only [] at hh
        rw [hl] at hh
        omega
      · rename_i hcc
        rw [if_neg hcc]
        exact h.mks e s j hh

theorem MhOk.nrs {N : Cn} {m : Mh} (h : MhOk N m) (nr' : Nat → Nat → Cp) : MhOk N { m with nr := nr' } := ⟨h.len, h.kin, h.dn, h.tr, h.bz, h.wt, h.wn, h.is, h.ln, h.mks⟩
theorem MhOk.tchs {N : Cn} {m : Mh} (h : MhOk N m) (t : Nat → Nat → List Int) : MhOk N { m with tch := t } := ⟨h.len, h.kin, h.dn, h.tr, h.bz, h.wt, h.wn, h.is, h.ln, h.mks⟩
theorem MhOk.owns {N : Cn} {m : Mh} (h : MhOk N m) (t : Nat → Nat → Int) : MhOk N { m with own := t } := ⟨h.len, h.kin, h.dn, h.tr, h.bz, h.wt, h.wn, h.is, h.ln, h.mks⟩
theorem MhOk.blks {N : Cn} {m : Mh} (h : MhOk N m) (d s j : Nat) (b : Bk) (h1 : b.line = -1 ∨ (0 ≤ b.line ∧ b.line ≤ 1000)) (h2 : b.line = -1 → b.mkd = false) : MhOk N { m with blk := up3 m.blk d s j b } := by
  refine ⟨h.len, h.kin, h.dn, h.tr, h.bz, h.wt, h.wn, h.is, fun e s' j' => ?_, fun e s' j' hh => ?_⟩
  · simp only [up3]
    split
    · exact h1
    · exact h.ln e s' j'
  · simp only [up3] at hh ⊢
    split at hh
    · rename_i hcc
      rw [if_pos hcc]; exact h2 hh
    · rename_i hcc
      rw [if_neg hcc]; exact h.mks e s' j' hh
theorem MhOk.pop {N : Cn} {m : Mh} (h : MhOk N m) {d : Nat} {c : Int} {q : List Int} (hd : d < N.nd) (hq : m.wt d = c :: q) : MhOk N { m with wt := up1 m.wt d q } ∧ c ∉ q ∧ ∀ e, e < N.nd → c ∉ up1 m.wt d q e := by
  have hn := h.wn d hd
  rw [hq, List.nodup_cons] at hn
  refine ⟨⟨h.len, h.kin, h.dn, h.tr, h.bz, fun e he c' hc => ?_, fun e he => ?_, h.is, h.ln, h.mks⟩, hn.1, fun e he => ?_⟩
  · have hc' : c' ∈ up1 m.wt d q e := hc
    by_cases e2 : e = d
    · subst e2; rw [up1_at] at hc'; exact h.wt e he c' (by rw [hq]; exact List.mem_cons_of_mem _ hc')
    · rw [up1_ne e2] at hc'; exact h.wt e he c' hc'
  · show (up1 m.wt d q e).Nodup
    by_cases e2 : e = d
    · subst e2; rw [up1_at]; exact hn.2
    · rw [up1_ne e2]; exact h.wn e he
  · by_cases e2 : e = d
    · subst e2; rw [up1_at]; exact hn.1
    · rw [up1_ne e2]
      intro hc
      obtain ⟨k, h1, h2, h3, h4, _⟩ := h.wt e he c hc
      obtain ⟨k', g1, g2, g3, g4, _⟩ := h.wt d hd c (by rw [hq]; simp)
      have : k = k' := by omega
      subst this
      rw [h4] at g4
      omega

/-- An operation begins. -/
theorem MhOk.busy {N : Cn} {m : Mh} (h : MhOk N m) {d k : Nat} (hd : d < N.nd) (hdn : m.dn d k < (m.ops d k).length) (hb : (m.wk k).busy = false) (h0 : 0 ≤ m.now) : MhOk N { m with wk := up1 m.wk k ⟨true, d, m.now⟩ } ∧ ∀ e, e < N.nd → (k : Int) ∉ m.wt e := by
  have hno : ∀ e, e < N.nd → (k : Int) ∉ m.wt e := fun e he hc => by
    obtain ⟨j, h1, h2, h3, _⟩ := h.wt e he _ hc
    have : k = j := by omega
    subst this
    rw [hb] at h3
    cases h3
  refine ⟨⟨h.len, h.kin, h.dn, h.tr, fun j hj hbj => ?_, fun e he c hc => ?_, h.wn, fun j hj => ?_, h.ln, h.mks⟩, hno⟩
  · by_cases e : j = k
    · subst e
      exact ⟨d, hd, by show (up1 m.wk j _ j).dom = _; rw [up1_at], hdn⟩
    · have hb' : (up1 m.wk k ⟨true, d, m.now⟩ j).busy = true := hbj
      rw [up1_ne e] at hb'
      obtain ⟨d', h1, h2, h3⟩ := h.bz j hj hb'
      exact ⟨d', h1, by show (up1 m.wk k _ j).dom = _; rw [up1_ne e]; exact h2, h3⟩
  · obtain ⟨j, h1, h2, h3, h4, o, h5, h6⟩ := h.wt e he c hc
    have hjk : j ≠ k := fun hh => by subst hh; subst h2; exact hno e he hc
    exact ⟨j, h1, h2, by show (up1 m.wk k _ j).busy = _; rw [up1_ne hjk]; exact h3, by show (up1 m.wk k _ j).dom = _; rw [up1_ne hjk]; exact h4, o, h5, h6⟩
  · show 0 ≤ (up1 m.wk k _ j).issue ∧ (up1 m.wk k _ j).issue ≤ m.now
    by_cases e : j = k
    · subst e; rw [up1_at]; exact ⟨h0, Int.le_refl _⟩
    · rw [up1_ne e]; exact h.is j hj
theorem MhOk.push {N : Cn} {m : Mh} (h : MhOk N m) {d k : Nat} {o : OpT} (hk : k < N.nc) (hb : (m.wk k).busy = true) (hdom : (m.wk k).dom = (d : Int)) (ho : m.next d k = some o) (hf : faultF N.c o = 0) (hno : (k : Int) ∉ m.wt d) : MhOk N { m with wt := up1 m.wt d (m.wt d ++ [(k : Int)]) } := by
  refine ⟨h.len, h.kin, h.dn, h.tr, h.bz, fun e he c hc => ?_, fun e he => ?_, h.is, h.ln, h.mks⟩
  · have hc' : c ∈ up1 m.wt d (m.wt d ++ [(k : Int)]) e := hc
    by_cases e2 : e = d
    · subst e2
      rw [up1_at, List.mem_append] at hc'
      rcases hc' with h1 | h1
      · exact h.wt e he c h1
      · rw [List.mem_singleton] at h1
        exact ⟨k, hk, h1, hb, hdom, o, ho, hf⟩
    · rw [up1_ne e2] at hc'; exact h.wt e he c hc'
  · show (up1 m.wt d _ e).Nodup
    by_cases e2 : e = d
    · subst e2
      rw [up1_at, List.nodup_append]
      refine ⟨h.wn e he, by simp, fun a ha b hb2 => ?_⟩
      rw [List.mem_singleton] at hb2
      subst hb2
      intro hh
      subst hh
      exact hno ha
    · rw [up1_ne e2]; exact h.wn e he
end Go.Proofs.YtehheaedbnfidaaGreat

namespace Go.Proofs.YtehheaedbnfidaaGreat

/-- The numbers of a right configuration. -/
structure CnOk (N : Cn) : Prop where
  nok : N = cnOf N.c
  right : chk N.c = 0

theorem CnOk.nums {N : Cn} (h : CnOk N) : (N.nc : Int) = N.c.cores ∧ (N.nd : Int) = N.c.domains ∧ (N.nn : Int) = N.c.near ∧ (N.ns : Int) = N.c.sets ∧ (N.ln : Int) = N.c.line ∧ (N.pv : Int) = N.c.priv ∧ (N.sn : Int) = N.c.shared ∧ N.nc ≤ 3 ∧ 0 < N.nc ∧ N.nd ≤ 4 ∧ 0 < N.nd ∧ (N.ln = 1 ∨ N.ln = 2 ∨ N.ln = 4) ∧ N.pv ≤ 64 ∧ N.sn ≤ 32 ∧ 0 < N.pv := by
  have sb := shape_bounds (chk_zero h.right).1
  have e := h.nok
  have e1 : N.nc = N.c.cores.toNat := by rw [e]; rfl
  have e2 : N.nd = N.c.domains.toNat := by rw [e]; rfl
  have e3 : N.nn = N.c.near.toNat := by rw [e]; rfl
  have e4 : N.ns = N.c.sets.toNat := by rw [e]; rfl
  have e5 : N.ln = N.c.line.toNat := by rw [e]; rfl
  have e6 : N.pv = N.c.priv.toNat := by rw [e]; rfl
  have e7 : N.sn = N.c.shared.toNat := by rw [e]; rfl
  omega

theorem CnOk.line {N : Cn} (h : CnOk N) {o : OpT} (hf : faultF N.c o = 0) : (o.2.1 / (N.ln : Int)).toNat ≤ 96 := by
  have hn := h.nums
  have h1 := fault_free hf
  have q1 : o.2.1 / (N.ln : Int) ≤ o.2.1 := Int.ediv_le_self _ h1.1
  omega

theorem MhOk.begin {N : Cn} {m : Mh} (h : MhOk N m) {d k : Nat} {o : OpT} (hk : k < N.nc) (hd : d < N.nd) (ho : m.next d k = some o) (hb : (m.wk k).busy = false) (h0 : 0 ≤ m.now) : MhOk N (m.begin N d k o) := by
  have hdn := (Mh.next_lt ho).1
  obtain ⟨h1, hno⟩ := h.busy hd hdn hb h0
  unfold Mh.begin
  dsimp only
  split
  · exact h1
  · rename_i hf
    have hf' : faultF N.c o = 0 := by simpa using hf
    split
    · exact h1.push hk (by simp [up1]) (by simp [up1]) ho hf' (hno d hd)
    · split
      · have h2 := (h1.nrs (putN N.nn m.nr k d (o.2.1 / (N.ln : Int)).toNat 3)).perform d o
        have hs := perform_same N { { m with wk := up1 m.wk k ⟨true, d, m.now⟩ } with nr := putN N.nn m.nr k d (o.2.1 / (N.ln : Int)).toNat 3 } d o
        have hw : ∀ (mm : Mh), (mm.perform N d o).wt = mm.wt ∧ (mm.perform N d o).ops = mm.ops := fun mm => by
          unfold Mh.perform; dsimp only; split <;> exact ⟨rfl, rfl⟩
        refine h2.finish hk hd ?_ ?_ ?_ _ _
        · rw [hs.1]; simp [up1]
        · rw [hs.2.1, (hw _).2]; exact hdn
        · rw [(hw _).1]; exact hno
      · have h2 := h1.perform d o
        have hs := perform_same N { m with wk := up1 m.wk k ⟨true, d, m.now⟩ } d o
        have hw : ∀ (mm : Mh), (mm.perform N d o).wt = mm.wt ∧ (mm.perform N d o).ops = mm.ops := fun mm => by
          unfold Mh.perform; dsimp only; split <;> exact ⟨rfl, rfl⟩
        refine h2.finish hk hd ?_ ?_ ?_ _ _
        · rw [hs.1]; simp [up1]
        · rw [hs.2.1, (hw _).2]; exact hdn
        · rw [(hw _).1]; exact hno

theorem MhOk.endFault {N : Cn} {m : Mh} (h : MhOk N m) {k : Nat} (hk : k < N.nc) (hb : (m.wk k).busy = true) : MhOk N (m.endFault N k) := by
  obtain ⟨d, hd, hdom, hdn⟩ := h.bz k hk hb
  unfold Mh.endFault
  rw [hdom, Int.toNat_natCast]
  split
  · exact h
  · rename_i o ho
    split
    · rename_i hf
      refine h.finish hk hd hdom hdn (fun e he hc => ?_) _ _
      obtain ⟨j, h1, h2, h3, h4, o', h5, h6⟩ := h.wt e he _ hc
      have : k = j := by omega
      subst this
      rw [hdom] at h4
      have : d = e := by omega
      subst this
      rw [ho] at h5
      have : o = o' := Option.some.inj h5
      subst this
      exact hf.1 h6
    · exact h

theorem MhOk.step {N : Cn} {m : Mh} (h : MhOk N m) (hN : CnOk N) {k : Nat} (hk : k < N.nc) (h0 : 0 ≤ m.now) (hr : ∀ t, openB N.c k (turnZ N.c k t) t = true → 0 ≤ turnZ N.c k t ∧ turnZ N.c k t < N.c.domains) (served : Int) : MhOk N (m.step N served k) := by
  unfold Mh.step
  split
  · rename_i hb; exact h.endFault hk hb
  · rename_i hb
    split
    · exact h
    · split
      · exact h
      · rename_i ho
        have ho' : openB N.c k (turnZ N.c k m.now) m.now = true := by simpa using ho
        have := hr _ ho'
        have hn := hN.nums
        split
        · exact h
        · rename_i o hnx
          exact h.begin hk (by omega) hnx (by simpa using hb) h0

theorem step_now (N : Cn) (m : Mh) (served : Int) (k : Nat) : (m.step N served k).now = m.now := by
  unfold Mh.step Mh.endFault Mh.begin Mh.finish Mh.perform
  dsimp only
  repeat' (first | rfl | split)

theorem MhOk.alter {N : Cn} {m : Mh} (h : MhOk N m) (own' : Nat → Nat → Int) (nr' : Nat → Nat → Cp) (d s j : Nat) (b : Bk) (h1 : b.line = -1 ∨ (0 ≤ b.line ∧ b.line ≤ 1000)) (h2 : b.line = -1 → b.mkd = false) : MhOk N { m with own := own', nr := nr', blk := up3 m.blk d s j b } :=
  ((h.owns own').nrs nr').blks d s j b h1 h2

theorem MhOk.fetch {N : Cn} {m : Mh} (h : MhOk N m) {d x : Nat} (hx : x ≤ 1000) : MhOk N (m.fetch N d x) := by
  have e1 : (0 : Int) ≤ (x : Int) := by omega
  have e2 : (x : Int) ≤ 1000 := by omega
  unfold Mh.fetch
  dsimp only
  generalize (roomF (m.blk d (x % N.ns)) (N.wn d) (m.tch d (x % N.ns))).toNat = r
  by_cases c1 : (m.blk d (x % N.ns) r).line = -1
  · by_cases c2 : (m.blk d (x % N.ns) r).mkd = true
    · simp only [c1, c2, if_true]; exact h.alter _ _ d _ _ bkE (Or.inl rfl) (fun _ => rfl)
    · simp only [c1, c2, if_true]; exact h.alter _ _ d _ _ _ (Or.inr ⟨e1, e2⟩) (fun _ => rfl)
  · by_cases c2 : (m.blk d (x % N.ns) r).mkd = true
    · simp only [c1, c2, if_true, if_false]; exact h.alter _ _ d _ _ bkE (Or.inl rfl) (fun _ => rfl)
    · simp only [c1, c2, if_false]; exact h.alter _ _ d _ _ _ (Or.inr ⟨e1, e2⟩) (fun _ => rfl)

theorem hand_same (N : Cn) (m : Mh) (d k : Nat) (o : OpT) : ∃ nr', m.hand N d k o = { m with nr := nr' } := by
  unfold Mh.hand
  dsimp only
  split
  · exact ⟨_, rfl⟩
  · exact ⟨_, rfl⟩

theorem perform_more (N : Cn) (m : Mh) (d : Nat) (o : OpT) : (m.perform N d o).wt = m.wt ∧ (m.perform N d o).ops = m.ops ∧ (m.perform N d o).now = m.now := by
  unfold Mh.perform; dsimp only; split <;> exact ⟨rfl, rfl, rfl⟩

theorem MhOk.serve {N : Cn} {m : Mh} (h : MhOk N m) (hN : CnOk N) {d : Nat} (hd : d < N.nd) : MhOk N (m.serve N d).1 := by
  unfold Mh.serve
  split
  · exact h
  · rename_i c q hq
    obtain ⟨k, h1, h2, h3, h4, o, h5, h6⟩ := h.wt d hd c (by rw [hq]; simp)
    subst h2
    dsimp only
    rw [Int.toNat_natCast, h5]
    dsimp only
    have hx := hN.line h6
    split
    · exact h.fetch (by omega)
    · obtain ⟨p1, p2, p3⟩ := h.pop hd hq
      have hdn := (Mh.next_lt h5).1
      have q1 := p1.tchs (up2 m.tch d ((o.2.1 / (N.ln : Int)).toNat % N.ns) (touchF (m.tch d ((o.2.1 / (N.ln : Int)).toNat % N.ns)) (wayF (m.blk d ((o.2.1 / (N.ln : Int)).toNat % N.ns)) (N.wn d) ((o.2.1 / (N.ln : Int)).toNat))))
      obtain ⟨nr', hh⟩ := hand_same N { { m with wt := up1 m.wt d q } with tch := up2 m.tch d ((o.2.1 / (N.ln : Int)).toNat % N.ns) (touchF (m.tch d ((o.2.1 / (N.ln : Int)).toNat % N.ns)) (wayF (m.blk d ((o.2.1 / (N.ln : Int)).toNat % N.ns)) (N.wn d) ((o.2.1 / (N.ln : Int)).toNat))) } d k o
      rw [hh]
      have q2 := (q1.nrs nr').perform d o
      have hs := perform_same N { { { m with wt := up1 m.wt d q } with tch := up2 m.tch d ((o.2.1 / (N.ln : Int)).toNat % N.ns) (touchF (m.tch d ((o.2.1 / (N.ln : Int)).toNat % N.ns)) (wayF (m.blk d ((o.2.1 / (N.ln : Int)).toNat % N.ns)) (N.wn d) ((o.2.1 / (N.ln : Int)).toNat))) } with nr := nr' } d o
      have hw := perform_more N { { { m with wt := up1 m.wt d q } with tch := up2 m.tch d ((o.2.1 / (N.ln : Int)).toNat % N.ns) (touchF (m.tch d ((o.2.1 / (N.ln : Int)).toNat % N.ns)) (wayF (m.blk d ((o.2.1 / (N.ln : Int)).toNat % N.ns)) (N.wn d) ((o.2.1 / (N.ln : Int)).toNat))) } with nr := nr' } d o
      refine q2.finish h1 hd ?_ ?_ ?_ _ _
      · rw [hs.1]; exact h4
      · rw [hs.2.1, hw.2.1]; exact hdn
      · rw [hw.1]; exact p3

theorem finish_now (m : Mh) (k : Nat) (v f : Int) : (m.finish k v f).now = m.now := rfl
theorem fetch_now (N : Cn) (m : Mh) (d x : Nat) : (m.fetch N d x).now = m.now := by
  unfold Mh.fetch
  dsimp only
  repeat' (first | rfl | split)
theorem serve_now (N : Cn) (m : Mh) (d : Nat) : (m.serve N d).1.now = m.now := by
  unfold Mh.serve
  split
  · rfl
  · dsimp only
    split
    · rfl
    · split
      · exact fetch_now N m d _
      · rw [finish_now, (perform_more N _ _ _).2.2]
        unfold Mh.hand
        dsimp only
        split <;> rfl

theorem MhOk.service {N : Cn} {m : Mh} (h : MhOk N m) (hN : CnOk N) (hr : ∀ t, servedF N.c t = -1 ∨ (0 ≤ servedF N.c t ∧ servedF N.c t < N.c.domains)) : MhOk N (m.service N).1 := by
  unfold Mh.service
  split
  · exact h
  · have := hr m.now
    have hn := hN.nums
    exact h.serve hN (by omega)
theorem service_now (N : Cn) (m : Mh) : (m.service N).1.now = m.now := by
  unfold Mh.service
  split
  · rfl
  · exact serve_now N m _

theorem MhOk.steps {N : Cn} (hN : CnOk N) (hr : ∀ k, k < N.nc → ∀ t, openB N.c k (turnZ N.c k t) t = true → 0 ≤ turnZ N.c k t ∧ turnZ N.c k t < N.c.domains) (served : Int) : ∀ (n : Nat) (m : Mh), MhOk N m → 0 ≤ m.now → n ≤ N.nc → MhOk N (Mh.steps N served n m) ∧ (Mh.steps N served n m).now = m.now
  | 0, m, h, _, _ => ⟨h, rfl⟩
  | n + 1, m, h, h0, hn => by
    obtain ⟨h1, h2⟩ := MhOk.steps hN hr served n m h h0 (by omega)
    exact ⟨h1.step hN (by omega) (by rw [h2]; exact h0) (hr n (by omega)) served, (step_now N _ served n).trans h2⟩
end Go.Proofs.YtehheaedbnfidaaGreat
