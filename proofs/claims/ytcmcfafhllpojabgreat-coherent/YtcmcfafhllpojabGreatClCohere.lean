/-
  One domain's play: near copies that are Alone or Changed are single, what is Changed is marked, shared lines are neither.
-/
import Derived.Test.YtcmcfafhllpojabGreatClPackY
import Derived.Test.YtcmcfafhllpojabGreatClPackB
namespace Go.Proofs.YtcmcfafhllpojabGreat

theorem cstate_range {c : Cf} {k x t : Int} : ∀ (lw : Bool) (L : List Ent), stateF c k x t lw L = 0 ∨ stateF c k x t lw L = 1 ∨ stateF c k x t lw L = 2 ∨ stateF c k x t lw L = 3
  | _, [] => Or.inl rfl
  | lw, e :: L => by
    have h1 := cstate_range (c := c) (k := k) (x := x) (t := t) lw L
    have h2 := cstate_range (c := c) (k := k) (x := x) (t := t) true L
    unfold stateF
    repeat' split
    all_goals first | exact h1 | exact h2 | simp

theorem lone_spec {c : Cf} {core x t : Int} {log : List Ent} : ∀ (n : Nat) (j : Int), loneF c core x t log n j = true → ∀ i : Int, j ≤ i → i < j + n → i ≠ core → stateF c i x t false log = 0
  | 0, j, _, i, h1, h2, _ => by omega
  | n + 1, j, h, i, h1, h2, h3 => by
    unfold loneF at h
    by_cases g : j ≠ core ∧ stateF c j x t false log ≠ 0
    · rw [if_pos g] at h; cases h
    · rw [if_neg g] at h
      by_cases e : i = j
      · subst e
        exact Classical.byContradiction fun q => g ⟨h3, q⟩
      · exact lone_spec n (j + 1) h i (by omega) (by omega) h3

structure CohL (c : Cf) (nc : Nat) (t : Int) (L : List Ent) : Prop where
  chg : ∀ k x : Nat, k < nc → stateF c k x t false L = 3 → markedF x L = true
  sole : ∀ k j x : Nat, k < nc → j < nc → j ≠ k → (stateF c k x t false L = 2 ∨ stateF c k x t false L = 3) → stateF c j x t false L = 0
  prv : ∀ e ∈ L, (e.what = 4 ∨ (e.what = 3 ∧ e.lo = true)) → e.line * c.line < c.priv
  lin : ∀ e ∈ L, e.what = 1 → e.line * c.line < c.priv + c.shared

theorem CohL.start (c : Cf) (nc : Nat) (t : Int) : CohL c nc t [] :=
  ⟨fun _ _ _ h => by simp [stateF] at h, fun _ _ _ _ _ _ _ => rfl, fun _ h => by simp at h, fun _ h => by simp at h⟩
theorem mem_more {P : Ent → Prop} {e : Ent} {L : List Ent} (h : ∀ x ∈ L, P x) (he : P e) : ∀ x ∈ e :: L, P x := fun x hx => by
  rcases List.mem_cons.1 hx with q | q
  · subst q; exact he
  · exact h x q
theorem CohL.fill {c : Cf} {nc : Nat} {t : Int} {L : List Ent} (R : Right c) (h : CohL c nc t L) {e : Ent} (ht : e.t = t) (hw : e.what = 1) (hl : e.line * c.line < c.priv + c.shared) (hz : ∀ k : Nat, k < nc → stateF c k e.line t false L = 0) : CohL c nc t (e :: L) := by
  have hf : flushedB c e.t t = false := by rw [ht]; exact flushed_self R t
  refine ⟨fun k x hk hs => ?_, fun k j x hk hj hn hs => ?_, mem_more h.prv (fun q => by omega), mem_more h.lin (fun _ => hl)⟩
  · rw [stateF_fill hf hw] at hs
    by_cases g : e.line = (x : Int)
    · have := hz k hk
      rw [g] at this
      omega
    · rw [marked_ne g]
      exact h.chg k x hk hs
  · rw [stateF_fill hf hw] at hs ⊢
    exact h.sole k j x hk hj hn hs
theorem CohL.gone {c : Cf} {nc : Nat} {t : Int} {L : List Ent} (R : Right c) (h : CohL c nc t L) {e : Ent} (ht : e.t = t) (hw : e.what = 2) : CohL c nc t (e :: L) := by
  have hf : flushedB c e.t t = false := by rw [ht]; exact flushed_self R t
  refine ⟨fun k x hk hs => ?_, fun k j x hk hj hn hs => ?_, mem_more h.prv (fun q => by omega), mem_more h.lin (fun q => by omega)⟩
  · rw [stateF_gone hf hw] at hs
    by_cases g : (x : Int) = e.line
    · rw [if_pos g] at hs; omega
    · rw [if_neg g] at hs
      rw [marked_ne (fun q => g q.symm)]
      exact h.chg k x hk hs
  · rw [stateF_gone hf hw] at hs ⊢
    by_cases g : (x : Int) = e.line
    · rw [if_pos g]
    · rw [if_neg g] at hs ⊢
      exact h.sole k j x hk hj hn hs
theorem CohL.hand {c : Cf} {nc : Nat} {t : Int} {L : List Ent} (R : Right c) (h : CohL c nc t L) {e : Ent} {k0 : Nat} (ht : e.t = t) (hw : e.what = 3) (hk0 : e.core = k0) (hp : e.lo = true → e.line * c.line < c.priv) (hlo : e.lo = true → ∀ j : Nat, j < nc → j ≠ k0 → stateF c j e.line t false L = 0) : CohL c nc t (e :: L) := by
  have hf : flushedB c e.t t = false := by rw [ht]; exact flushed_self R t
  have lw : ∀ k x : Int, stateF c k x t true L = 0 ∨ stateF c k x t true L = 1 := fun k x => by
    rw [stateF_lw]
    split
    · exact Or.inl rfl
    · exact Or.inr rfl
  refine ⟨fun k x hk hs => ?_, fun k j x hk hj hn hs => ?_, mem_more h.prv (fun q => by rcases q with q | q <;> first | omega | exact hp q.2), mem_more h.lin (fun q => by omega)⟩
  · have hm : markedF x (e :: L) = markedF x L := by simp [markedF, hw]
    rw [hm]
    rw [stateF_hand hf hw] at hs
    by_cases g1 : (k : Int) = e.core
    · rw [if_pos g1] at hs
      by_cases g2 : (x : Int) = e.line
      · rw [if_pos g2] at hs
        split at hs <;> omega
      · rw [if_neg g2] at hs
        split at hs
        · omega
        · exact h.chg k x hk hs
    · rw [if_neg g1] at hs
      by_cases g2 : (x : Int) = e.line
      · rw [if_pos g2] at hs
        split at hs
        · omega
        · have := lw k x; omega
      · rw [if_neg g2] at hs
        exact h.chg k x hk hs
  · rw [stateF_hand hf hw] at hs ⊢
    by_cases g2 : (x : Int) = e.line
    · by_cases g1 : (k : Int) = e.core
      · rw [if_pos g1, if_pos g2] at hs
        have hlo1 : e.lo = true := by
          cases q : e.lo with
          | true => rfl
          | false => rw [q] at hs; simp at hs
        have gj : ¬ (j : Int) = e.core := by omega
        rw [if_neg gj, if_pos g2]
        have z := hlo hlo1 j hj (by omega)
        rw [← g2] at z
        split
        · rfl
        · rw [stateF_lw, if_pos z]
      · rw [if_neg g1, if_pos g2] at hs
        exfalso
        have := lw k x
        split at hs <;> omega
    · have hs' : stateF c k x t false L = 2 ∨ stateF c k x t false L = 3 := by
        by_cases g1 : (k : Int) = e.core
        · rw [if_pos g1, if_neg g2] at hs
          split at hs
          · omega
          · exact hs
        · rw [if_neg g1, if_neg g2] at hs
          exact hs
      have z := h.sole k j x hk hj hn hs'
      rw [if_neg g2, if_neg g2, z]
      split
      · split <;> rfl
      · rfl
theorem CohL.store {c : Cf} {nc : Nat} {t : Int} {L : List Ent} (R : Right c) (h : CohL c nc t L) {e : Ent} {k0 : Nat} (ht : e.t = t) (hw : e.what = 4) (hk0 : e.core = k0) (hp : e.line * c.line < c.priv) (hz : ∀ j : Nat, j < nc → j ≠ k0 → stateF c j e.line t false L = 0) : CohL c nc t (e :: L) := by
  have hf : flushedB c e.t t = false := by rw [ht]; exact flushed_self R t
  refine ⟨fun k x hk hs => ?_, fun k j x hk hj hn hs => ?_, mem_more h.prv (fun _ => hp), mem_more h.lin (fun q => by omega)⟩
  · by_cases g : e.line = (x : Int)
    · simp [markedF, hw, g]
    · rw [marked_ne g]
      rw [stateF_store hf hw, if_neg (fun q => g q.2.symm)] at hs
      exact h.chg k x hk hs
  · rw [stateF_store hf hw] at hs ⊢
    by_cases g : (x : Int) = e.line
    · by_cases g1 : (k : Int) = e.core
      · rw [if_neg (by omega)]
        rw [g]
        exact hz j hj (by omega)
      · rw [if_neg (fun q => g1 q.1)] at hs
        have := hz k hk (by omega)
        rw [← g] at this
        omega
    · rw [if_neg (fun q => g q.2)] at hs ⊢
      exact h.sole k j x hk hj hn hs
theorem CohL.next {c : Cf} {nc : Nat} {t : Int} {L : List Ent} (R : Right c) (h : CohL c nc t L) (hl : ∀ e ∈ L, e.t ≤ t) : CohL c nc (t + 1) L := by
  by_cases g : flushesB c (t + 1) = true
  · have z : ∀ (k x : Int), stateF c k x (t + 1) false L = 0 := fun k x => stateF_flushed (fun e he => flush_all R g (by have := hl e he; omega))
    exact ⟨fun k x _ hs => by rw [z] at hs; omega, fun k j x _ _ _ _ => z _ _, h.prv, h.lin⟩
  · have g' : flushesB c (t + 1) = false := by simpa using g
    have z : ∀ (k x : Int), stateF c k x (t + 1) false L = stateF c k x t false L := fun k x => state_later R (by omega) (flush_none R g') _ _
    exact ⟨fun k x hk hs => by rw [z] at hs; exact h.chg k x hk hs, fun k j x hk hj hn hs => by rw [z] at hs ⊢; exact h.sole k j x hk hj hn hs, h.prv, h.lin⟩

theorem fault_line {c : Cf} (hc : chk c = 0) {o : OpT} (h : faultF c o = 0) : 0 ≤ o.2.1 ∧ o.2.1 < c.priv + c.shared ∧ o.2.1 / c.line * c.line ≤ o.2.1 ∧ (o.1 = 1 → o.2.1 < c.priv) := by
  have hl : 0 < c.line := by
    have := (nm_of hc).ln
    have := (nm_of hc).l0
    omega
  unfold faultF at h
  by_cases g : o.2.1 < 0 ∨ c.priv + c.shared ≤ o.2.1
  · rw [if_pos g] at h; omega
  · rw [if_neg g] at h
    have hm := Int.ediv_mul_le o.2.1 (show c.line ≠ 0 by omega)
    refine ⟨by omega, by omega, hm, fun q => ?_⟩
    by_cases g2 : o.1 = 1 ∧ c.priv ≤ o.2.1
    · rw [if_pos g2] at h; omega
    · omega

set_option maxHeartbeats 1600000 in
theorem coh_service {M : MDat} {d : Nat} {S : So} {B : Nat} {t : Int} (hc : chk M.c = 0) (hs : SoOk M d S B) (h : CohL M.c M.c.cores.toNat t S.log) (hi : Inc M.c M.c.cores.toNat t S.log) : CohL M.c M.c.cores.toNat t (So.service M d S t).log := by
  have R := right_of hc
  unfold So.service
  by_cases c1 : servesB M.c d t = true
  · rw [if_pos c1]
    cases hq : S.queue with
    | nil =>
      have : So.serve M d S t = S := by unfold So.serve; rw [hq]
      rw [this]; exact h
    | cons q r =>
      obtain ⟨k, rfl, hk, hk1⟩ := hs.qu q (by rw [hq]; exact List.mem_cons_self ..)
      have hf0 := hs.w1 k hk hk1
      rcases ho : opAt M d k S with ⟨okd, oad, ovl⟩
      rw [ho] at hf0
      obtain ⟨f1, f2, f3, f4⟩ := fault_line hc hf0
      simp only at f1 f2 f3 f4
      have hx0 : 0 ≤ oad / M.c.line := Int.ediv_nonneg f1 (by have := (nm_of hc).ln; omega)
      obtain ⟨x, hx⟩ := Int.eq_ofNat_of_zero_le hx0
      by_cases hw1 : 0 ≤ whereF (oad / M.c.line) S.log
      · by_cases hkd : okd = 1
        · subst hkd
          rw [serve_store hq ho rfl hw1]
          show CohL _ _ _ (_ :: _ :: S.log)
          have h1 : CohL M.c M.c.cores.toNat t (⟨t, 3, k, oad / M.c.line, whereF (oad / M.c.line) S.log, true, false, 0, 0⟩ :: S.log) := h.hand R (k0 := k) rfl rfl rfl (fun q => by cases q) (fun q => by cases q)
          refine h1.store R (k0 := k) rfl rfl rfl ?_ (fun j hj hn => ?_)
          · show oad / M.c.line * M.c.line < M.c.priv
            have := f4 rfl
            omega
          · show stateF M.c j (oad / M.c.line) t false _ = 0
            rw [stateF_hand (flushed_self R t) rfl]
            rw [if_neg (by show ¬ (j : Int) = (k : Int); omega), if_pos rfl, if_pos rfl]
        · rw [serve_load hq ho hkd rfl hw1]
          show CohL _ _ _ (_ :: S.log)
          refine h.hand R (k0 := k) rfl rfl rfl (fun q => ?_) (fun q j hj hn => ?_)
          · simp only [Bool.and_eq_true, decide_eq_true_eq] at q
            show oad / M.c.line * M.c.line < M.c.priv
            omega
          · simp only [Bool.and_eq_true, decide_eq_true_eq] at q
            exact lone_spec _ _ q.1 j (by omega) (by omega) (by omega)
      · have hz : ∀ j : Nat, j < M.c.cores.toNat → stateF M.c j (oad / M.c.line) t false S.log = 0 := fun j hj => Classical.byContradiction fun q => hw1 (by
          rw [hx] at q ⊢
          exact hi j x hj q)
        have hlin : oad / M.c.line * M.c.line < M.c.priv + M.c.shared := by omega
        obtain ⟨way, hcw⟩ : ∃ way, chosenF M.c (M.c.ways.count (d : Int)) (oad / M.c.line % M.c.sets) S.log = way := ⟨_, rfl⟩
        obtain ⟨y, hy⟩ : ∃ y, liesF M.c (oad / M.c.line % M.c.sets) way S.log = y := ⟨_, rfl⟩
        by_cases h0 : 0 ≤ y
        · cases hm : markedF y S.log with
          | true =>
            rw [serve_gone hq ho rfl hw1 hcw hy h0 hm]
            show CohL _ _ _ (_ :: S.log)
            exact h.gone R rfl rfl
          | false =>
            rw [serve_both hq ho rfl hw1 hcw hy h0 hm]
            show CohL _ _ _ (_ :: _ :: S.log)
            refine CohL.fill R (h.gone R rfl rfl) rfl rfl hlin (fun j hj => ?_)
            show stateF M.c j (oad / M.c.line) t false _ = 0
            rw [stateF_gone (flushed_self R t) rfl]
            split
            · rfl
            · exact hz j hj
        · rw [serve_fill hq ho rfl hw1 hcw hy h0]
          show CohL _ _ _ (_ :: S.log)
          exact h.fill R rfl rfl hlin hz
  · rw [if_neg c1]; exact h

theorem coh_works {M : MDat} {d k : Nat} {S : So} {t : Int} (hc : chk M.c = 0) (hk : k < M.c.cores.toNat) (h : CohL M.c M.c.cores.toNat t S.log) : CohL M.c M.c.cores.toNat t (So.works M d k S t).log := by
  have R := right_of hc
  unfold So.works
  split
  · exact h
  · split
    · exact h
    · unfold So.begin
      by_cases d1 : faultF M.c (opAt M d k S) ≠ 0
      · simp only [if_pos d1]; exact h
      · simp only [if_neg d1]
        have d1' : faultF M.c (opAt M d k S) = 0 := Classical.byContradiction d1
        obtain ⟨f1, f2, f3, f4⟩ := fault_line hc d1'
        by_cases d2 : stateF M.c k ((opAt M d k S).2.1 / M.c.line) t false S.log = 0 ∨ ((opAt M d k S).1 = 1 ∧ stateF M.c k ((opAt M d k S).2.1 / M.c.line) t false S.log = 1)
        · simp only [if_pos d2]; exact h
        · simp only [if_neg d2]
          by_cases d3 : (opAt M d k S).1 = 1
          · simp only [if_pos d3]
            have hx0 : 0 ≤ (opAt M d k S).2.1 / M.c.line := Int.ediv_nonneg f1 (by have := (nm_of hc).ln; omega)
            obtain ⟨x, hx⟩ := Int.eq_ofNat_of_zero_le hx0
            show CohL _ _ _ (_ :: S.log)
            refine h.store R (k0 := k) rfl rfl rfl ?_ (fun j hj hn => ?_)
            · show (opAt M d k S).2.1 / M.c.line * M.c.line < M.c.priv
              have := f4 d3
              omega
            · show stateF M.c j ((opAt M d k S).2.1 / M.c.line) t false S.log = 0
              rw [hx] at d2 ⊢
              refine h.sole k j x hk hj hn ?_
              have := cstate_range (c := M.c) (k := (k : Int)) (x := (x : Int)) (t := t) false S.log
              omega
          · simp only [if_neg d3]; exact h

theorem coh_worksAll {M : MDat} {d : Nat} {t : Int} (hc : chk M.c = 0) (t0 : 0 ≤ t) (t1 : t ≤ 10000) : ∀ (n j : Nat) {S : So} {B : Nat}, SoOk M d S B → j + n = M.c.cores.toNat → CohL M.c M.c.cores.toNat t S.log → CohL M.c M.c.cores.toNat t (So.worksAll M d t n j S).log
  | 0, _, _, _, _, _, h => h
  | n + 1, j, S, B, hs, hj, h => by
    unfold So.worksAll
    exact coh_worksAll hc t0 t1 n (j + 1) (hs.works hc (k := j) (by omega) t0 t1) (by omega) (coh_works hc (by omega) h)

theorem coh_upto {M : MDat} {d : Nat} (hc : chk M.c = 0) (hi : ∀ T : Nat, T ≤ 10000 → Inc M.c M.c.cores.toNat ((T : Int) - 1) (So.upto M d T).log ∧ ∀ e ∈ (So.upto M d T).log, e.t ≤ (T : Int) - 1) : ∀ T : Nat, T ≤ 10000 → CohL M.c M.c.cores.toNat ((T : Int) - 1) (So.upto M d T).log
  | 0, _ => CohL.start _ _ _
  | t + 1, h => by
    have R := right_of hc
    have ih := coh_upto hc hi t (by omega)
    obtain ⟨i1, i2⟩ := hi t (by omega)
    have hs := SoOk.upto (M := M) (d := d) hc t (by omega)
    have e1 : (t : Int) - 1 + 1 = t := by omega
    have c0 := ih.next R i2
    have j0 := i1.next R i2
    rw [e1] at c0 j0
    have c1 := coh_service hc hs c0 j0
    have c2 := coh_worksAll hc (by omega) (by omega) M.c.cores.toNat 0 (hs.service hc (by omega) (by omega)) (by omega) c1
    have e2 : ((t + 1 : Nat) : Int) - 1 = t := by omega
    rw [e2]
    exact c2
end Go.Proofs.YtcmcfafhllpojabGreat
