/-
  The walks of wallskeep's waits, many.
-/
import Derived.Test.YtcmcfafhllpojaaKeepP
namespace Go.Proofs.Ytcmcfafhllpojaa
open Go.RowKit

theorem wait_spec {c : Cf} (hz : chk c = 0) {d : Int} (d0 : 0 ≤ d) (d1 : d < c.domains) (u : Nat) :
    (u : Int) ≤ waitZ c d u ∧ waitZ c d u < u + (c.slots.length : Int) * c.slot ∧ servesB c d (waitZ c d u) = true ∧ ∀ v, (u : Int) ≤ v → v < waitZ c d u → servesB c d v = false := by
  have R := right_of hz
  have s1 := R.s1
  have e : ((c.slots.length : Int) * c.slot).toNat = c.slots.length * c.slot.toNat := by
    rw [Int.toNat_mul (by omega) (by omega), Int.toNat_natCast]
  have e2 : (c.slots.length : Int) * c.slot = ((c.slots.length * c.slot.toNat : Nat) : Int) := by
    rw [Int.natCast_mul, Int.toNat_of_nonneg (by omega)]
  have h := firstF_spec (p := servesB c d) (c.slots.length * c.slot.toNat) u (by rw [serves_count c d s1 u]; exact owns_slot (chk_zero hz).2.2.1 d0 d1)
  unfold waitZ
  rw [e, e2]
  exact h

theorem many_hit {p : Int → Bool} {E u v : Int} (huv : u ≤ v) (hv : v < E) (h0 : ∀ x, u ≤ x → x < v → p x = false) (h1 : p v = true) : cntF p (E - u).toNat u = 1 + cntF p (E - (v + 1)).toNat (v + 1) := by
  obtain ⟨m, hm⟩ := Int.eq_ofNat_of_zero_le (show 0 ≤ v - u by omega)
  have e : v = u + (m : Int) := by omega
  subst e
  have := cntF_jump (p := p) (n := (E - u).toNat) (m := m) (u := u) (fun x h2 h3 => h0 x h2 h3) h1 (by omega)
  rw [this]
  congr 2
  omega

theorem many_none {p : Int → Bool} {E u v : Int} (hv : E ≤ v) (h0 : ∀ x, u ≤ x → x < v → p x = false) : cntF p (E - u).toNat u = 0 :=
  cntF_zero_of _ _ (fun x h2 h3 => h0 x h2 (by omega))

set_option maxRecDepth 100000 in
set_option maxHeartbeats 1600000 in
theorem kwaits_any (hW : WaitC) (c : Cf) (s : Sl) (d : Int) (t : Nat) (w : World) (h : CfgAt w c s) (hz : chk c = 0) (d0 : 0 ≤ d) (d1 : d < c.domains) (t1 : t ≤ 10000) :
    Calls Try.prog 9 #[cfgV c s, .int .i64 d, .int .i64 t] w fun e w' => e = .returned (.bool true) ∧ Below w.heap.size w w' := by
  have k0 := Kept.start w (cfgA c s) 25
  have R := right_of hz
  have ws := wait_spec hz d0 d1 t
  have wy := wait_yes (c := c) (d := d) (t := (t : Int)) hz (decide_eq_true ⟨d0, d1, by omega, by omega⟩)
  have s1 := R.s1
  have s2 := R.s2
  have hlen := h.slots.hlen
  have l1 := R.t1
  have l2 := R.t2
  rw [hlen] at l1 l2 ws
  have p1 : 0 ≤ (s.sl : Int) * c.slot ∧ (s.sl : Int) * c.slot ≤ 8 * 4 := ⟨Int.mul_nonneg (by omega) (by omega), Int.mul_le_mul (by omega) (by omega) (by omega) (by omega)⟩
  obtain ⟨ws1, ws2, ws3, _⟩ := ws
  have hw := hW c s d t
  rw [wy.1, wy.2] at hw
  have HS : Hid _ := ws3
  have HL : Hid _ := hlen
  clear hz ws3 wy hlen
  generalize waitZ c d t = n at *
  generalize hm : (s.sl : Int) * c.slot = m at *
  go_enter Try.func9, Try.ntmps9
  go_wp2_with fail
  refine (hw _ (h.below k0.below (Nat.le_refl _))).mono ?_; rintro e w1 ⟨rfl, hb1⟩; have k1 := k0.next hb1 rfl; have q1 := k1.box
  go_wp2_with fail
  refine (kserves_any c s d n _ (h.below k1.below (Nat.le_refl _)) R (by omega) (by omega)).mono ?_; rintro e w2 ⟨rfl, hb2⟩; have k2 := k1.next hb2 rfl
  clear q1
  go_wp2
  go_ret
  exact ⟨ret_bool HS.out, k2.below⟩

set_option maxRecDepth 100000 in
set_option maxHeartbeats 1600000 in
theorem kmany_any (hW : WaitC) (c : Cf) (s : Sl) (d : Int) (t : Nat) (w : World) (h : CfgAt w c s) (hz : chk c = 0) (d0 : 0 ≤ d) (d1 : d < c.domains) (t1 : (t : Int) + (c.slots.length : Int) * c.slot ≤ 10000) :
    Calls Try.prog 10 #[cfgV c s, .int .i64 d, .int .i64 t] w fun e w' => e = .returned (.int .i64 (c.slots.count d)) ∧ Below w.heap.size w w' := by
  have k0 := Kept.start w (cfgA c s) 25
  have R := right_of hz
  have s1 := R.s1
  have s2 := R.s2
  have hlen := h.slots.hlen
  have l1 := R.t1
  have l2 := R.t2
  have e2 : (c.slots.length : Int) * c.slot = ((c.slots.length * c.slot.toNat : Nat) : Int) := by
    rw [Int.natCast_mul, Int.toNat_of_nonneg (by omega)]
  have hcnt : cntF (servesB c d) ((c.slots.length : Int) * c.slot).toNat t = c.slots.count d := by rw [e2, Int.toNat_natCast]; exact serves_count c d s1 t
  rw [hlen] at l1 l2 hcnt t1
  have p1 : 0 ≤ (s.sl : Int) * c.slot ∧ (s.sl : Int) * c.slot ≤ 8 * 4 := ⟨Int.mul_nonneg (by omega) (by omega), Int.mul_le_mul (by omega) (by omega) (by omega) (by omega)⟩
  have hw : ∀ (u : Nat), u ≤ 10000 → ∃ v : Int, ((u : Int) ≤ v ∧ v < u + (s.sl : Int) * c.slot) ∧ (servesB c d v = true ∧ ∀ x, (u : Int) ≤ x → x < v → servesB c d x = false) ∧ ∀ w, CfgAt w c s → Calls Try.prog 8 #[cfgV c s, .int .i64 d, .int .i64 u] w fun e w' => e = .returned (.tuple #[.int .i64 v, .int .i64 0]) ∧ Below w.heap.size w w' := by
    intro u hu
    have ws := wait_spec hz d0 d1 u
    have wy := wait_yes (c := c) (d := d) (t := (u : Int)) hz (decide_eq_true ⟨d0, d1, by omega, by omega⟩)
    have hw := hW c s d u
    rw [wy.1, wy.2] at hw
    rw [hlen] at ws
    exact ⟨_, ⟨ws.1, ws.2.1⟩, ws.2.2, hw⟩
  have HC : Hid _ := hcnt
  have HL : Hid _ := hlen
  clear hz hlen hcnt e2
  generalize hm : (s.sl : Int) * c.slot = m at *
  go_enter Try.func10, Try.ntmps10
  go_wp2
  go_loopw [7, 9] (fun x u wr => ∃ (k : Nat) (j : Nat), x = .int .i64 k ∧ u = .int .i64 j ∧ (t : Int) ≤ j ∧ (j : Int) ≤ t + m ∧ k ≤ c.slots.count d ∧ (k : Nat) + cntF (servesB c d) (t + m - j).toNat j = c.slots.count d ∧ Kept w wr w.heap.size (cfgA c s)) (fun _ u _ => (t + m - intOf u).toNat)
  case atStart => exact ⟨0, t, rfl, rfl, by omega, by omega, by omega, by rw [← HC.out, show (t : Int) + m - t = m by omega]; omega, k0⟩
  case round =>
    obtain ⟨k, j, rfl, rfl, j0, j1, hkb, hk, hq⟩ := hrel
    have HK : Hid _ := hk
    have q1 := hq.box
    have HB : Hid _ := hkb
    clear hk hkb
    by_cases hlt : (j : Int) < t + m
    · obtain ⟨v, ⟨v1, v2⟩, hv, hcall⟩ := hw j (by omega)
      have HV : Hid _ := hv
      clear hv hw
      by_cases hve : (t : Int) + m ≤ v
      · go_wp2_with fail
        refine (hcall _ (h.below hq.below (Nat.le_refl _))).mono ?_; rintro e w1 ⟨rfl, hb1⟩; have k1 := hq.next hb1 rfl
        clear q1
        go_wp2
        go_ret
        refine ⟨ret_int ?_, k1.below⟩
        have := many_none hve HV.out.2
        have := HK.out
        omega
      · go_wp2_with fail
        refine (hcall _ (h.below hq.below (Nat.le_refl _))).mono ?_; rintro e w1 ⟨rfl, hb1⟩; have k1 := hq.next hb1 rfl
        clear q1
        have hb := many_hit (E := t + m) v1 (by omega) HV.out.2 HV.out.1
        have hkk := HK.out
        have h9 := List.count_le_length (a := d) (l := c.slots)
        have hk8 : k ≤ 8 := by have := R.t2; have := HB.out; omega
        have HN : Hid (k + 1 + cntF (servesB c d) (t + m - (v + 1)).toNat (v + 1) = c.slots.count d) := by unfold Hid; omega
        clear hb hkk h9
        go_wp2
        go_roundw
        case rel =>
          refine ⟨k + 1, (v + 1).toNat, by go_num, by rw [Int.toNat_of_nonneg (by omega)], by omega, by omega, by have := HN.out; omega, ?_, k1⟩
          rw [Int.toNat_of_nonneg (by omega)]
          exact HN.out
        case measure => simp [intOf]; omega
    · have ej : (j : Int) = t + m := by omega
      go_wp2
      go_ret
      refine ⟨ret_int ?_, hq.below⟩
      have := HK.out
      rw [ej, Int.sub_self] at this
      simp only [Int.toNat_zero, cntF] at this
      omega
end Go.Proofs.Ytcmcfafhllpojaa
