/-
  A case of wallskeep: faultOf; a row of integers by a function; program, told of the world in which the case was read.
-/
import Derived.Test.YtcmcfafhllpojaaGreatClPackU
import Derived.Test.YtcmcfafhllpojaaGreatClMachA
import Derived.Deep.DeepCutAuto
namespace Go.Proofs.YtcmcfafhllpojaaGreat
open Go.RowKit

set_option maxRecDepth 100000 in
set_option maxHeartbeats 3200000 in
theorem kflt_any (c : Cf) (s : Sl) (o : OpT) (w : World) (hz : chk c = 0) :
    Calls Tryz.prog 130 #[cfgV c s, .agg (opArr o)] w fun e w' => e = .returned (.int .i64 (faultF c o)) ∧ Below w.heap.size w w' := by
  have sb := shape_bounds (chk_zero hz).1
  have hb : Below w.heap.size w ((w.alloc (.cells (cfgA c s) 29)).alloc (.cells (opArr o) 113)) := ((Below.refl _ _).alloc (Nat.le_refl _) _).alloc (by simp) _
  have HB : Hid _ := hb
  obtain ⟨o1, o2, o3⟩ := o
  have HF : Hid (faultF c (o1, o2, o3) = if o2 < 0 ∨ c.priv + c.shared ≤ o2 then 1 else if o1 = 1 ∧ c.priv ≤ o2 then 2 else 0) := rfl
  have p1 : 0 ≤ c.priv := by omega
  have p2 : c.priv ≤ 64 := by omega
  have p3 : 0 ≤ c.shared := by omega
  have p4 : c.shared ≤ 32 := by omega
  clear sb hb hz
  have hcs : (o2 < 0) ∨ (¬ o2 < 0 ∧ c.priv + c.shared ≤ o2) ∨ (¬ o2 < 0 ∧ ¬ c.priv + c.shared ≤ o2 ∧ o1 = 1 ∧ c.priv ≤ o2) ∨ (¬ o2 < 0 ∧ ¬ c.priv + c.shared ≤ o2 ∧ o1 = 1 ∧ ¬ c.priv ≤ o2) ∨ (¬ o2 < 0 ∧ ¬ c.priv + c.shared ≤ o2 ∧ ¬ o1 = 1) := by omega
  rcases hcs with a | ⟨a, b⟩ | ⟨a, b, e, f⟩ | ⟨a, b, e, f⟩ | ⟨a, b, e⟩
  · have HR : Hid (faultF c (o1, o2, o3) = 1) := by unfold Hid; rw [HF.out, if_pos (Or.inl a)]
    go_enter Tryz.func130, Tryz.ntmps130
    go_wp2
    go_ret
    exact ⟨ret_int HR.out.symm, HB.out⟩
  · have HR : Hid (faultF c (o1, o2, o3) = 1) := by unfold Hid; rw [HF.out, if_pos (Or.inr b)]
    go_enter Tryz.func130, Tryz.ntmps130
    go_wp2
    go_ret
    exact ⟨ret_int HR.out.symm, HB.out⟩
  · have HR : Hid (faultF c (o1, o2, o3) = 2) := by unfold Hid; rw [HF.out, if_neg (by omega), if_pos ⟨e, f⟩]
    subst e
    go_enter Tryz.func130, Tryz.ntmps130
    go_wp2
    go_ret
    exact ⟨ret_int HR.out.symm, HB.out⟩
  · have HR : Hid (faultF c (o1, o2, o3) = 0) := by unfold Hid; rw [HF.out, if_neg (by omega), if_neg (by omega)]
    subst e
    go_enter Tryz.func130, Tryz.ntmps130
    go_wp2
    go_ret
    exact ⟨ret_int HR.out.symm, HB.out⟩
  · have HR : Hid (faultF c (o1, o2, o3) = 0) := by unfold Hid; rw [HF.out, if_neg (by omega), if_neg (by omega)]
    have eb : (o1 == 1) = false := by simp [e]
    go_enter Tryz.func130, Tryz.ntmps130
    go_wp2
    go_ret
    exact ⟨ret_int HR.out.symm, HB.out⟩

/-- A row of integers by a function. -/
def flT (n : Nat) (f : Nat → Int) : List Value := (List.range n).map fun a => .int .i64 (f a)
theorem flT_at {n : Nat} {f : Nat → Int} {a : Nat} (h : a < n) : (flT n f)[a]? = some (.int .i64 (f a)) := by
  unfold flT
  rw [List.getElem?_map, List.getElem?_range h]
  rfl
theorem flT_set {n : Nat} {f : Nat → Int} {a : Nat} {v : Int} : (flT n f).set a (.int .i64 v) = flT n (up1 f a v) := by
  have hl : ∀ g, (flT n g).length = n := fun g => by simp [flT]
  apply List.ext_getElem?
  intro b
  by_cases hb : b < n
  · rw [List.getElem?_set, flT_at hb, flT_at hb, hl]
    by_cases e : a = b
    · subst e; simp [hb, up1]
    · have e' : ¬ b = a := fun q => e q.symm
      simp [e, e', up1]
  · rw [List.getElem?_eq_none (by simp [hl]; omega), List.getElem?_eq_none (by rw [hl]; omega)]

set_option maxRecDepth 100000 in
set_option maxHeartbeats 3200000 in
theorem kprog_at (x : Cs) (l : Cl) (d k nc : Nat) (w0 w : World) (h : CaseAt w0 x l) (hb0 : Below w0.heap.size w0 w) (hn : (nc : Int) = x.c.cores) (hc : nc ≤ 3) (hd : d ≤ 4) (hk : k ≤ 3) :
    Calls Tryz.prog 27 #[csV x l, .int .i64 d, .int .i64 k] w fun e w' => ∃ sa len cap, e = .returned (.slice sa len cap) ∧ OpsAt w0 sa len cap (progK x (d * nc + k)) ∧ Below w.heap.size w w' := by
  obtain ⟨s, pa, pl, pc, oa, ol, oc, ma, ml, mc, ra, rl, rc⟩ := l
  have k0 := Kept.start w (csA x ⟨s, pa, pl, pc, oa, ol, oc, ma, ml, mc, ra, rl, rc⟩) 33
  have hmul : (d : Int) * (nc : Int) = ((d * nc : Nat) : Int) := by simp
  have hb1 : d * nc ≤ 12 := by have := Nat.mul_le_mul hd hc; omega
  have HB : Hid (Below w.heap.size w (w.alloc (.cells (csA x ⟨s, pa, pl, pc, oa, ol, oc, ma, ml, mc, ra, rl, rc⟩) 33))) := k0.below
  have c0 : (w.alloc (.cells (csA x ⟨s, pa, pl, pc, oa, ol, oc, ma, ml, mc, ra, rl, rc⟩) 33)).cell? ⟨w.heap.size, 0, none⟩ = some (.int .i64 nc) := by rw [hn]; exact k0.box 0
  have c13 : (w.alloc (.cells (csA x ⟨s, pa, pl, pc, oa, ol, oc, ma, ml, mc, ra, rl, rc⟩) 33)).cell? ⟨w.heap.size, 13, none⟩ = some (.slice pa pl pc) := k0.box 13
  have hpl := h.progs.hlen
  have hple := h.progs.hle
  have hpm := h.progs.hmax
  simp only at hpl hple hpm
  unfold maxLen at hpm
  obtain ⟨q, hq⟩ : ∃ q, d * nc = q := ⟨_, rfl⟩
  rw [hq] at hmul hb1 ⊢
  have HN : Hid _ := hn
  clear hq hn
  obtain ⟨i, hi⟩ : ∃ i, q + k = i := ⟨_, rfl⟩
  rw [hi]
  have hsum : (q : Int) + (k : Int) = (i : Int) := by omega
  have HI : Hid _ := hi
  have hi15 : i ≤ 15 := by omega
  clear hi
  by_cases a1 : i < pl
  · obtain ⟨b, off, ia, il, ic, e1, e2, e3⟩ := h.progs.hat i a1
    simp only at e1
    subst e1
    have HBD0 : b < w0.heap.size := cell_lt e2
    have e2 : w.cell? ⟨b, off + i, none⟩ = some (.slice ia il ic) := (hb0.cell (p := ⟨b, off + i, none⟩) HBD0).trans e2
    have HBD : b < w.heap.size := cell_lt e2
    have HO0 : Hid _ := e3
    have hO : OpsAt (w.alloc (.cells (csA x ⟨s, some ⟨b, off, none⟩, pl, pc, oa, ol, oc, ma, ml, mc, ra, rl, rc⟩) 33)) ia il ic (x.progs.getD i []) := (e3.below hb0 (Nat.le_refl _)).below k0.below (Nat.le_refl _)
    have cp : (w.alloc (.cells (csA x ⟨s, some ⟨b, off, none⟩, pl, pc, oa, ol, oc, ma, ml, mc, ra, rl, rc⟩) 33)).cell? ⟨b, off + i, none⟩ = some (.slice ia il ic) := by rw [k0.below.cell (p := ⟨b, off + i, none⟩) HBD]; exact e2
    have HP : Hid (progK x i = if opsOk (x.progs.getD i []) = true then x.progs.getD i [] else []) := rfl
    obtain ⟨os, hos⟩ : ∃ os, x.progs.getD i [] = os := ⟨_, rfl⟩
    rw [hos] at hO HP HO0
    clear hos e3 e2 k0 h HBD HBD0 hb0
    have hil := hO.hlen
    have hile := hO.hle
    have hilm := hO.hmax
    unfold maxLen at hilm
    by_cases a2 : 64 < il
    · have HR : Hid (progK x i = []) := by
        unfold Hid; rw [HP.out, if_neg]; unfold opsOk; simp; omega
      clear hO
      go_enter Tryz.func27, Tryz.ntmps27
      go_wp2
      go_ret
      refine ⟨_, _, _, rfl, ?_, HB.out⟩
      rw [HR.out]; exact opsAt_nil _
    · have HR : Hid (opsOk os = os.all kindB) := by unfold Hid opsOk; rw [decide_eq_true (by omega)]; rfl
      have HL : Hid _ := hil
      clear hil
      go_enter Tryz.func27, Tryz.ntmps27
      go_wp2_with fail
      generalize hW : w.alloc (.cells (csA x ⟨s, some ⟨b, off, none⟩, pl, pc, oa, ol, oc, ma, ml, mc, ra, rl, rc⟩) 33) = W at *
      clear hW
      go_loop [9] (fun u => ∃ i : Nat, i ≤ il ∧ u = .int .i64 i ∧ (os.take i).all kindB = true) (fun u => il - (intOf u).toNat)
      case atStart => exact ⟨0, by omega, rfl, by simp⟩
      case round =>
        obtain ⟨n, hi, rfl, hall⟩ := hrel
        have HA : Hid _ := hall
        clear hall
        by_cases hlt : n < il
        · obtain ⟨b, off, rfl, e1, _, _⟩ := hO.hat n hlt
          have HS : Hid _ := all_take (os := os) (i := n) (by rw [HL.out]; exact hlt)
          have HF : Hid (kindB (os.getD n opZ) = ((os.getD n opZ).1 == 0 || (os.getD n opZ).1 == 1)) := rfl
          have HN : Hid (kindB (os.getD n opZ) = false → os.all kindB = false) := fun hf => by
            have hm : os.getD n opZ ∈ os := by rw [List.getD_eq_getElem?_getD, List.getElem?_eq_getElem (by rw [HL.out]; exact hlt)]; exact List.getElem_mem _
            rw [List.all_eq_false]
            exact ⟨_, hm, by rw [hf]; simp⟩
          generalize (os.getD n opZ).1 = kd at *
          by_cases b1 : kd = 0
          · have b1b : (kd == 0) = true := by simp [b1]
            have HK : Hid (kindB (os.getD n opZ) = true) := by unfold Hid; rw [HF.out, b1b]; rfl
            subst b1
            clear b1b
            go_wp2
            go_round
            case rel => exact ⟨n + 1, by omega, by go_num, by rw [HS.out, HA.out, HK.out]; rfl⟩
            case measure => simp [intOf]; omega
          · have b1b : (kd == 0) = false := by simp [b1]
            by_cases b2 : kd = 1
            · have b2b : (kd == 1) = true := by simp [b2]
              have HK : Hid (kindB (os.getD n opZ) = true) := by unfold Hid; rw [HF.out, b1b, b2b]; rfl
              subst b2
              clear b1 b1b b2b
              go_wp2
              go_round
              case rel => exact ⟨n + 1, by omega, by go_num, by rw [HS.out, HA.out, HK.out]; rfl⟩
              case measure => simp [intOf]; omega
            · have b2b : (kd == 1) = false := by simp [b2]
              have HK : Hid (os.all kindB = false) := HN.out (by rw [HF.out, b1b, b2b]; rfl)
              have b1c : (kd != 0) = true := by simp [b1]
              have b2c : (kd != 1) = true := by simp [b2]
              go_wp2
              go_ret
              refine ⟨_, _, _, rfl, ?_, HB.out⟩
              rw [HP.out, HR.out, HK.out]; exact opsAt_nil _
        · have HK : Hid (os.all kindB = true) := by have := HA.out; rw [List.take_of_length_le (by rw [HL.out]; omega)] at this; exact this
          go_wp2
          go_ret
          refine ⟨_, _, _, rfl, ?_, HB.out⟩
          rw [HP.out, HR.out, HK.out]; exact HO0.out
  · have HR : Hid (progK x i = []) := by
      unfold Hid progK
      have : x.progs.getD i [] = [] := by rw [List.getD_eq_getElem?_getD, List.getElem?_eq_none (by omega)]; rfl
      rw [this]; rfl
    clear h k0 hb0
    go_enter Tryz.func27, Tryz.ntmps27
    go_wp2
    go_ret
    refine ⟨_, _, _, rfl, ?_, HB.out⟩
    rw [HR.out]; exact opsAt_nil _
end Go.Proofs.YtcmcfafhllpojaaGreat
