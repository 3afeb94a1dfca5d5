/-
  KeepR, KaseA, KaseB
-/
import Derived.Test.YtcmcfafhllpojabGreatClPackJ
import Derived.Test.YtcmcfafhllpojabGreatClPackA
import Derived.Deep.QuietTactic
import Derived.BigQuiet
import Derived.Test.YtcmcfafhllpojabGreatClPackL
namespace Go.Proofs.YtcmcfafhllpojabGreat
open Go.RowKit

set_option maxRecDepth 100000 in
theorem kright_any (c : Cf) (s : Sl) (w : World) (h : CfgAt w c s) :
    Calls Tryz.prog 21 #[cfgV c s] w fun e w' => e = .returned (.bool (chk c == 0)) ∧ Below w.heap.size w w' := by
  have k0 := Kept.start w (cfgA c s) 29
  go_enter Tryz.func21, Tryz.ntmps21
  go_wp2_with fail
  refine (rcheck_any c s _ (h.below k0.below (Nat.le_refl _))).mono ?_; rintro e w1 ⟨rfl, hb1⟩; have k1 := k0.next hb1 rfl
  go_wp2
  go_ret
  exact ⟨rfl, k1.below⟩
end Go.Proofs.YtcmcfafhllpojabGreat

namespace Go.Proofs.YtcmcfafhllpojabGreat
open Go.RowKit

/-- A case's data. -/
structure Cs where
  c : Cf
  progs : List (List OpT)
  own : List OpT
  com : List OpT
  runs : List Int

/-- The slices of a case's value. -/
structure Cl where
  s : Sl
  pa : Option Addr
  pl : Nat
  pc : Nat
  oa : Option Addr
  ol : Nat
  oc : Nat
  ma : Option Addr
  ml : Nat
  mc : Nat
  ra : Option Addr
  rl : Nat
  rc : Nat

abbrev csA (x : Cs) (l : Cl) : Array Value := #[.int .i64 x.c.cores, .int .i64 x.c.domains, .int .i64 x.c.line, .int .i64 x.c.priv, .int .i64 x.c.shared, .int .i64 x.c.near, .int .i64 x.c.sets, .slice l.s.wa l.s.wl l.s.wc, .int .i64 x.c.slot, .slice l.s.sa l.s.sl l.s.sc, .slice l.s.ta l.s.tl l.s.tc, .int .i64 x.c.quantum, .int .i64 x.c.flush, .slice l.pa l.pl l.pc, .slice l.oa l.ol l.oc, .slice l.ma l.ml l.mc, .slice l.ra l.rl l.rc]
abbrev csL (x : Cs) (l : Cl) : List Value := [.int .i64 x.c.cores, .int .i64 x.c.domains, .int .i64 x.c.line, .int .i64 x.c.priv, .int .i64 x.c.shared, .int .i64 x.c.near, .int .i64 x.c.sets, .slice l.s.wa l.s.wl l.s.wc, .int .i64 x.c.slot, .slice l.s.sa l.s.sl l.s.sc, .slice l.s.ta l.s.tl l.s.tc, .int .i64 x.c.quantum, .int .i64 x.c.flush, .slice l.pa l.pl l.pc, .slice l.oa l.ol l.oc, .slice l.ma l.ml l.mc, .slice l.ra l.rl l.rc]
abbrev csV (x : Cs) (l : Cl) : Value := .agg (csA x l)

/-- A slice of slices of operations. -/
structure OpsGrid (w : World) (sa : Option Addr) (len cap : Nat) (xss : List (List OpT)) : Prop where
  hlen : xss.length = len
  hle : len ≤ cap
  hmax : cap ≤ maxLen
  hat : ∀ i, i < len → ∃ b off ia il ic, sa = some ⟨b, off, none⟩ ∧ w.cell? ⟨b, off + i, none⟩ = some (.slice ia il ic) ∧ OpsAt w ia il ic (xss.getD i [])

theorem OpsGrid.below {w w' : World} {sa : Option Addr} {len cap n : Nat} {xs : List (List OpT)} (h : OpsGrid w sa len cap xs) (hb : Below n w w') (hn : w.heap.size ≤ n) : OpsGrid w' sa len cap xs :=
  ⟨h.hlen, h.hle, h.hmax, fun i hi => by
    obtain ⟨b, off, ia, il, ic, h1, h2, h3⟩ := h.hat i hi
    have := cell_lt h2
    exact ⟨b, off, ia, il, ic, h1, by rw [hb.cell (p := ⟨b, off + i, none⟩) (by simp at this ⊢; omega)]; exact h2, h3.below hb hn⟩⟩

structure CaseAt (w : World) (x : Cs) (l : Cl) : Prop where
  cfg : CfgAt w x.c l.s
  progs : OpsGrid w l.pa l.pl l.pc x.progs
  own : OpsAt w l.oa l.ol l.oc x.own
  com : OpsAt w l.ma l.ml l.mc x.com
  runs : Ints w l.ra l.rl l.rc x.runs

theorem CaseAt.below {w w' : World} {x : Cs} {l : Cl} {n : Nat} (h : CaseAt w x l) (hb : Below n w w') (hn : w.heap.size ≤ n) : CaseAt w' x l :=
  ⟨h.cfg.below hb hn, h.progs.below hb hn, h.own.below hb hn, h.com.below hb hn, h.runs.below hb hn⟩

/-- A domain's program at a core. -/
def progK (x : Cs) (i : Nat) : List OpT := if opsOk (x.progs.getD i []) = true then x.progs.getD i [] else []

theorem opsAt_nil (w : World) : OpsAt w none 0 0 [] := ⟨rfl, Nat.le_refl _, Nat.zero_le _, fun i hi => absurd hi (Nat.not_lt_zero i)⟩

set_option maxRecDepth 100000 in
set_option maxHeartbeats 3200000 in
theorem kprogram_any (x : Cs) (l : Cl) (d k nc : Nat) (w : World) (h : CaseAt w x l) (hn : (nc : Int) = x.c.cores) (hc : nc ≤ 3) (hd : d ≤ 4) (hk : k ≤ 3) :
    Calls Tryz.prog 22 #[csV x l, .int .i64 d, .int .i64 k] w fun e w' => ∃ sa len cap, e = .returned (.slice sa len cap) ∧ OpsAt w' sa len cap (progK x (d * nc + k)) ∧ Below w.heap.size w w' := by
  obtain ⟨s, pa, pl, pc, oa, ol, oc, ma, ml, mc, ra, rl, rc⟩ := l
  have k0 := Kept.start w (csA x ⟨s, pa, pl, pc, oa, ol, oc, ma, ml, mc, ra, rl, rc⟩) 33
  have hmul : (d : Int) * (nc : Int) = ((d * nc : Nat) : Int) := by simp
  have hb1 : d * nc ≤ 12 := by have := Nat.mul_le_mul hd hc; omega
  have HB : Hid (Below w.heap.size w (w.alloc (.cells (csA x ⟨s, pa, pl, pc, oa, ol, oc, ma, ml, mc, ra, rl, rc⟩) 33))) := k0.below
  have c0 : (w.alloc (.cells (csA x ⟨s, pa, pl, pc, oa, ol, oc, ma, ml, mc, ra, rl, rc⟩) 33)).cell? ⟨w.heap.size, 0, none⟩ = some (.int .i64 nc) := by rw [hn]; exact k0.box 0
  have c13 : (w.alloc (.cells (csA x ⟨s, pa, pl, pc, oa, ol, oc, ma, ml, mc, ra, rl, rc⟩) 33)).cell? ⟨w.heap.size, 13, none⟩ = some (.slice pa pl pc) := k0.box 13
  have hpl := h.progs.hlen
  have hple := h.progs.hle
  have hpm := h.progs.hmax
  simp only at hpl hple hpm
  unfold maxLen at hpm
  obtain ⟨q, hq⟩ : ∃ q, d * nc = q := ⟨_, rfl⟩
  rw [hq] at hmul hb1 ⊢
  have HN : Hid _ := hn
  clear hq hn
  obtain ⟨i, hi⟩ : ∃ i, q + k = i := ⟨_, rfl⟩
  rw [hi]
  have hsum : (q : Int) + (k : Int) = (i : Int) := by omega
  have HI : Hid _ := hi
  have hi15 : i ≤ 15 := by omega
  clear hi
  by_cases a1 : i < pl
  · obtain ⟨b, off, ia, il, ic, e1, e2, e3⟩ := h.progs.hat i a1
    simp only at e1
    subst e1
    have HBD : b < w.heap.size := cell_lt e2
    have hO : OpsAt (w.alloc (.cells (csA x ⟨s, some ⟨b, off, none⟩, pl, pc, oa, ol, oc, ma, ml, mc, ra, rl, rc⟩) 33)) ia il ic (x.progs.getD i []) := e3.below k0.below (Nat.le_refl _)
    have cp : (w.alloc (.cells (csA x ⟨s, some ⟨b, off, none⟩, pl, pc, oa, ol, oc, ma, ml, mc, ra, rl, rc⟩) 33)).cell? ⟨b, off + i, none⟩ = some (.slice ia il ic) := by rw [k0.below.cell (p := ⟨b, off + i, none⟩) HBD]; exact e2
    have HP : Hid (progK x i = if opsOk (x.progs.getD i []) = true then x.progs.getD i [] else []) := rfl
    obtain ⟨os, hos⟩ : ∃ os, x.progs.getD i [] = os := ⟨_, rfl⟩
    rw [hos] at hO HP
    clear hos e3 e2 k0 h HBD
    have hil := hO.hlen
    have hile := hO.hle
    have hilm := hO.hmax
    unfold maxLen at hilm
    by_cases a2 : 64 < il
    · have HR : Hid (progK x i = []) := by
        unfold Hid; rw [HP.out, if_neg]; unfold opsOk; simp; omega
      clear hO
      go_enter Tryz.func22, Tryz.ntmps22
      go_wp2
      go_ret
      refine ⟨_, _, _, rfl, ?_, HB.out⟩
      rw [HR.out]; exact opsAt_nil _
    · have HR : Hid (opsOk os = os.all kindB) := by unfold Hid opsOk; rw [decide_eq_true (by omega)]; rfl
      have HL : Hid _ := hil
      clear hil
      go_enter Tryz.func22, Tryz.ntmps22
      go_wp2_with fail
      generalize hW : w.alloc (.cells (csA x ⟨s, some ⟨b, off, none⟩, pl, pc, oa, ol, oc, ma, ml, mc, ra, rl, rc⟩) 33) = W at *
      clear hW
      go_loop [9] (fun u => ∃ i : Nat, i ≤ il ∧ u = .int .i64 i ∧ (os.take i).all kindB = true) (fun u => il - (intOf u).toNat)
      case atStart => exact ⟨0, by omega, rfl, by simp⟩
      case round =>
        obtain ⟨n, hi, rfl, hall⟩ := hrel
        have HA : Hid _ := hall
        clear hall
        by_cases hlt : n < il
        · obtain ⟨b, off, rfl, e1, _, _⟩ := hO.hat n hlt
          have HS : Hid _ := all_take (os := os) (i := n) (by rw [HL.out]; exact hlt)
          have HF : Hid (kindB (os.getD n opZ) = ((os.getD n opZ).1 == 0 || (os.getD n opZ).1 == 1)) := rfl
          have HN : Hid (kindB (os.getD n opZ) = false → os.all kindB = false) := fun hf => by
            have hm : os.getD n opZ ∈ os := by rw [List.getD_eq_getElem?_getD, List.getElem?_eq_getElem (by rw [HL.out]; exact hlt)]; exact List.getElem_mem _
            rw [List.all_eq_false]
            exact ⟨_, hm, by rw [hf]; simp⟩
          generalize (os.getD n opZ).1 = kd at *
          by_cases b1 : kd = 0
          · have b1b : (kd == 0) = true := by simp [b1]
            have HK : Hid (kindB (os.getD n opZ) = true) := by unfold Hid; rw [HF.out, b1b]; rfl
            subst b1
            clear b1b
            go_wp2
            go_round
            case rel => exact ⟨n + 1, by omega, by go_num, by rw [HS.out, HA.out, HK.out]; rfl⟩
            case measure => simp [intOf]; omega
          · have b1b : (kd == 0) = false := by simp [b1]
            by_cases b2 : kd = 1
            · have b2b : (kd == 1) = true := by simp [b2]
              have HK : Hid (kindB (os.getD n opZ) = true) := by unfold Hid; rw [HF.out, b1b, b2b]; rfl
              subst b2
              clear b1 b1b b2b
              go_wp2
              go_round
              case rel => exact ⟨n + 1, by omega, by go_num, by rw [HS.out, HA.out, HK.out]; rfl⟩
              case measure => simp [intOf]; omega
            · have b2b : (kd == 1) = false := by simp [b2]
              have HK : Hid (os.all kindB = false) := HN.out (by rw [HF.out, b1b, b2b]; rfl)
              have b1c : (kd != 0) = true := by simp [b1]
              have b2c : (kd != 1) = true := by simp [b2]
              go_wp2
              go_ret
              refine ⟨_, _, _, rfl, ?_, HB.out⟩
              rw [HP.out, HR.out, HK.out]; exact opsAt_nil _
        · have HK : Hid (os.all kindB = true) := by have := HA.out; rw [List.take_of_length_le (by rw [HL.out]; omega)] at this; exact this
          go_wp2
          go_ret
          refine ⟨_, _, _, rfl, ?_, HB.out⟩
          rw [HP.out, HR.out, HK.out]; exact hO
  · have HR : Hid (progK x i = []) := by
      unfold Hid progK
      have : x.progs.getD i [] = [] := by rw [List.getD_eq_getElem?_getD, List.getElem?_eq_none (by omega)]; rfl
      rw [this]; rfl
    clear h k0
    go_enter Tryz.func22, Tryz.ntmps22
    go_wp2
    go_ret
    refine ⟨_, _, _, rfl, ?_, HB.out⟩
    rw [HR.out]; exact opsAt_nil _
end Go.Proofs.YtcmcfafhllpojabGreat

namespace Go.Proofs.YtcmcfafhllpojabGreat
open Go.RowKit

def evZ : Ev := ⟨0, 0, 0, 0, 0, 0⟩
/-- A slice value that reads as these events. -/
structure EvsAt (w : World) (sa : Option Addr) (len cap : Nat) (es : List Ev) : Prop where
  hlen : es.length = len
  hle : len ≤ cap
  hmax : cap ≤ maxLen
  hat : ∀ i, i < len → ∃ b off, sa = some ⟨b, off, none⟩ ∧ w.cell? ⟨b, off + i * 6, none⟩ = some (.int .i64 (es.getD i evZ).core) ∧ w.cell? ⟨b, off + i * 6 + 1, none⟩ = some (.int .i64 (es.getD i evZ).index) ∧ w.cell? ⟨b, off + i * 6 + 2, none⟩ = some (.int .i64 (es.getD i evZ).value) ∧ w.cell? ⟨b, off + i * 6 + 3, none⟩ = some (.int .i64 (es.getD i evZ).fault) ∧ w.cell? ⟨b, off + i * 6 + 4, none⟩ = some (.int .i64 (es.getD i evZ).issue) ∧ w.cell? ⟨b, off + i * 6 + 5, none⟩ = some (.int .i64 (es.getD i evZ).done)

theorem EvsAt.below {w w' : World} {sa : Option Addr} {len cap n : Nat} {es : List Ev} (h : EvsAt w sa len cap es) (hb : Below n w w') (hn : w.heap.size ≤ n) : EvsAt w' sa len cap es :=
  ⟨h.hlen, h.hle, h.hmax, fun i hi => by
    obtain ⟨b, off, h1, h2, h3, h4, h5, h6, h7⟩ := h.hat i hi
    have hl : b < n := Nat.lt_of_lt_of_le (cell_lt h2) hn
    exact ⟨b, off, h1, (hb.cell (p := ⟨b, off + i * 6, none⟩) hl).trans h2, (hb.cell (p := ⟨b, off + i * 6 + 1, none⟩) hl).trans h3, (hb.cell (p := ⟨b, off + i * 6 + 2, none⟩) hl).trans h4, (hb.cell (p := ⟨b, off + i * 6 + 3, none⟩) hl).trans h5, (hb.cell (p := ⟨b, off + i * 6 + 4, none⟩) hl).trans h6, (hb.cell (p := ⟨b, off + i * 6 + 5, none⟩) hl).trans h7⟩⟩

/-- How many of the events are a core's. -/
def atK (es : List Ev) (k : Int) : Nat := (es.filter fun e => e.core == k).length

theorem at_take {es : List Ev} {k : Int} {i : Nat} (hi : i < es.length) : atK (es.take (i + 1)) k = atK (es.take i) k + (if (es.getD i evZ).core == k then 1 else 0) := by
  unfold atK
  rw [List.take_add_one, List.filter_append, List.length_append, List.getElem?_eq_getElem hi, List.getD_eq_getElem?_getD, List.getElem?_eq_getElem hi]
  simp only [Option.toList_some, Option.getD_some, List.filter_cons, List.filter_nil]
  split <;> simp_all
theorem at_le (es : List Ev) (k : Int) : atK es k ≤ es.length := List.length_filter_le _ _

set_option maxRecDepth 100000 in
set_option maxHeartbeats 1600000 in
theorem kat_any (sa : Option Addr) (len cap : Nat) (es : List Ev) (k : Int) (w : World) (h : EvsAt w sa len cap es) (hl5 : len ≤ 100000) :
    Calls Tryz.prog 38 #[.slice sa len cap, .int .i64 k] w fun e w' => e = .returned (.int .i64 (atK es k)) ∧ w' = w := by
  have HL : Hid _ := h.hlen
  have hm := h.hmax
  have hle := h.hle
  unfold maxLen at hm
  go_enter Tryz.func38, Tryz.ntmps38
  go_wp2_with fail
  go_loop [5, 6] (fun u v => ∃ i : Nat, i ≤ len ∧ v = .int .i64 i ∧ u = .int .i64 (atK (es.take i) k)) (fun _ v => len - (intOf v).toNat)
  case atStart => exact ⟨0, by omega, rfl, rfl⟩
  case round =>
    obtain ⟨i, hi, rfl, rfl⟩ := hrel
    have hb : atK (es.take i) k ≤ len := Nat.le_trans (at_le _ _) (by rw [List.length_take, HL.out]; omega)
    by_cases hlt : i < len
    · obtain ⟨b, off, rfl, e1, _⟩ := h.hat i hlt
      have HS : Hid _ := at_take (es := es) (k := k) (i := i) (by rw [HL.out]; exact hlt)
      generalize (es.getD i evZ).core = cc at *
      generalize atK (es.take i) k = q at *
      by_cases b1 : cc = k
      · have HQ : Hid (atK (es.take (i + 1)) k = q + 1) := by unfold Hid; rw [HS.out]; simp [b1]
        subst b1
        clear HS
        go_wp2
        go_round
        case rel => exact ⟨i + 1, by omega, by go_num, by rw [HQ.out]; go_num⟩
        case measure => simp [intOf]; omega
      · have b1b : (cc == k) = false := by simp [b1]
        have HQ : Hid (atK (es.take (i + 1)) k = q) := by unfold Hid; rw [HS.out, b1b]; simp
        clear HS
        go_wp2
        go_round
        case rel => exact ⟨i + 1, by omega, by go_num, by rw [HQ.out]⟩
        case measure => simp [intOf]; omega
    · have HK : Hid (atK (es.take i) k = atK es k) := by unfold Hid; rw [List.take_of_length_le (by rw [HL.out]; omega)]
      go_wp2
      go_ret
      exact ⟨ret_int (by rw [HK.out]), rfl⟩

set_option maxRecDepth 100000 in
set_option maxHeartbeats 1600000 in
theorem kstands_any (sa : Option Addr) (len cap : Nat) (xs : List Int) (d : Int) (w : World) (h : Ints w sa len cap xs) :
    Calls Tryz.prog 69 #[.slice sa len cap, .int .i64 d] w fun e w' => e = .returned (.bool (decide (d ∈ xs))) ∧ w' = w := by
  have HL : Hid _ := h.hlen
  have hm := h.hmax
  have hle := h.hle
  unfold maxLen at hm
  go_enter Tryz.func69, Tryz.ntmps69
  go_wp2_with fail
  go_loop [5] (fun v => ∃ i : Nat, i ≤ len ∧ v = .int .i64 i ∧ d ∉ xs.take i) (fun v => len - (intOf v).toNat)
  case atStart => exact ⟨0, by omega, rfl, by simp⟩
  case round =>
    obtain ⟨i, hi, rfl, hno⟩ := hrel
    have HNO : Hid _ := hno
    clear hno
    by_cases hlt : i < len
    · obtain ⟨b, off, rfl, e1⟩ := h.hat i hlt
      have HM : Hid (xs.getD i 0 ∈ xs) := by
        unfold Hid; rw [List.getD_eq_getElem?_getD, List.getElem?_eq_getElem (by rw [HL.out]; exact hlt)]; exact List.getElem_mem _
      have HT : Hid (xs.take (i + 1) = xs.take i ++ [xs.getD i 0]) := by
        unfold Hid; rw [List.take_add_one, List.getElem?_eq_getElem (by rw [HL.out]; exact hlt), List.getD_eq_getElem?_getD, List.getElem?_eq_getElem (by rw [HL.out]; exact hlt)]; rfl
      generalize xs.getD i 0 = v at *
      by_cases b1 : v = d
      · have HQ : Hid (decide (d ∈ xs) = true) := by unfold Hid; rw [← b1]; simp [HM.out]
        subst b1
        go_wp2
        go_ret
        exact ⟨ret_bool HQ.out.symm, rfl⟩
      · have b1b : (v == d) = false := by simp [b1]
        go_wp2
        go_round
        case rel => exact ⟨i + 1, by omega, by go_num, by
          rw [HT.out]
          have := HNO.out
          simp only [List.mem_append, List.mem_singleton, not_or]
          exact ⟨this, fun q => b1 q.symm⟩⟩
        case measure => simp [intOf]; omega
    · have HK : Hid (decide (d ∈ xs) = false) := by
        have h2 : d ∉ xs.take i := HNO.out
        rw [List.take_of_length_le (by rw [HL.out]; omega)] at h2
        exact decide_eq_false h2
      go_wp2
      go_ret
      exact ⟨ret_bool HK.out.symm, rfl⟩

set_option maxRecDepth 100000 in
set_option maxHeartbeats 1600000 in
theorem kworst_any (c : Cf) (s : Sl) (w : World) (h : CfgAt w c s) (R : Right c) :
    Calls Tryz.prog 70 #[cfgV c s] w fun e w' => e = .returned (.int .i64 (worstZ c)) ∧ Below w.heap.size w w' := by
  have k0 := Kept.start w (cfgA c s) 29
  have hlen := h.slots.hlen
  have HZ : Hid (worstZ c = 3 * c.cores * (s.sl : Int) * c.slot) := by unfold Hid worstZ; rw [hlen]
  have l2 := R.t2
  have l1 := R.t1
  rw [hlen] at l1 l2
  have c1 := R.c1
  have c2 := R.c2
  have s1 := R.s1
  have s2 := R.s2
  have b1 : 0 ≤ 3 * c.cores * (s.sl : Int) := Int.mul_nonneg (by omega) (by omega)
  have b2 : 3 * c.cores * (s.sl : Int) ≤ 9 * 8 := Int.mul_le_mul (by omega) (by omega) (by omega) (by omega)
  have b3 : 0 ≤ 3 * c.cores * (s.sl : Int) * c.slot := Int.mul_nonneg b1 (by omega)
  have b4 : 3 * c.cores * (s.sl : Int) * c.slot ≤ 72 * 4 := Int.mul_le_mul b2 (by omega) (by omega) (by omega)
  have HB : Hid _ := k0.below
  have x0 : (w.alloc (.cells (cfgA c s) 29)).cell? ⟨w.heap.size, 0, none⟩ = some (.int .i64 c.cores) := k0.box 0
  have x8 : (w.alloc (.cells (cfgA c s) 29)).cell? ⟨w.heap.size, 8, none⟩ = some (.int .i64 c.slot) := k0.box 8
  have x9 : (w.alloc (.cells (cfgA c s) 29)).cell? ⟨w.heap.size, 9, none⟩ = some (.slice s.sa s.sl s.sc) := k0.box 9
  clear h R hlen k0
  go_enter Tryz.func70, Tryz.ntmps70
  go_wp2
  go_ret
  exact ⟨ret_int (by rw [HZ.out]), HB.out⟩
end Go.Proofs.YtcmcfafhllpojabGreat
