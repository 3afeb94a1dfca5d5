/-
  MachK, MachL
-/
import Derived.Test.YtehheaedbnfidaaGreatClPackAX
namespace Go.Proofs.YtehheaedbnfidaaGreat
open Go.RowKit

theorem MachM.cn {w : World} {N : Cn} {X : XLoc} {m : Mh} (h : MachM w N X m) : CnOk N := ⟨h.nok, h.right⟩
theorem CnOk.turns {N : Cn} (h : CnOk N) : ∀ k, k < N.nc → ∀ t, openB N.c k (turnZ N.c k t) t = true → 0 ≤ turnZ N.c k t ∧ turnZ N.c k t < N.c.domains := fun k hk t ho => turn_range h.right (by have := h.nums; omega) ho

theorem MhOk.cycle {N : Cn} {m : Mh} (h : MhOk N m) (hN : CnOk N) (h0 : 0 ≤ m.now) : MhOk N (m.cycle N) ∧ (m.cycle N).now = m.now := by
  have key : ∀ m0 : Mh, MhOk N m0 → m0.now = m.now → MhOk N (Mh.steps N (m0.service N).2 N.nc (m0.service N).1) ∧ (Mh.steps N (m0.service N).2 N.nc (m0.service N).1).now = m.now := fun m0 hm hn => by
    have h1 := hm.service hN (servedF_range hN.right)
    have h2 := service_now N m0
    have h3 := MhOk.steps hN hN.turns (m0.service N).2 N.nc (m0.service N).1 h1 (by rw [h2, hn]; exact h0) (Nat.le_refl _)
    exact ⟨h3.1, h3.2.trans (h2.trans hn)⟩
  unfold Mh.cycle
  dsimp only
  split
  · exact key _ (h.nrs _) rfl
  · exact key _ h rfl

set_option maxRecDepth 100000 in
set_option maxHeartbeats 6400000 in
theorem kcycle_any (N : Cn) (X : XLoc) (m : Mh) (w : World) (h : MachM w N X m) (ok : MhOk N m) :
    Calls Tryz.prog 135 #[.pointer (some ⟨X.g, 0, none⟩)] w fun e w' => e = .returned (.tuple #[]) ∧ ∃ X', MachM w' N X' (m.cycle N) ∧ Goes w w' X X' := by
  have hN := h.cn
  have c0 : w.cell? ⟨X.g, 0, none⟩ = some (.int .i64 N.c.cores) := by rw [h.row.cell]; rfl
  have c1 : w.cell? ⟨X.g, 1, none⟩ = some (.int .i64 N.c.domains) := by rw [h.row.cell]; rfl
  have c2 : w.cell? ⟨X.g, 2, none⟩ = some (.int .i64 N.c.line) := by rw [h.row.cell]; rfl
  have c3 : w.cell? ⟨X.g, 3, none⟩ = some (.int .i64 N.c.priv) := by rw [h.row.cell]; rfl
  have c4 : w.cell? ⟨X.g, 4, none⟩ = some (.int .i64 N.c.shared) := by rw [h.row.cell]; rfl
  have c5 : w.cell? ⟨X.g, 5, none⟩ = some (.int .i64 N.c.near) := by rw [h.row.cell]; rfl
  have c6 : w.cell? ⟨X.g, 6, none⟩ = some (.int .i64 N.c.sets) := by rw [h.row.cell]; rfl
  have c7 : w.cell? ⟨X.g, 7, none⟩ = some (.slice X.s.wa X.s.wl X.s.wc) := by rw [h.row.cell]; rfl
  have c8 : w.cell? ⟨X.g, 8, none⟩ = some (.int .i64 N.c.slot) := by rw [h.row.cell]; rfl
  have c9 : w.cell? ⟨X.g, 9, none⟩ = some (.slice X.s.sa X.s.sl X.s.sc) := by rw [h.row.cell]; rfl
  have c10 : w.cell? ⟨X.g, 10, none⟩ = some (.slice X.s.ta X.s.tl X.s.tc) := by rw [h.row.cell]; rfl
  have c11 : w.cell? ⟨X.g, 11, none⟩ = some (.int .i64 N.c.quantum) := by rw [h.row.cell]; rfl
  have c12 : w.cell? ⟨X.g, 12, none⟩ = some (.int .i64 N.c.flush) := by rw [h.row.cell]; rfl
  have c13 : w.cell? ⟨X.g, 13, none⟩ = some (.int .i64 m.now) := by rw [h.row.cell]; rfl
  have hS : Calls Tryz.prog 143 #[cfgV N.c X.s, .int .i64 m.now] w.drew fun e w' => e = .returned (.bool (flushesB N.c m.now)) ∧ Below w.drew.heap.size w.drew w' := cflushes_any N.c X.s m.now _ h.right h.now0 h.now1
  obtain ⟨m0, hm0⟩ : ∃ m0, m0 = if flushesB N.c m.now = true then { m with nr := fun _ _ => cpE } else m := ⟨_, rfl⟩
  have HCY : Hid (m.cycle N = Mh.steps N (m0.service N).2 N.nc (m0.service N).1) := by unfold Hid Mh.cycle; rw [hm0]
  have ok0 : MhOk N m0 := by rw [hm0]; split; exact ok.nrs _; exact ok
  have hn0 : m0.now = m.now := by rw [hm0]; split <;> rfl
  have HM0 : Hid _ := hm0
  have HOK0 : Hid _ := ok0
  have HN0 : Hid _ := hn0
  have HM : Hid _ := h
  have hnow0 := h.now0
  have HNC : Hid (N.nc ≤ 3) := by have := h.nums; unfold Hid; omega
  clear h ok hm0 ok0 hn0
  go_enter Tryz.func135, Tryz.ntmps135
  go_wp2_with fail
  go_cut [12] (fun u wx => u = .bool (flushesB N.c m.now) ∧ Below w.heap.size w wx)
  case first =>
    go_region_with (go_at_call 143; refine hS.mono ?_; rintro e w1 ⟨rfl, hb1⟩)
    all_goals go_wp2_with fail
    all_goals go_meet
    all_goals exact ⟨rfl, (Below.refl w.heap.size w).drew.trans hb1⟩
  case rest =>
    obtain ⟨rfl, hb1⟩ := hcut
    have M1 := HM.out.below hb1 (Nat.le_refl _)
    clear c0 c1 c2 c3 c4 c5 c6 c7 c8 c9 c10 c11 c12 c13 hS
    have c17 : wc.cell? ⟨X.g, 17, none⟩ = some (.slice (some ⟨X.n.r, 0, none⟩) N.nc X.n.rc) := by rw [M1.row.cell]; rfl
    have hE := nEmpty_any N.nc N.nn X.n m.nr X.g 17 wc M1.near c17 M1.labs.noNear
    -- what follows the flush
    have HT : Hid (∀ (wa : World), MachM wa N X m0 → Goes w wa X X → Calls Tryz.prog 145 #[.pointer (some ⟨X.g, 0, none⟩)] wa fun e w' => e = .returned (.int .i64 (m0.service N).2) ∧ ∃ X', MachM w' N X' (m0.service N).1 ∧ Goes w w' X X') := fun wa hM hG =>
      (kserve_any N X m0 wa hM HOK0.out).mono (by rintro e w' ⟨rfl, X', h1, h2⟩; exact ⟨rfl, X', h1, hG.trans h2⟩)
    have hMs := HOK0.out.service hN (servedF_range hN.right)
    have hNs := service_now N m0
    have HMS : Hid _ := hMs
    have HNS : Hid (0 ≤ (m0.service N).1.now) := by unfold Hid; rw [hNs, HN0.out]; exact hnow0
    clear hMs hNs
    obtain ⟨sv, hsv⟩ : ∃ sv, (m0.service N).2 = sv := ⟨_, rfl⟩
    obtain ⟨ms, hms⟩ : ∃ ms, (m0.service N).1 = ms := ⟨_, rfl⟩
    rw [hsv, hms] at HT HCY
    rw [hms] at HMS HNS
    clear hsv hms
    have HST : Hid (∀ (wa : World) (X1 : XLoc) (j : Nat), j < N.nc → MachM wa N X1 (Mh.steps N sv j ms) → Goes w wa X X1 → Calls Tryz.prog 146 #[.pointer (some ⟨X.g, 0, none⟩), .int .i64 j, .int .i64 sv] wa fun e w' => e = .returned (.tuple #[]) ∧ ∃ X', MachM w' N X' (Mh.steps N sv (j + 1) ms) ∧ Goes w w' X X') := fun wa X1 j hj hM hG => by
      have hk := MhOk.steps hN hN.turns sv j ms HMS.out HNS.out (by omega)
      have := kstep_any N X1 (Mh.steps N sv j ms) j sv wa hM hk.1 hj
      rw [hG.g] at this
      refine this.mono ?_
      rintro e w' ⟨rfl, X', h1, h2⟩
      exact ⟨rfl, X', h1, hG.trans h2⟩
    rcases Bool.eq_false_or_eq_true (flushesB N.c m.now) with hf | hf
    · have hm1 : m0 = { m with nr := fun _ _ => cpE } := by rw [HM0.out, if_pos hf]
      rw [hf]
      have HM1 : Hid _ := hm1
      clear hf hm1
      go_wp2_with fail
      refine hE.mono ?_; rintro e w2 ⟨rfl, hN2, hT2⟩
      have hSv := HT.out w2 (by rw [HM1.out]; exact M1.setNear hN2 hT2) ((Goes.of_below hb1).trans (Goes.of_touch hT2 M1.labs.no))
      clear hE hN2 hT2 M1 c17
      go_wp2_with fail
      refine hSv.mono ?_; rintro e w3 ⟨rfl, X1, h1, h2⟩
      have HH1 : Hid _ := h1
      have HH2 : Hid _ := h2
      clear hSv h1 h2
      go_wp2_with fail
      go_loopw [3] (fun u wr => ∃ j : Nat, j ≤ N.nc ∧ u = .int .i64 j ∧ ∃ X1, MachM wr N X1 (Mh.steps N sv j ms) ∧ Goes w wr X X1) (fun u _ => N.nc - (intOf u).toNat)
      case atStart => exact ⟨0, by omega, rfl, X1, HH1.out, HH2.out⟩
      case round =>
        obtain ⟨j, hj, rfl, X2, hM2, hG2⟩ := hrel
        have c19 : wr.cell? ⟨X.g, 19, none⟩ = some (.slice (some ⟨X2.ck, 0, none⟩) N.nc N.nc) := by rw [← hG2.g, hM2.row.cell]; rfl
        have nc3 := HNC.out
        by_cases hlt : j < N.nc
        · have hS := HST.out wr X2 j hlt hM2 hG2
          clear hM2 hG2
          go_wp2_with fail
          refine hS.mono ?_; rintro e w4 ⟨rfl, X3, h3, h4⟩
          have HH3 : Hid _ := h3
          have HH4 : Hid _ := h4
          clear hS h3 h4 c19
          go_wp2_with fail
          go_roundw
          case rel => first | exact ⟨j + 1, by omega, by go_num, X3, HH3.out, HH4.out⟩ | ((repeat apply Exists.intro); exact ⟨⟨j + 1, by omega, by go_num, X3, HH3.out, HH4.out⟩, rfl⟩)
          case measure => simp [intOf]; omega
        · have ej : j = N.nc := by omega
          subst ej
          have HH3 : Hid _ := hM2
          have HH4 : Hid _ := hG2
          clear hM2 hG2
          go_wp2
          refine bodyPost_end (results_none rfl _ _ _) rfl ?_
          exact ⟨rfl, X2, by rw [HCY.out]; exact HH3.out, HH4.out⟩
    · have hm1 : m0 = m := by rw [HM0.out, if_neg (by rw [hf]; simp)]
      rw [hf]
      have hSv := HT.out wc (by rw [hm1]; exact M1) (Goes.of_below hb1)
      clear hf hm1 hE M1 c17
      go_wp2_with fail
      refine hSv.mono ?_; rintro e w3 ⟨rfl, X1, h1, h2⟩
      have HH1 : Hid _ := h1
      have HH2 : Hid _ := h2
      clear hSv h1 h2
      go_wp2_with fail
      go_loopw [3] (fun u wr => ∃ j : Nat, j ≤ N.nc ∧ u = .int .i64 j ∧ ∃ X1, MachM wr N X1 (Mh.steps N sv j ms) ∧ Goes w wr X X1) (fun u _ => N.nc - (intOf u).toNat)
      case atStart => exact ⟨0, by omega, rfl, X1, HH1.out, HH2.out⟩
      case round =>
        obtain ⟨j, hj, rfl, X2, hM2, hG2⟩ := hrel
        have c19 : wr.cell? ⟨X.g, 19, none⟩ = some (.slice (some ⟨X2.ck, 0, none⟩) N.nc N.nc) := by rw [← hG2.g, hM2.row.cell]; rfl
        have nc3 := HNC.out
        by_cases hlt : j < N.nc
        · have hS := HST.out wr X2 j hlt hM2 hG2
          clear hM2 hG2
          go_wp2_with fail
          refine hS.mono ?_; rintro e w4 ⟨rfl, X3, h3, h4⟩
          have HH3 : Hid _ := h3
          have HH4 : Hid _ := h4
          clear hS h3 h4 c19
          go_wp2_with fail
          go_roundw
          case rel => first | exact ⟨j + 1, by omega, by go_num, X3, HH3.out, HH4.out⟩ | ((repeat apply Exists.intro); exact ⟨⟨j + 1, by omega, by go_num, X3, HH3.out, HH4.out⟩, rfl⟩)
          case measure => simp [intOf]; omega
        · have ej : j = N.nc := by omega
          subst ej
          have HH3 : Hid _ := hM2
          have HH4 : Hid _ := hG2
          clear hM2 hG2
          go_wp2
          refine bodyPost_end (results_none rfl _ _ _) rfl ?_
          exact ⟨rfl, X2, by rw [HCY.out]; exact HH3.out, HH4.out⟩

theorem runs_step (N : Cn) (m : Mh) (n : Nat) : Mh.runs N (n + 1) m = { (Mh.runs N n m).cycle N with now := ((Mh.runs N n m).cycle N).now + 1 } := rfl
theorem MhOk.later {N : Cn} {m : Mh} (h : MhOk N m) : MhOk N { m with now := m.now + 1 } := ⟨h.len, h.kin, h.dn, h.tr, h.bz, h.wt, h.wn, fun k hk => ⟨(h.is k hk).1, Int.le_trans (h.is k hk).2 (by show m.now ≤ m.now + 1; omega)⟩, h.ln, h.mks⟩
theorem MhOk.runs {N : Cn} (hN : CnOk N) {m : Mh} (h : MhOk N m) (h0 : 0 ≤ m.now) : ∀ n, MhOk N (Mh.runs N n m) ∧ (Mh.runs N n m).now = m.now + n
  | 0 => ⟨h, by simp [Mh.runs]⟩
  | n + 1 => by
    obtain ⟨h1, h2⟩ := MhOk.runs hN h h0 n
    obtain ⟨h3, h4⟩ := h1.cycle hN (by rw [h2]; omega)
    rw [runs_step]
    refine ⟨h3.later, ?_⟩
    show ((Mh.runs N n m).cycle N).now + 1 = _
    rw [h4, h2]
    omega

def runME (m : Mh) (n : Int) : Int := if n < 0 then 6 else if 10000 - m.now < n then 9 else 0
def runMM (N : Cn) (m : Mh) (n : Int) : Mh := if runME m n = 0 then Mh.runs N n.toNat m else m

set_option maxRecDepth 100000 in
set_option maxHeartbeats 6400000 in
theorem krun_any (N : Cn) (X : XLoc) (m : Mh) (n : Int) (w : World) (h : MachM w N X m) (ok : MhOk N m) :
    Calls Tryz.prog 101 #[.pointer (some ⟨X.g, 0, none⟩), .int .i64 n] w fun e w' => e = .returned (.int .i64 (runME m n)) ∧ ∃ X', MachM w' N X' (runMM N m n) ∧ Goes w w' X X' := by
  have hN := h.cn
  have n0 := h.now0
  have n1 := h.now1
  have c13 : w.cell? ⟨X.g, 13, none⟩ = some (.int .i64 m.now) := by rw [h.row.cell]; rfl
  by_cases a1 : n < 0
  · have HE : Hid (runME m n = 6) := by unfold Hid runME; rw [if_pos a1]
    have HR : Hid (runMM N m n = m) := by unfold Hid runMM; rw [if_neg (by rw [HE.out]; decide)]
    go_enter Tryz.func101, Tryz.ntmps101
    go_wp2
    go_ret
    exact ⟨ret_int HE.out.symm, X, by rw [HR.out]; exact h, Goes.refl _ _⟩
  by_cases a2 : 10000 - m.now < n
  · have HE : Hid (runME m n = 9) := by unfold Hid runME; rw [if_neg a1, if_pos a2]
    have HR : Hid (runMM N m n = m) := by unfold Hid runMM; rw [if_neg (by rw [HE.out]; decide)]
    go_enter Tryz.func101, Tryz.ntmps101
    go_wp2
    go_ret
    exact ⟨ret_int HE.out.symm, X, by rw [HR.out]; exact h, Goes.refl _ _⟩
  · have HE : Hid (runME m n = 0) := by unfold Hid runME; rw [if_neg a1, if_neg a2]
    obtain ⟨k, rfl⟩ := Int.eq_ofNat_of_zero_le (show 0 ≤ n by omega)
    have HR : Hid (runMM N m k = Mh.runs N k m) := by unfold Hid runMM; rw [if_pos HE.out, Int.toNat_natCast]
    have HM : Hid _ := h
    have HCY : Hid (∀ (wa : World) (X1 : XLoc) (j : Nat), j < k → MachM wa N X1 (Mh.runs N j m) → Goes w wa X X1 → Calls Tryz.prog 135 #[.pointer (some ⟨X.g, 0, none⟩)] wa fun e w' => e = .returned (.tuple #[]) ∧ ∃ X', MachM w' N X' ((Mh.runs N j m).cycle N) ∧ Goes w w' X X') := fun wa X1 j hj hM hG => by
      have hk := MhOk.runs hN ok n0 j
      have := kcycle_any N X1 (Mh.runs N j m) wa hM hk.1
      rw [hG.g] at this
      refine this.mono ?_
      rintro e w' ⟨rfl, X', h1, h2⟩
      exact ⟨rfl, X', h1, hG.trans h2⟩
    have HNW : Hid (∀ j, (Mh.runs N j m).now = m.now + j ∧ ((Mh.runs N j m).cycle N).now = m.now + j) := fun j => by
      have hk := MhOk.runs hN ok n0 j
      exact ⟨hk.2, (hk.1.cycle hN (by rw [hk.2]; omega)).2.trans hk.2⟩
    have k1 : (k : Int) ≤ 10000 := by omega
    have HA2 : Hid _ := a2
    clear h ok
    go_enter Tryz.func101, Tryz.ntmps101
    go_wp2_with fail
    go_loopw [5] (fun u wr => ∃ j : Nat, j ≤ k ∧ u = .int .i64 j ∧ ∃ X1, MachM wr N X1 (Mh.runs N j m) ∧ Goes w wr X X1) (fun u _ => k - (intOf u).toNat)
    case atStart => exact ⟨0, by omega, rfl, X, HM.out, Goes.refl _ _⟩
    case round =>
      obtain ⟨j, hj, rfl, X2, hM2, hG2⟩ := hrel
      by_cases hlt : j < k
      · have hS := HCY.out wr X2 j hlt hM2 hG2
        clear hM2 hG2 c13
        go_wp2_with fail
        refine hS.mono ?_; rintro e w4 ⟨rfl, X3, h3, h4⟩
        have hnn := (HNW.out j).2
        have c13 : w4.cell? ⟨X.g, 13, none⟩ = some (.int .i64 (m.now + j)) := by rw [← h4.g, h3.row.cell, ← hnn]; rfl
        have f13 : w4.frozen? ⟨X.g, 13, none⟩ = false := by rw [← h4.g]; exact h3.row.frozen 13
        have hS3 := h3.setNow (m.now + j + 1) (by omega) (by have := HA2.out; omega)
        have HH3 : Hid (MachM (w4.setCell ⟨X.g, 13, none⟩ (.int .i64 (m.now + j + 1))) N X3 (Mh.runs N (j + 1) m)) := by
          unfold Hid
          rw [← h4.g, runs_step, hnn]
          exact hS3.1
        have HH4 : Hid (Goes w (w4.setCell ⟨X.g, 13, none⟩ (.int .i64 (m.now + j + 1))) X X3) := by
          unfold Hid
          rw [← h4.g]
          exact h4.trans (Goes.of_touch hS3.2 (fun b hb => by subst hb; exact h3.labs.g))
        have hjk : (j : Int) < (k : Int) := by omega
        clear hS h3 h4 hS3 hnn
        go_wp2_with fail
        go_roundw
        case rel => first | exact ⟨j + 1, by omega, by go_num, X3, HH3.out, HH4.out⟩ | ((repeat apply Exists.intro); exact ⟨⟨j + 1, by omega, by go_num, X3, HH3.out, HH4.out⟩, rfl⟩)
        case measure => simp [intOf]; omega
      · have ej : j = k := by omega
        subst ej
        have HH3 : Hid _ := hM2
        have HH4 : Hid _ := hG2
        clear hM2 hG2
        go_wp2
        go_ret
        exact ⟨ret_int HE.out.symm, X2, by rw [HR.out]; exact HH3.out, HH4.out⟩
end Go.Proofs.YtehheaedbnfidaaGreat

namespace Go.Proofs.YtehheaedbnfidaaGreat
open Go.RowKit

def fillME (N : Cn) (m : Mh) (d a : Int) : Int := if d < 0 ∨ N.c.domains ≤ d ∨ a < 0 ∨ N.c.priv ≤ a then 6 else if 0 < m.now then 7 else 0
def fillMM (N : Cn) (m : Mh) (d a v : Int) : Mh := if fillME N m d a = 0 then { m with own := up1 m.own d.toNat (up1 (m.own d.toNat) a.toNat v) } else m
def shareME (N : Cn) (m : Mh) (a : Int) : Int := if a < 0 ∨ N.c.shared ≤ a then 6 else if 0 < m.now then 7 else 0
def shareMM (N : Cn) (m : Mh) (a v : Int) : Mh := if shareME N m a = 0 then { m with sh := up1 m.sh a.toNat v } else m

set_option maxRecDepth 100000 in
set_option maxHeartbeats 1600000 in
theorem kfill_any (N : Cn) (X : XLoc) (m : Mh) (d a v : Int) (w : World) (h : MachM w N X m) :
    Calls Tryz.prog 99 #[.pointer (some ⟨X.g, 0, none⟩), .int .i64 d, .int .i64 a, .int .i64 v] w fun e w' => e = .returned (.int .i64 (fillME N m d a)) ∧ MachM w' N X (fillMM N m d a v) ∧ Goes w w' X X := by
  obtain ⟨n1, n2, n3, n4, n5, n6, n7, n8, n9, n10, n11, n12, n13, n14, n15⟩ := h.nums
  have T0 := h.now0
  have c1 : w.cell? ⟨X.g, 1, none⟩ = some (.int .i64 N.c.domains) := by rw [h.row.cell]; rfl
  have c3 : w.cell? ⟨X.g, 3, none⟩ = some (.int .i64 N.c.priv) := by rw [h.row.cell]; rfl
  have c13 : w.cell? ⟨X.g, 13, none⟩ = some (.int .i64 m.now) := by rw [h.row.cell]; rfl
  have c15 : w.cell? ⟨X.g, 15, none⟩ = some (.slice (some ⟨X.e.r, 0, none⟩) N.nd X.e.rc) := by rw [h.row.cell]; rfl
  by_cases hbad : d < 0 ∨ N.c.domains ≤ d ∨ a < 0 ∨ N.c.priv ≤ a
  · have e1 : fillME N m d a = 6 := by unfold fillME; rw [if_pos hbad]
    have HE : Hid _ := e1
    have HM : Hid (MachM w N X (fillMM N m d a v)) := by unfold Hid fillMM; rw [if_neg (by rw [e1]; decide)]; exact h
    have cases : d < 0 ∨ (0 ≤ d ∧ N.c.domains ≤ d) ∨ (0 ≤ d ∧ d < N.c.domains ∧ a < 0) ∨ (0 ≤ d ∧ d < N.c.domains ∧ 0 ≤ a ∧ N.c.priv ≤ a) := by omega
    clear e1 hbad n1 n2 n3 n4 n5 n6 n7 h
    rcases cases with b1 | ⟨b1, b2⟩ | ⟨b1, b2, b3⟩ | ⟨b1, b2, b3, b4⟩
    all_goals
      go_enter Tryz.func99, Tryz.ntmps99
      go_wp2
      go_ret
      exact ⟨ret_int HE.out.symm, HM.out, Goes.refl _ _⟩
  · have b1 : 0 ≤ d := by omega
    have b2 : d < N.c.domains := by omega
    have b3 : 0 ≤ a := by omega
    have b4 : a < N.c.priv := by omega
    by_cases a3 : 0 < m.now
    · have e1 : fillME N m d a = 7 := by unfold fillME; rw [if_neg hbad, if_pos a3]
      have HE : Hid _ := e1
      have HM : Hid (MachM w N X (fillMM N m d a v)) := by unfold Hid fillMM; rw [if_neg (by rw [e1]; decide)]; exact h
      clear e1 hbad n1 n2 n3 n4 n5 n6 n7 h
      go_enter Tryz.func99, Tryz.ntmps99
      go_wp2
      go_ret
      exact ⟨ret_int HE.out.symm, HM.out, Goes.refl _ _⟩
    · have e1 : fillME N m d a = 0 := by unfold fillME; rw [if_neg hbad, if_neg a3]
      obtain ⟨i, rfl⟩ := Int.eq_ofNat_of_zero_le b1
      obtain ⟨j, rfl⟩ := Int.eq_ofNat_of_zero_le b3
      have hi : i < N.nd := by omega
      have hj : j < N.pv := by omega
      have HE : Hid _ := e1
      have HMM : Hid (fillMM N m i j v = { m with own := up1 m.own i (up1 (m.own i) j v) }) := by unfold Hid fillMM; rw [if_pos e1, Int.toNat_natCast, Int.toNat_natCast]
      have hF := mFill_any N.nd N.pv N.sn X.e m.own m.sh X.g 14 i j v w h.mem c15 hi (by omega)
      rw [if_pos hj] at hF
      have HM : Hid _ := h
      clear e1 hbad n1 n2 n3 n4 n5 n6 n7 h
      go_enter Tryz.func99, Tryz.ntmps99
      go_wp2_with fail
      refine hF.mono ?_; rintro e w1 ⟨rfl, hM1, hT1⟩
      go_wp2
      go_ret
      exact ⟨ret_int HE.out.symm, by rw [HMM.out]; exact HM.out.setMem hM1 hT1, Goes.of_touch hT1 HM.out.labs.eo⟩

set_option maxRecDepth 100000 in
set_option maxHeartbeats 1600000 in
theorem kshare_any (N : Cn) (X : XLoc) (m : Mh) (a v : Int) (w : World) (h : MachM w N X m) :
    Calls Tryz.prog 100 #[.pointer (some ⟨X.g, 0, none⟩), .int .i64 a, .int .i64 v] w fun e w' => e = .returned (.int .i64 (shareME N m a)) ∧ MachM w' N X (shareMM N m a v) ∧ Goes w w' X X := by
  obtain ⟨n1, n2, n3, n4, n5, n6, n7, n8, n9, n10, n11, n12, n13, n14, n15⟩ := h.nums
  have T0 := h.now0
  have c4 : w.cell? ⟨X.g, 4, none⟩ = some (.int .i64 N.c.shared) := by rw [h.row.cell]; rfl
  have c13 : w.cell? ⟨X.g, 13, none⟩ = some (.int .i64 m.now) := by rw [h.row.cell]; rfl
  have c16 : w.cell? ⟨X.g, 16, none⟩ = some (.slice X.e.sa N.sn X.e.sc) := by rw [h.row.cell]; rfl
  by_cases hbad : a < 0 ∨ N.c.shared ≤ a
  · have e1 : shareME N m a = 6 := by unfold shareME; rw [if_pos hbad]
    have HE : Hid _ := e1
    have HM : Hid (MachM w N X (shareMM N m a v)) := by unfold Hid shareMM; rw [if_neg (by rw [e1]; decide)]; exact h
    have cases : a < 0 ∨ (0 ≤ a ∧ N.c.shared ≤ a) := by omega
    clear e1 hbad n1 n2 n3 n4 n5 n6 n7 h
    rcases cases with b1 | ⟨b1, b2⟩
    all_goals
      go_enter Tryz.func100, Tryz.ntmps100
      go_wp2
      go_ret
      exact ⟨ret_int HE.out.symm, HM.out, Goes.refl _ _⟩
  · have b3 : 0 ≤ a := by omega
    have b4 : a < N.c.shared := by omega
    by_cases a3 : 0 < m.now
    · have e1 : shareME N m a = 7 := by unfold shareME; rw [if_neg hbad, if_pos a3]
      have HE : Hid _ := e1
      have HM : Hid (MachM w N X (shareMM N m a v)) := by unfold Hid shareMM; rw [if_neg (by rw [e1]; decide)]; exact h
      clear e1 hbad n1 n2 n3 n4 n5 n6 n7 h
      go_enter Tryz.func100, Tryz.ntmps100
      go_wp2
      go_ret
      exact ⟨ret_int HE.out.symm, HM.out, Goes.refl _ _⟩
    · have e1 : shareME N m a = 0 := by unfold shareME; rw [if_neg hbad, if_neg a3]
      obtain ⟨j, rfl⟩ := Int.eq_ofNat_of_zero_le b3
      have hj : j < N.sn := by omega
      have HE : Hid _ := e1
      have HMM : Hid (shareMM N m j v = { m with sh := up1 m.sh j v }) := by unfold Hid shareMM; rw [if_pos e1, Int.toNat_natCast]
      have hF := mShare_any N.nd N.pv N.sn X.e m.own m.sh X.g 14 j v w h.mem c16 hj
      have HM : Hid _ := h
      clear e1 hbad n1 n2 n3 n4 n5 n6 n7 h
      go_enter Tryz.func100, Tryz.ntmps100
      go_wp2_with fail
      refine hF.mono ?_; rintro e w1 ⟨rfl, hM1, hT1⟩
      go_wp2
      go_ret
      exact ⟨ret_int HE.out.symm, by rw [HMM.out]; exact HM.out.setMem hM1 hT1, Goes.of_touch hT1 HM.out.labs.eo⟩

theorem know_any (N : Cn) (X : XLoc) (m : Mh) (w : World) (h : MachM w N X m) :
    Calls Tryz.prog 102 #[.pointer (some ⟨X.g, 0, none⟩)] w fun e w' => e = .returned (.int .i64 m.now) ∧ w' = w := by
  have c13 : w.cell? ⟨X.g, 13, none⟩ = some (.int .i64 m.now) := by rw [h.row.cell]; rfl
  go_enter Tryz.func102, Tryz.ntmps102
  go_wp2
  go_ret
  exact ⟨rfl, rfl⟩
end Go.Proofs.YtehheaedbnfidaaGreat
