/-
  One domain's play in memory; flushed.
-/
import Derived.Test.YtehheaedbnfidaaGreatClPackBG
import Derived.Test.YtehheaedbnfidaaGreatClPackB
import Derived.Deep.QuietTactic
import Derived.BigQuiet
namespace Go.Proofs.YtehheaedbnfidaaGreat
open Go.RowKit

abbrev entL (e : Ent) : List Value := [.int .i64 e.t, .int .i64 e.what, .int .i64 e.core, .int .i64 e.line, .int .i64 e.way, .bool e.st, .bool e.lo, .int .i64 e.addr, .int .i64 e.val]
abbrev evL (e : Ev) : List Value := [.int .i64 e.core, .int .i64 e.index, .int .i64 e.value, .int .i64 e.fault, .int .i64 e.issue, .int .i64 e.done]
def logL (l : List Ent) : List Value := l.flatMap entL
def evsL (l : List Ev) : List Value := l.flatMap evL

/-- Where a play lies. -/
structure SLoc where
  gs : Nat
  gr : Nat
  d : Nat
  la : Option Addr
  ll : Nat
  lc : Nat
  ea : Option Addr
  el : Nat
  ec : Nat
  gn : Nat
  gf : Nat
  gb : Nat
  gh : Nat
  n : Nat
  qa : Option Addr
  ql : Nat
  qc : Nat

abbrev soloL (X : SLoc) : List Value := [.pointer (some ⟨X.gr, 0, none⟩), .int .i64 X.d, .slice X.la X.ll X.lc, .slice X.ea X.el X.ec, .slice (some ⟨X.gn, 0, none⟩) X.n X.n, .slice (some ⟨X.gf, 0, none⟩) X.n X.n, .slice (some ⟨X.gb, 0, none⟩) X.n X.n, .slice (some ⟨X.gh, 0, none⟩) X.n X.n, .slice X.qa X.ql X.qc]

theorem flat_at {α : Type} (f : α → List Value) (k : Nat) (hf : ∀ a, (f a).length = k) : ∀ (l : List α) (i j : Nat), j < k → (l.flatMap f)[i * k + j]? = (l[i]?).bind fun a => (f a)[j]?
  | [], i, j, _ => by simp
  | x :: xs, 0, j, hj => by
    rw [List.flatMap_cons, Nat.zero_mul, Nat.zero_add, List.getElem?_append_left (by rw [hf]; exact hj)]
    simp
  | x :: xs, i + 1, j, hj => by
    rw [List.flatMap_cons, List.getElem?_append_right (by rw [hf, Nat.succ_mul]; omega), hf, show (i + 1) * k + j - k = i * k + j by rw [Nat.succ_mul]; omega, flat_at f k hf xs i j hj]
    simp
theorem flat_len {α : Type} (f : α → List Value) (k : Nat) (hf : ∀ a, (f a).length = k) : ∀ (l : List α), (l.flatMap f).length = l.length * k
  | [] => by simp
  | x :: xs => by rw [List.flatMap_cons, List.length_append, hf, flat_len f k hf xs, List.length_cons, Nat.succ_mul]; omega

/-- A list of what has happened, in memory, the oldest first. -/
structure LogAt (w : World) (la : Option Addr) (ll : Nat) (log : List Ent) : Prop where
  hlen : log.length = ll
  hmax : ll ≤ 100000
  hat : ∀ i, i < ll → ∃ b, la = some ⟨b, 0, none⟩ ∧ b < w.heap.size ∧ ∀ j, j < 9 → w.cell? ⟨b, i * 9 + j, none⟩ = (entL (log.reverse.getD i ⟨0, 0, 0, 0, 0, false, false, 0, 0⟩))[j]?

theorem LogAt.below {w w' : World} {la : Option Addr} {ll n : Nat} {log : List Ent} (h : LogAt w la ll log) (hb : Below n w w') (hn : w.heap.size ≤ n) : LogAt w' la ll log := by
  refine ⟨h.hlen, h.hmax, fun i hi => ?_⟩
  obtain ⟨b, h1, h2, h3⟩ := h.hat i hi
  refine ⟨b, h1, Nat.lt_of_lt_of_le h2 hb.size, fun j hj => ?_⟩
  rw [hb.cell (p := ⟨b, i * 9 + j, none⟩) (by have : (⟨b, i * 9 + j, none⟩ : Addr).block = b := rfl; rw [this]; omega)]
  exact h3 j hj

/-- What reads of a play: its own block and the machine's. -/
structure SoR (w : World) (X : SLoc) (c : Cf) (s : Sl) (L : RLoc) (T : Int) : Prop where
  row : Row w X.gs (soloL X) 126
  mrow : Row w X.gr (machL c s L.gp L.np L.go L.nd L.gc L.ns T) 103
  ok : chk c = 0

theorem SoR.right {w : World} {X : SLoc} {c : Cf} {s : Sl} {L : RLoc} {T : Int} (h : SoR w X c s L T) : Right c := right_of h.ok

theorem SoR.below {w w' : World} {X : SLoc} {c : Cf} {s : Sl} {L : RLoc} {T : Int} {n : Nat} (h : SoR w X c s L T) (hb : Below n w w') (hn : w.heap.size ≤ n) : SoR w' X c s L T :=
  ⟨h.row.below hb (Nat.lt_of_lt_of_le h.row.lt hn), h.mrow.below hb (Nat.lt_of_lt_of_le h.mrow.lt hn), h.ok⟩

set_option maxRecDepth 100000 in
set_option maxHeartbeats 1600000 in
theorem rflushed_any (X : SLoc) (c : Cf) (sl : Sl) (L : RLoc) (T s t : Int) (w : World) (h : SoR w X c sl L T) (s0 : 0 ≤ s) (s1 : s ≤ 100000) :
    Calls Tryz.prog 122 #[.pointer (some ⟨X.gs, 0, none⟩), .int .i64 s, .int .i64 t] w fun e w' => e = .returned (.bool (flushedB c s t)) ∧ Below w.heap.size w w' := by
  have c0 : w.cell? ⟨X.gs, 0, none⟩ = some (.pointer (some ⟨X.gr, 0, none⟩)) := by rw [h.row.cell]; rfl
  have c11 : w.cell? ⟨X.gr, 11, none⟩ = some (.int .i64 c.quantum) := by rw [h.mrow.cell]; rfl
  have c12 : w.cell? ⟨X.gr, 12, none⟩ = some (.int .i64 c.flush) := by rw [h.mrow.cell]; rfl
  have q1 := h.right.q1
  have q2 := h.right.q2
  have w0 := h.right.w0
  have f1 := h.right.f1
  have f2 := h.right.f2
  have y1 : 0 < c.quantum := by omega
  have y0 : ¬ c.quantum = 0 := by omega
  have y2 : 0 ≤ s / c.quantum := Int.ediv_nonneg s0 (by omega)
  have y3 : s / c.quantum ≤ s := Int.ediv_le_self _ s0
  have hd := Int.mul_ediv_add_emod s c.quantum
  have r0 := Int.emod_nonneg s (show c.quantum ≠ 0 by omega)
  have r1 := Int.emod_lt_of_pos s (show 0 < c.quantum by omega)
  rw [Int.mul_comm] at hd
  have hF : flushedB c s t = if t < s / c.quantum * c.quantum + c.quantum - c.flush then false else if s < s / c.quantum * c.quantum + c.quantum - c.flush then true else decide (s / c.quantum * c.quantum + c.quantum - c.flush + c.quantum ≤ t) := rfl
  have e1 : (s / c.quantum + 1) * c.quantum = s / c.quantum * c.quantum + c.quantum := by rw [Int.add_mul]; omega
  obtain ⟨p, hp⟩ : ∃ p, s / c.quantum * c.quantum = p := ⟨_, rfl⟩
  obtain ⟨p2, hp2⟩ : ∃ p, (s / c.quantum + 1) * c.quantum = p := ⟨_, rfl⟩
  rw [hp] at hd hF e1
  rw [hp2] at e1
  have HD : Hid _ := hd
  have HR : Hid _ := r1
  have hb1 : 0 ≤ s / c.quantum * c.quantum := Int.mul_nonneg y2 (by omega)
  have hb2 : s / c.quantum * c.quantum ≤ 100000 := by omega
  have hb3 : 0 ≤ (s / c.quantum + 1) * c.quantum := by omega
  have hb4 : (s / c.quantum + 1) * c.quantum ≤ 102000 := by omega
  have cases : t < p + c.quantum - c.flush ∨ (p + c.quantum - c.flush ≤ t ∧ s < p + c.quantum - c.flush) ∨ (p + c.quantum - c.flush ≤ t ∧ p + c.quantum - c.flush ≤ s ∧ t < p2 + c.quantum - c.flush) ∨ (p + c.quantum - c.flush ≤ t ∧ p + c.quantum - c.flush ≤ s ∧ p2 + c.quantum - c.flush ≤ t ∧ s < p2 + c.quantum - c.flush) := by omega
  have HP : Hid _ := hp
  have HP2 : Hid _ := hp2
  have HE : Hid _ := e1
  clear hd r0 r1 e1
  rcases cases with a1 | ⟨a1, a2⟩ | ⟨a1, a2, a3⟩ | ⟨a1, a2, a3, a4⟩
  · have HZ : Hid (flushedB c s t = false) := by unfold Hid; rw [hF, if_pos a1]
    rw [← hp] at a1
    clear hF hp hp2
    go_enter Tryz.func122, Tryz.ntmps122
    go_wp2_with fail
    refine wp_loop_rounds 1 ?_
    rw [rounds_succ]
    go_wp2_with fail
    go_quiet (fail)
    go_wp2
    go_ret
    exact ⟨ret_bool HZ.out.symm, below_drewN (Below.refl _ _) _⟩
  · have HZ : Hid (flushedB c s t = true) := by unfold Hid; rw [hF, if_neg (by omega), if_pos a2]
    rw [← hp] at a1 a2
    clear hF hp hp2
    go_enter Tryz.func122, Tryz.ntmps122
    go_wp2_with fail
    refine wp_loop_rounds 1 ?_
    rw [rounds_succ]
    go_wp2_with fail
    go_quiet (fail)
    go_wp2
    go_ret
    exact ⟨ret_bool HZ.out.symm, below_drewN (Below.refl _ _) _⟩
  · have HZ : Hid (flushedB c s t = false) := by unfold Hid; rw [hF, if_neg (by omega), if_neg (by omega), decide_eq_false (by have := HE.out; omega)]
    rw [← hp] at a1 a2
    rw [← hp2] at a3
    clear hF hp hp2
    go_enter Tryz.func122, Tryz.ntmps122
    go_wp2_with fail
    refine wp_loop_rounds 2 ?_
    rw [rounds_succ]
    go_wp2_with fail
    go_quiet (fail)
    go_wp2
    rw [rounds_succ]
    go_wp2_with fail
    go_quiet (fail)
    go_wp2
    go_ret
    exact ⟨ret_bool HZ.out.symm, below_drewN (Below.refl _ _) _⟩
  · have HZ : Hid (flushedB c s t = true) := by unfold Hid; rw [hF, if_neg (by omega), if_neg (by omega), decide_eq_true (by have := HE.out; omega)]
    rw [← hp] at a1 a2
    rw [← hp2] at a3 a4
    clear hF hp hp2
    go_enter Tryz.func122, Tryz.ntmps122
    go_wp2_with fail
    refine wp_loop_rounds 2 ?_
    rw [rounds_succ]
    go_wp2_with fail
    go_quiet (fail)
    go_wp2
    rw [rounds_succ]
    go_wp2_with fail
    go_quiet (fail)
    go_wp2
    go_ret
    exact ⟨ret_bool HZ.out.symm, below_drewN (Below.refl _ _) _⟩
end Go.Proofs.YtehheaedbnfidaaGreat
