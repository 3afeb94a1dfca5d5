/-
  Far, Far2, Far3
-/
import Derived.Test.YtehheaedbnfidaaGreatClPackA
import Derived.Test.YtehheaedbnfidaaGreatClPackC
import Derived.Deep.QuietTactic
import Derived.BigQuiet
import Derived.Deep.RegionHeld3
import Derived.Test.YtehheaedbnfidaaGreatClVictim
namespace Go.Proofs.YtehheaedbnfidaaGreat
open Go.RowKit

/-- Where it lies: its sets, their blocks, their touches. -/
structure FLoc where
  r : Nat
  rc : Nat
  b : Nat → Nat
  bc : Nat → Nat
  ta : Nat → Option Addr
  tl : Nat → Nat
  tc : Nat → Nat

def bkV (b : Bk) (i : Nat) : Value := if i = 0 then .int .i64 b.line else if i = 1 then .bool b.mkd else .int .i64 (b.wd (i - 2))
def setV (X : FLoc) (wn i : Nat) : Value := if i % 2 = 0 then .slice (some ⟨X.b (i / 2), 0, none⟩) wn (X.bc (i / 2)) else .slice (X.ta (i / 2)) (X.tl (i / 2)) (X.tc (i / 2))

structure FarM (w : World) (ns wn : Nat) (X : FLoc) (blk : Nat → Nat → Bk) (tch : Nat → List Int) : Prop where
  row : Cells w X.r (ns * 2) 167 (setV X wn)
  cel : ∀ s, s < ns → Cells w (X.b s) (wn * 6) 171 (fun i => bkV (blk s (i / 6)) (i % 6))
  tcs : ∀ s, s < ns → Ints w (X.ta s) (X.tl s) (X.tc s) (tch s)
  rcap : ns ≤ X.rc ∧ X.rc ≤ maxLen
  bcap : ∀ s, s < ns → wn ≤ X.bc s ∧ X.bc s ≤ maxLen
  dis : ∀ j k, j < ns → k < ns → X.b j = X.b k → j = k
  n0 : 0 < ns
  n1 : ns ≤ 4
  w0 : 0 < wn
  w1 : wn ≤ 4
  sm : wn = 1 ∨ wn = 2 ∨ wn = 4
  tin : ∀ s, s < ns → ∀ e, e ∈ tch s → 0 ≤ e ∧ e < (wn : Int)
  tno : ∀ s, s < ns → (tch s).Nodup

theorem nodup_le : ∀ (n : Nat) (l : List Int), l.Nodup → (∀ e, e ∈ l → 0 ≤ e ∧ e < (n : Int)) → l.length ≤ n
  | 0, [], _, _ => Nat.le_refl _
  | 0, x :: l, _, h => by have := h x (by simp); omega
  | n + 1, l, hd, h => by
    have h1 := nodup_le n (l.filter fun e => decide (e ≠ (n : Int))) (hd.filter _) (fun e he => by
      rw [List.mem_filter] at he
      have := h e he.1
      have h2 : e ≠ (n : Int) := by simpa using he.2
      omega)
    have h2 : l.length = (l.filter fun e => decide (e ≠ (n : Int))).length + l.count (n : Int) := by
      clear h h1 hd
      obtain ⟨F, hF⟩ : ∃ F : Int → Bool, F = fun e => decide (e ≠ (n : Int)) := ⟨_, rfl⟩
      rw [← hF]
      induction l with
      | nil => rfl
      | cons x l ih =>
        have hx : F x = decide (x ≠ (n : Int)) := by rw [hF]
        rw [List.filter_cons, List.count_cons, List.length_cons]
        by_cases e : x = (n : Int)
        · rw [hx]; simp only [e, ne_eq, not_true, decide_false, Bool.false_eq_true, if_false, beq_self_eq_true, if_true]; omega
        · rw [hx]; simp only [e, ne_eq, not_false_eq_true, decide_true, if_true, List.length_cons, beq_iff_eq, if_false]; omega
    have h3 : l.count (n : Int) ≤ 1 := List.nodup_iff_count.1 hd _
    omega
def FLoc.own (X : FLoc) (ns : Nat) (b : Nat) : Prop := b = X.r ∨ ∃ s, s < ns ∧ b = X.b s
/-- The blocks of its touches. -/
def FLoc.ints (X : FLoc) (ns : Nat) (b : Nat) : Prop := ∃ s off, s < ns ∧ X.ta s = some ⟨b, off, none⟩

theorem Ints.same {w w' : World} {sa : Option Addr} {len cap : Nat} {xs : List Int} (h : Ints w sa len cap xs) (hs : ∀ b off, sa = some ⟨b, off, none⟩ → w'.heap[b]? = w.heap[b]?) : Ints w' sa len cap xs :=
  ⟨h.hlen, h.hle, h.hmax, h.hnil, fun i hi => by
    obtain ⟨b, off, h1, h2⟩ := h.hat i hi
    refine ⟨b, off, h1, ?_⟩
    rw [← h2]
    simp only [World.cell?]
    rw [hs b off h1]⟩

theorem FarM.same {w w' : World} {ns wn : Nat} {X : FLoc} {blk : Nat → Nat → Bk} {tch : Nat → List Int} (h : FarM w ns wn X blk tch) (h1 : ∀ b, X.own ns b → w'.heap[b]? = w.heap[b]?) (h2 : ∀ b, X.ints ns b → w'.heap[b]? = w.heap[b]?) : FarM w' ns wn X blk tch :=
  ⟨h.row.same (h1 _ (Or.inl rfl)), fun s hs => (h.cel s hs).same (h1 _ (Or.inr ⟨s, hs, rfl⟩)), fun s hs => (h.tcs s hs).same fun b off e => h2 b ⟨s, off, hs, e⟩, h.rcap, h.bcap, h.dis, h.n0, h.n1, h.w0, h.w1, h.sm, h.tin, h.tno⟩
theorem FarM.below {w w' : World} {ns wn m : Nat} {X : FLoc} {blk : Nat → Nat → Bk} {tch : Nat → List Int} (h : FarM w ns wn X blk tch) (hb : Below m w w') (hm : w.heap.size ≤ m) : FarM w' ns wn X blk tch :=
  ⟨h.row.below hb hm, fun s hs => (h.cel s hs).below hb hm, fun s hs => (h.tcs s hs).below hb hm, h.rcap, h.bcap, h.dis, h.n0, h.n1, h.w0, h.w1, h.sm, h.tin, h.tno⟩

theorem FarM.setAt {w : World} {ns wn : Nat} {X : FLoc} {blk : Nat → Nat → Bk} {tch : Nat → List Int} (h : FarM w ns wn X blk tch) {s : Nat} (hs : s < ns) :
    w.cell? ⟨X.r, s * 2, none⟩ = some (.slice (some ⟨X.b s, 0, none⟩) wn (X.bc s)) ∧ w.cell? ⟨X.r, s * 2 + 1, none⟩ = some (.slice (X.ta s) (X.tl s) (X.tc s)) := by
  refine ⟨?_, ?_⟩
  · rw [h.row.cell (by omega)]
    unfold setV
    rw [if_pos (by omega), show s * 2 / 2 = s by omega]
  · rw [h.row.cell (by omega)]
    unfold setV
    rw [if_neg (by omega), show (s * 2 + 1) / 2 = s by omega]

/-- The cells of a row of blocks. -/
theorem blk_at {w : World} {g n : Nat} {b : Nat → Bk} (h : Cells w g (n * 6) 171 (fun i => bkV (b (i / 6)) (i % 6))) {j : Nat} (hj : j < n) :
    w.cell? ⟨g, j * 6, none⟩ = some (.int .i64 (b j).line) ∧ w.cell? ⟨g, j * 6 + 1, none⟩ = some (.bool (b j).mkd) ∧ w.cell? ⟨g, j * 6 + 2, none⟩ = some (.int .i64 ((b j).wd 0)) ∧ w.cell? ⟨g, j * 6 + 3, none⟩ = some (.int .i64 ((b j).wd 1)) ∧ w.cell? ⟨g, j * 6 + 4, none⟩ = some (.int .i64 ((b j).wd 2)) ∧ w.cell? ⟨g, j * 6 + 5, none⟩ = some (.int .i64 ((b j).wd 3)) := by
  refine ⟨?_, ?_, ?_, ?_, ?_, ?_⟩
  · rw [h.cell (by omega), show j * 6 / 6 = j by omega, show j * 6 % 6 = 0 by omega]; rfl
  · rw [h.cell (by omega), show (j * 6 + 1) / 6 = j by omega, show (j * 6 + 1) % 6 = 1 by omega]; rfl
  · rw [h.cell (by omega), show (j * 6 + 2) / 6 = j by omega, show (j * 6 + 2) % 6 = 2 by omega]; rfl
  · rw [h.cell (by omega), show (j * 6 + 3) / 6 = j by omega, show (j * 6 + 3) % 6 = 3 by omega]; rfl
  · rw [h.cell (by omega), show (j * 6 + 4) / 6 = j by omega, show (j * 6 + 4) % 6 = 4 by omega]; rfl
  · rw [h.cell (by omega), show (j * 6 + 5) / 6 = j by omega, show (j * 6 + 5) % 6 = 5 by omega]; rfl

set_option maxRecDepth 100000 in
set_option maxHeartbeats 1600000 in
theorem fsetOf_any (ns : Nat) (X : FLoc) (g o x q : Nat) (w : World) (hp : w.cell? ⟨g, o, none⟩ = some (.slice (some ⟨X.r, 0, none⟩) ns X.rc)) (n0 : 0 < ns) (n1 : ns ≤ 4) (hx : x ≤ 1000000) (hq : Hid (q = x % ns)) :
    Calls Tryz.prog 158 #[.pointer (some ⟨g, o, none⟩), .int .i64 x] w fun e w' => e = .returned (.int .i64 q) ∧ w' = w := by
  have HE : Hid ((q : Int) = (x : Int) % (ns : Int)) := by have := hq.out; unfold Hid; omega
  have hz : ((ns : Int) == 0) = false := by simp; omega
  go_enter Tryz.func158, Tryz.ntmps158
  go_wp2
  go_ret
  exact ⟨ret_int HE.out.symm, rfl⟩

set_option maxRecDepth 100000 in
set_option maxHeartbeats 1600000 in
theorem fwayOf_any (g n cap : Nat) (b : Nat → Bk) (x : Int) (w : World) (h : Cells w g (n * 6) 171 (fun i => bkV (b (i / 6)) (i % 6))) (hn : n ≤ 4) :
    Calls Tryz.prog 159 #[.slice (some ⟨g, 0, none⟩) n cap, .int .i64 x] w fun e w' => e = .returned (.int .i64 (wayF b n x)) ∧ w' = w := by
  have HW : Hid (wayF b n x = firstW (fun j => decide ((b j).line = x)) (n - 0) 0) := rfl
  go_enter Tryz.func159, Tryz.ntmps159
  go_wp2_with fail
  go_loop [5] (fun u => ∃ j : Nat, j ≤ n ∧ u = .int .i64 j ∧ wayF b n x = firstW (fun j => decide ((b j).line = x)) (n - j) j) (fun u => n - (intOf u).toNat)
  case atStart => exact ⟨0, by omega, rfl, HW.out⟩
  case round =>
    obtain ⟨j, hj, rfl, hf⟩ := hrel
    have HF : Hid _ := hf
    clear hf
    by_cases hlt : j < n
    · obtain ⟨e1, _, _, _, _, _⟩ := blk_at h hlt
      by_cases hl : (b j).line = x
      · have HR : Hid (wayF b n x = j) := by unfold Hid; rw [HF.out, show n - j = (n - (j + 1)) + 1 by omega, firstW, if_pos (by simp [hl])]
        rw [hl] at e1
        clear hl
        go_wp2
        go_ret
        exact ⟨ret_int HR.out.symm, rfl⟩
      · have HR : Hid (wayF b n x = firstW (fun j => decide ((b j).line = x)) (n - (j + 1)) (j + 1)) := by unfold Hid; rw [HF.out, show n - j = (n - (j + 1)) + 1 by omega, firstW, if_neg (by simp [hl])]
        go_wp2
        go_round
        case rel => exact ⟨j + 1, by omega, by go_num, HR.out⟩
        case measure => simp [intOf]; omega
    · have HR : Hid (wayF b n x = -1) := by unfold Hid; rw [HF.out, show n - j = 0 by omega]; rfl
      go_wp2
      go_ret
      exact ⟨ret_int HR.out.symm, rfl⟩

set_option maxRecDepth 100000 in
set_option maxHeartbeats 1600000 in
theorem fFind_any (ns wn : Nat) (X : FLoc) (blk : Nat → Nat → Bk) (tch : Nat → List Int) (g o x q : Nat) (w : World) (h : FarM w ns wn X blk tch) (hp : w.cell? ⟨g, o, none⟩ = some (.slice (some ⟨X.r, 0, none⟩) ns X.rc)) (hx : x ≤ 1000000) (hq : Hid (q = x % ns)) :
    Calls Tryz.prog 150 #[.pointer (some ⟨g, o, none⟩), .int .i64 x] w fun e w' => e = .returned (.int .i64 (wayF (blk q) wn x)) ∧ w' = w := by
  have hqs : q < ns := by rw [hq.out]; exact Nat.mod_lt _ h.n0
  obtain ⟨e1, e2⟩ := h.setAt hqs
  have n1 := h.n1
  go_enter Tryz.func150, Tryz.ntmps150
  go_wp2_with (first
    | (go_at_call 158; refine (fsetOf_any ns X g o x q _ hp h.n0 h.n1 hx hq).mono ?_; rintro e w' ⟨rfl, rfl⟩)
    | (go_at_call 159; refine (fwayOf_any _ wn _ (blk q) x _ (h.cel q hqs) h.w1).mono ?_; rintro e w' ⟨rfl, rfl⟩))
  go_ret
  exact ⟨rfl, rfl⟩
end Go.Proofs.YtehheaedbnfidaaGreat

namespace Go.Proofs.YtehheaedbnfidaaGreat
open Go.RowKit

abbrev bkA (b : Bk) : Array Value := #[.int .i64 b.line, .bool b.mkd, .int .i64 (b.wd 0), .int .i64 (b.wd 1), .int .i64 (b.wd 2), .int .i64 (b.wd 3)]

set_option maxRecDepth 100000 in
set_option maxHeartbeats 1600000 in
theorem fEmpty_any (w : World) :
    Calls Tryz.prog 139 #[] w fun e w' => e = .returned (.agg (bkA bkE)) ∧ w' = w.alloc (.cells (bkA bkE) 171) := by
  go_enter Tryz.func139, Tryz.ntmps139
  go_wp2
  refine bodyPost_ret (v := .agg (bkA bkE)) (by simp [results, Tryz.results139, go_sem, alloc_cell, bkE]) rfl ⟨rfl, rfl⟩

set_option maxRecDepth 100000 in
set_option maxHeartbeats 1600000 in
theorem fRoom_any (ns wn : Nat) (X : FLoc) (blk : Nat → Nat → Bk) (tch : Nat → List Int) (g o x q : Nat) (w : World) (h : FarM w ns wn X blk tch) (hp : w.cell? ⟨g, o, none⟩ = some (.slice (some ⟨X.r, 0, none⟩) ns X.rc)) (hx : x ≤ 1000000) (hq : Hid (q = x % ns)) :
    Calls Tryz.prog 160 #[.pointer (some ⟨g, o, none⟩), .int .i64 x] w fun e w' => e = .returned (.int .i64 (roomF (blk q) wn (tch q))) ∧ Below w.heap.size w w' := by
  have hqs : q < ns := by rw [hq.out]; exact Nat.mod_lt _ h.n0
  obtain ⟨e1, e2⟩ := h.setAt hqs
  have n1 := h.n1
  have w1 := h.w1
  have HV : Hid (victimOk (wn : Int) (tch q) = true) := by
    unfold Hid victimOk smallB
    have h1 := h.sm
    rw [Bool.and_eq_true]
    refine ⟨by rcases h1 with e | e | e <;> subst e <;> rfl, ?_⟩
    rw [List.all_eq_true]
    intro e he
    have := h.tin q hqs e he
    rw [within_iff]
    omega
  have hv : ∀ w, Ints w (X.ta q) (X.tl q) (X.tc q) (tch q) → Calls Tryz.prog 64 #[.int .i64 wn, .slice (X.ta q) (X.tl q) (X.tc q)] w fun e w' => e = .returned (.tuple #[.int .i64 (victimZ wn (tch q)), .int .i64 0]) ∧ w' = w := fun w hw => by
    have := cvictim_any (wn : Int) (X.ta q) (X.tl q) (X.tc q) (tch q) w hw
    rw [(vic_yes HV.out).1, (vic_yes HV.out).2] at this
    exact this
  have tq := h.tcs q hqs
  by_cases a1 : wayF (blk q) wn (-1) = -1
  · have HR : Hid _ := show roomF (blk q) wn (tch q) = victimZ wn (tch q) by unfold roomF; rw [if_pos a1]
    go_enter Tryz.func160, Tryz.ntmps160
    go_wp2_with (first
      | (go_at_call 158; refine (fsetOf_any ns X g o x q _ hp h.n0 h.n1 hx hq).mono ?_; rintro e w' ⟨rfl, rfl⟩)
      | (go_at_call 159; refine (fwayOf_any _ wn _ (blk q) (-1) _ (h.cel q hqs) h.w1).mono ?_; rintro e w' ⟨rfl, rfl⟩; rw [a1]))
    go_quiet ((go_at_call 64; exact Calls.quiet_of_same (hv _ (by first | exact tq.drewN _ | exact tq))))
    go_wp2
    go_ret
    exact ⟨ret_int HR.out.symm, below_drewN (Below.refl _ _) _⟩
  · have HR : Hid _ := show roomF (blk q) wn (tch q) = wayF (blk q) wn (-1) by unfold roomF; rw [if_neg a1]
    go_enter Tryz.func160, Tryz.ntmps160
    go_wp2_with (first
      | (go_at_call 158; refine (fsetOf_any ns X g o x q _ hp h.n0 h.n1 hx hq).mono ?_; rintro e w' ⟨rfl, rfl⟩)
      | (go_at_call 159; refine (fwayOf_any _ wn _ (blk q) (-1) _ (h.cel q hqs) h.w1).mono ?_; rintro e w' ⟨rfl, rfl⟩))
    all_goals go_ret
    all_goals exact ⟨ret_int HR.out.symm, Below.refl _ _⟩
end Go.Proofs.YtehheaedbnfidaaGreat

namespace Go.Proofs.YtehheaedbnfidaaGreat
open Go.RowKit

def atB (b : Nat → Bk) (way : Int) : Bk := if way < 0 then bkE else b way.toNat

set_option maxRecDepth 100000 in
set_option maxHeartbeats 1600000 in
theorem fAt_any (ns wn : Nat) (X : FLoc) (blk : Nat → Nat → Bk) (tch : Nat → List Int) (g o x q : Nat) (way : Int) (w : World) (h : FarM w ns wn X blk tch) (hp : w.cell? ⟨g, o, none⟩ = some (.slice (some ⟨X.r, 0, none⟩) ns X.rc)) (hx : x ≤ 1000000) (hq : Hid (q = x % ns)) (hw : way < wn) :
    Calls Tryz.prog 161 #[.pointer (some ⟨g, o, none⟩), .int .i64 x, .int .i64 way] w fun e w' => e = .returned (.agg (bkA (atB (blk q) way))) ∧ Below w.heap.size w w' := by
  have hqs : q < ns := by rw [hq.out]; exact Nat.mod_lt _ h.n0
  obtain ⟨e1, e2⟩ := h.setAt hqs
  have n1 := h.n1
  have w1 := h.w1
  have lg : g < w.heap.size := cell_lt hp
  have l1 := h.row.lt
  have l2 := (h.cel q hqs).lt
  have bs := fun o2 => fsetOf_any ns X g o x q (w.alloc o2) ((Below.cell ((Below.refl w.heap.size w).alloc (Nat.le_refl _) o2) (p := ⟨g, o, none⟩) lg).trans hp) h.n0 h.n1 hx hq
  by_cases a1 : way < 0
  · have HR : Hid _ := show atB (blk q) way = bkE by unfold atB; rw [if_pos a1]
    go_enter Tryz.func161, Tryz.ntmps161
    go_wp2_with (first
      | (go_at_call 158; refine (bs _).mono ?_; rintro e w' ⟨rfl, rfl⟩)
      | (go_at_call 139; refine (fEmpty_any _).mono ?_; rintro e w' ⟨rfl, rfl⟩))
    refine bodyPost_ret (v := .agg (bkA bkE)) (by simp [results, Tryz.results161, go_sem, bkE]) rfl ⟨by rw [HR.out], ((Below.refl _ _).alloc (Nat.le_refl _) _).alloc (by simp) _⟩
  · obtain ⟨j, rfl⟩ := Int.eq_ofNat_of_zero_le (show 0 ≤ way by omega)
    have hj : j < wn := by omega
    have HR : Hid _ := show atB (blk q) j = blk q j by unfold atB; rw [if_neg a1, Int.toNat_natCast]
    obtain ⟨d0, d1, d2, d3, d4, d5⟩ := blk_at (h.cel q hqs) hj
    go_enter Tryz.func161, Tryz.ntmps161
    go_wp2_with (first
      | (go_at_call 158; refine (bs _).mono ?_; rintro e w' ⟨rfl, rfl⟩)
      | (go_at_call 139; refine (fEmpty_any _).mono ?_; rintro e w' ⟨rfl, rfl⟩))
    refine bodyPost_ret (v := .agg (bkA (blk q j))) (by simp [results, Tryz.results161, go_sem, alloc_cell]) rfl ⟨by rw [HR.out], (Below.refl _ _).alloc (Nat.le_refl _) _⟩

/-- The world behind the store of a block. -/
def layW (w : World) (g j : Nat) (b : Bk) : World :=
  (((((w.setCell ⟨g, j * 6, none⟩ (.int .i64 b.line)).setCell ⟨g, j * 6 + 1, none⟩ (.bool b.mkd)).setCell ⟨g, j * 6 + 2, none⟩ (.int .i64 (b.wd 0))).setCell ⟨g, j * 6 + 3, none⟩ (.int .i64 (b.wd 1))).setCell ⟨g, j * 6 + 4, none⟩ (.int .i64 (b.wd 2))).setCell ⟨g, j * 6 + 5, none⟩ (.int .i64 (b.wd 3))

theorem layW_cells {w : World} {g n : Nat} {f : Nat → Bk} (h : Cells w g (n * 6) 171 (fun i => bkV (f (i / 6)) (i % 6))) (j : Nat) (b : Bk) : Cells (layW w g j b) g (n * 6) 171 (fun i => bkV (up1 f j b (i / 6)) (i % 6)) := by
  refine (((((((h.set _ _).set _ _).set _ _).set _ _).set _ _).set _ _)).congr fun i hi => ?_
  unfold up1
  by_cases e1 : i / 6 = j
  · have : i = j * 6 ∨ i = j * 6 + 1 ∨ i = j * 6 + 2 ∨ i = j * 6 + 3 ∨ i = j * 6 + 4 ∨ i = j * 6 + 5 := by omega
    rcases this with e2 | e2 | e2 | e2 | e2 | e2
    · subst e2; simp [bkV, show j * 6 / 6 = j by omega]
    · subst e2; simp [bkV, show (j * 6 + 1) / 6 = j by omega, show (j * 6 + 1) % 6 = 1 by omega]
    · subst e2; simp [bkV, show (j * 6 + 2) / 6 = j by omega, show (j * 6 + 2) % 6 = 2 by omega]
    · subst e2; simp [bkV, show (j * 6 + 3) / 6 = j by omega, show (j * 6 + 3) % 6 = 3 by omega]
    · subst e2; simp [bkV, show (j * 6 + 4) / 6 = j by omega, show (j * 6 + 4) % 6 = 4 by omega]
    · subst e2; simp [bkV, show (j * 6 + 5) / 6 = j by omega, show (j * 6 + 5) % 6 = 5 by omega]
  · have f1 : i ≠ j * 6 := by omega
    have f2 : i ≠ j * 6 + 1 := by omega
    have f3 : i ≠ j * 6 + 2 := by omega
    have f4 : i ≠ j * 6 + 3 := by omega
    have f5 : i ≠ j * 6 + 4 := by omega
    have f6 : i ≠ j * 6 + 5 := by omega
    simp [e1, f1, f2, f3, f4, f5, f6]
theorem layW_heap (w : World) (g j : Nat) (b : Bk) (k : Nat) (hk : k ≠ g) : (layW w g j b).heap[k]? = w.heap[k]? := by
  unfold layW
  rw [Below.heap_setCell _ _ _ _ hk, Below.heap_setCell _ _ _ _ hk, Below.heap_setCell _ _ _ _ hk, Below.heap_setCell _ _ _ _ hk, Below.heap_setCell _ _ _ _ hk, Below.heap_setCell _ _ _ _ hk]
theorem layW_touch {F : Nat → Prop} (w : World) (g j : Nat) (b : Bk) (hg : F g) : Touch F w (layW w g j b) :=
  (((((Touch.setCell _ _ _ _ hg).trans (Touch.setCell _ _ _ _ hg)).trans (Touch.setCell _ _ _ _ hg)).trans (Touch.setCell _ _ _ _ hg)).trans (Touch.setCell _ _ _ _ hg)).trans (Touch.setCell _ _ _ _ hg)

theorem FarM.lay {w : World} {ns wn : Nat} {X : FLoc} {blk : Nat → Nat → Bk} {tch : Nat → List Int} (h : FarM w ns wn X blk tch) {q : Nat} (hq : q < ns) (j : Nat) (b : Bk) (hi : ∀ k, X.ints ns k → k ≠ X.b q) :
    FarM (layW w (X.b q) j b) ns wn X (up2 blk q j b) tch ∧ Touch (X.own ns) w (layW w (X.b q) j b) := by
  have hr : X.r ≠ X.b q := fun e => absurd ((e ▸ h.row).type (h.cel q hq)) (by decide)
  refine ⟨⟨h.row.same (layW_heap _ _ _ _ _ hr), fun s hs => ?_, fun s hs => (h.tcs s hs).same fun k off e => layW_heap _ _ _ _ _ (hi k ⟨s, off, hs, e⟩), h.rcap, h.bcap, h.dis, h.n0, h.n1, h.w0, h.w1, h.sm, h.tin, h.tno⟩, layW_touch _ _ _ _ (Or.inr ⟨q, hq, rfl⟩)⟩
  by_cases e : s = q
  · subst e
    refine (layW_cells (h.cel s hs) j b).congr fun i _ => ?_
    simp [up1, up2]
  · refine ((h.cel s hs).same (layW_heap _ _ _ _ _ (fun k => e (h.dis s q hs hq k)))).congr fun i _ => ?_
    simp [up2, e]

set_option maxRecDepth 100000 in
set_option maxHeartbeats 3200000 in
theorem fLay_any (ns wn : Nat) (X : FLoc) (blk : Nat → Nat → Bk) (tch : Nat → List Int) (g o x q j : Nat) (b : Bk) (w : World) (h : FarM w ns wn X blk tch) (hi : ∀ k, X.ints ns k → k ≠ X.b q) (hp : w.cell? ⟨g, o, none⟩ = some (.slice (some ⟨X.r, 0, none⟩) ns X.rc)) (hx : x ≤ 1000000) (hq : Hid (q = x % ns)) (hj : j < wn) :
    Calls Tryz.prog 164 #[.pointer (some ⟨g, o, none⟩), .int .i64 x, .int .i64 j, .agg (bkA b)] w fun e w' => e = .returned (.tuple #[]) ∧ FarM w' ns wn X (up2 blk q j b) tch ∧ Touch (X.own ns) w w' := by
  have hqs : q < ns := by rw [hq.out]; exact Nat.mod_lt _ h.n0
  obtain ⟨e1, e2⟩ := h.setAt hqs
  have n1 := h.n1
  have w1 := h.w1
  have lg : g < w.heap.size := cell_lt hp
  have l1 := h.row.lt
  have l2 := (h.cel q hqs).lt
  have bs := fun o2 => fsetOf_any ns X g o x q (w.alloc o2) ((Below.cell ((Below.refl w.heap.size w).alloc (Nat.le_refl _) o2) (p := ⟨g, o, none⟩) lg).trans hp) h.n0 h.n1 hx hq
  obtain ⟨d0, d1, d2, d3, d4, d5⟩ := blk_at (h.cel q hqs) hj
  have f0 := (h.cel q hqs).frozen (j * 6)
  have f1 := (h.cel q hqs).frozen (j * 6 + 1)
  have f2 := (h.cel q hqs).frozen (j * 6 + 2)
  have f3 := (h.cel q hqs).frozen (j * 6 + 3)
  have f4 := (h.cel q hqs).frozen (j * 6 + 4)
  have f5 := (h.cel q hqs).frozen (j * 6 + 5)
  have HL : Hid _ := h.lay hqs j b hi
  clear h hi
  go_enter Tryz.func164, Tryz.ntmps164
  go_wp2_with (go_at_call 158; refine (bs _).mono ?_; rintro e w' ⟨rfl, rfl⟩)
  go_region_with fail
  all_goals go_wp2
  all_goals refine bodyPost_end (results_none rfl _ _ _) rfl ?_
  all_goals exact ⟨rfl, HL.out.1.below (((Below.refl _ _).alloc (Nat.le_refl _) _).drew) (Nat.le_refl _), HL.out.2.trans (Touch.of_below (((Below.refl _ _).alloc (Nat.le_refl _) _).drew) (Nat.le_refl _))⟩
end Go.Proofs.YtehheaedbnfidaaGreat
