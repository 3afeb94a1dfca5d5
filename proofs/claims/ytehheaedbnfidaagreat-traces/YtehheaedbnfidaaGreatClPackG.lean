/-
  Mem, Mem2
-/
import Derived.Test.YtehheaedbnfidaaGreatClPackA
import Derived.Test.YtehheaedbnfidaaGreatClPackC
import Derived.Deep.QuietTactic
import Derived.BigQuiet
import Derived.Deep.RegionHeld3
namespace Go.Proofs.YtehheaedbnfidaaGreat
open Go.RowKit

/-- Where it lies: the rows of the domains, the shared words. -/
structure ELoc where
  r : Nat
  rc : Nat
  b : Nat → Nat
  bc : Nat → Nat
  sa : Option Addr
  sb : Nat
  sc : Nat

structure MemM (w : World) (nd pv sn : Nat) (X : ELoc) (own : Nat → Nat → Int) (sh : Nat → Int) : Prop where
  row : Cells w X.r nd 25 (fun d => .slice (some ⟨X.b d, 0, none⟩) pv (X.bc d))
  cel : ∀ d, d < nd → Cells w (X.b d) pv 3 (fun a => .int .i64 (own d a))
  shv : (sn = 0 ∧ X.sa = none) ∨ (X.sa = some ⟨X.sb, 0, none⟩ ∧ Cells w X.sb sn 3 (fun a => .int .i64 (sh a)))
  rcap : nd ≤ X.rc ∧ X.rc ≤ maxLen
  bcap : ∀ d, d < nd → pv ≤ X.bc d ∧ X.bc d ≤ maxLen
  scap : sn ≤ X.sc ∧ X.sc ≤ maxLen
  dis : ∀ j k, j < nd → k < nd → X.b j = X.b k → j = k
  sdis : ∀ d, d < nd → X.b d ≠ X.sb
  n1 : nd ≤ 4
  p0 : 0 < pv
  p1 : pv ≤ 64
  s1 : sn ≤ 32

def ELoc.own (X : ELoc) (nd : Nat) (b : Nat) : Prop := b = X.sb ∨ ∃ d, d < nd ∧ b = X.b d

theorem MemM.same {w w' : World} {nd pv sn : Nat} {X : ELoc} {own : Nat → Nat → Int} {sh : Nat → Int} (h : MemM w nd pv sn X own sh) (h0 : w'.heap[X.r]? = w.heap[X.r]?) (h1 : ∀ b, b < w.heap.size → X.own nd b → w'.heap[b]? = w.heap[b]?) : MemM w' nd pv sn X own sh :=
  ⟨h.row.same h0, fun d hd => (h.cel d hd).same (h1 _ (h.cel d hd).lt (Or.inr ⟨d, hd, rfl⟩)), by
    rcases h.shv with h2 | ⟨h2, h3⟩
    · exact Or.inl h2
    · exact Or.inr ⟨h2, h3.same (h1 _ h3.lt (Or.inl rfl))⟩, h.rcap, h.bcap, h.scap, h.dis, h.sdis, h.n1, h.p0, h.p1, h.s1⟩
theorem MemM.below {w w' : World} {nd pv sn m : Nat} {X : ELoc} {own : Nat → Nat → Int} {sh : Nat → Int} (h : MemM w nd pv sn X own sh) (hb : Below m w w') (hm : w.heap.size ≤ m) : MemM w' nd pv sn X own sh :=
  h.same (hb.block _ (Nat.lt_of_lt_of_le h.row.lt hm)) fun _ hb' _ => hb.block _ (Nat.lt_of_lt_of_le hb' hm)

theorem MemM.fill {w : World} {nd pv sn : Nat} {X : ELoc} {own : Nat → Nat → Int} {sh : Nat → Int} (h : MemM w nd pv sn X own sh) {d : Nat} (hd : d < nd) (a : Nat) (v : Int) :
    MemM (w.setCell ⟨X.b d, a, none⟩ (.int .i64 v)) nd pv sn X (up1 own d (up1 (own d) a v)) sh ∧ Touch (X.own nd) w (w.setCell ⟨X.b d, a, none⟩ (.int .i64 v)) := by
  have hr : X.r ≠ X.b d := fun e => absurd ((e ▸ h.row).type (h.cel d hd)) (by decide)
  refine ⟨⟨h.row.setOther _ _ hr, fun e he => ?_, ?_, h.rcap, h.bcap, h.scap, h.dis, h.sdis, h.n1, h.p0, h.p1, h.s1⟩, Touch.setCell _ _ _ _ (Or.inr ⟨d, hd, rfl⟩)⟩
  · by_cases e2 : e = d
    · subst e2
      refine ((h.cel e he).set a _).congr fun i _ => ?_
      simp only [up1, if_true]
      by_cases e3 : i = a <;> simp [e3]
    · refine ((h.cel e he).setOther a _ (fun k => e2 (h.dis e d he hd k))).congr fun i _ => ?_
      simp [up1, e2]
  · rcases h.shv with h2 | ⟨h2, h3⟩
    · exact Or.inl h2
    · exact Or.inr ⟨h2, h3.setOther _ _ (Ne.symm (h.sdis d hd))⟩

theorem MemM.share {w : World} {nd pv sn : Nat} {X : ELoc} {own : Nat → Nat → Int} {sh : Nat → Int} (h : MemM w nd pv sn X own sh) (hs : Cells w X.sb sn 3 (fun a => .int .i64 (sh a))) (hsa : X.sa = some ⟨X.sb, 0, none⟩) (a : Nat) (v : Int) :
    MemM (w.setCell ⟨X.sb, a, none⟩ (.int .i64 v)) nd pv sn X own (up1 sh a v) ∧ Touch (X.own nd) w (w.setCell ⟨X.sb, a, none⟩ (.int .i64 v)) := by
  have hr : X.r ≠ X.sb := fun e => absurd ((e ▸ h.row).type hs) (by decide)
  refine ⟨⟨h.row.setOther _ _ hr, fun e he => (h.cel e he).setOther _ _ (h.sdis e he), Or.inr ⟨hsa, ?_⟩, h.rcap, h.bcap, h.scap, h.dis, h.sdis, h.n1, h.p0, h.p1, h.s1⟩, Touch.setCell _ _ _ _ (Or.inl rfl)⟩
  refine (hs.set a _).congr fun i _ => ?_
  simp only [up1]
  by_cases e3 : i = a <;> simp [e3]

set_option maxRecDepth 100000 in
set_option maxHeartbeats 1600000 in
theorem mFill_any (nd pv sn : Nat) (X : ELoc) (own : Nat → Nat → Int) (sh : Nat → Int) (g o d a : Nat) (v : Int) (w : World) (h : MemM w nd pv sn X own sh) (hp : w.cell? ⟨g, o + 1, none⟩ = some (.slice (some ⟨X.r, 0, none⟩) nd X.rc)) (hd : d < nd) (ha : a ≤ 1000000) :
    Calls Tryz.prog 133 #[.pointer (some ⟨g, o, none⟩), .int .i64 d, .int .i64 a, .int .i64 v] w fun e w' => e = .returned (.tuple #[]) ∧ MemM w' nd pv sn X (if a < pv then up1 own d (up1 (own d) a v) else own) sh ∧ Touch (X.own nd) w w' := by
  have c1 := h.row.cell hd
  have n1 := h.n1
  have p1 := h.p1
  by_cases hap : a < pv
  · have c2 := (h.cel d hd).cell hap
    have f2 := (h.cel d hd).frozen a
    have HF : Hid _ := h.fill hd a v
    have HI : Hid (a < pv) := hap
    clear h
    go_enter Tryz.func133, Tryz.ntmps133
    go_wp2
    refine bodyPost_end (results_none rfl _ _ _) rfl ?_
    exact ⟨rfl, by have h2 := HF.out.1; first | exact h2 | (rw [if_pos HI.out]; exact h2), HF.out.2⟩
  · have HI : Hid (¬ a < pv) := hap
    have HM : Hid _ := h
    go_enter Tryz.func133, Tryz.ntmps133
    go_wp2
    refine bodyPost_ret (results_none rfl _ _ _) rfl ?_
    exact ⟨rfl, by have h2 := HM.out; first | exact h2 | (rw [if_neg HI.out]; exact h2), Touch.refl _ _⟩

set_option maxRecDepth 100000 in
set_option maxHeartbeats 1600000 in
theorem mShare_any (nd pv sn : Nat) (X : ELoc) (own : Nat → Nat → Int) (sh : Nat → Int) (g o a : Nat) (v : Int) (w : World) (h : MemM w nd pv sn X own sh) (hp : w.cell? ⟨g, o + 2, none⟩ = some (.slice X.sa sn X.sc)) (ha : a < sn) :
    Calls Tryz.prog 134 #[.pointer (some ⟨g, o, none⟩), .int .i64 a, .int .i64 v] w fun e w' => e = .returned (.tuple #[]) ∧ MemM w' nd pv sn X own (up1 sh a v) ∧ Touch (X.own nd) w w' := by
  have s1 := h.s1
  rcases h.shv with ⟨h2, _⟩ | ⟨h2, h3⟩
  · omega
  have c2 := h3.cell ha
  have f2 := h3.frozen a
  have HF : Hid _ := h.share h3 h2 a v
  rw [h2] at hp
  clear h2
  go_enter Tryz.func134, Tryz.ntmps134
  go_wp2
  refine bodyPost_end (results_none rfl _ _ _) rfl ?_
  exact ⟨rfl, HF.out.1, HF.out.2⟩

set_option maxRecDepth 100000 in
set_option maxHeartbeats 1600000 in
theorem mWord_any (nd pv sn : Nat) (X : ELoc) (own : Nat → Nat → Int) (sh : Nat → Int) (g o d a : Nat) (w : World) (h : MemM w nd pv sn X own sh) (hp : w.cell? ⟨g, o + 1, none⟩ = some (.slice (some ⟨X.r, 0, none⟩) nd X.rc)) (hp2 : w.cell? ⟨g, o + 2, none⟩ = some (.slice X.sa sn X.sc)) (hd : d < nd) (ha : a ≤ 1000000) :
    Calls Tryz.prog 92 #[.pointer (some ⟨g, o, none⟩), .int .i64 d, .int .i64 a] w fun e w' => e = .returned (.int .i64 (wordM pv sn (own d) sh a)) ∧ w' = w := by
  have c1 := h.row.cell hd
  have n1 := h.n1
  have p1 := h.p1
  have s1 := h.s1
  by_cases hap : a < pv
  · have c2 := (h.cel d hd).cell hap
    have HV : Hid _ := show wordM pv sn (own d) sh a = own d a by unfold wordM; rw [if_pos hap]
    go_enter Tryz.func92, Tryz.ntmps92
    go_wp2
    go_ret
    exact ⟨ret_int HV.out.symm, rfl⟩
  · obtain ⟨k, hk⟩ : ∃ k, a = pv + k := ⟨a - pv, by omega⟩
    subst hk
    by_cases hks : k < sn
    · have HV : Hid _ := show wordM pv sn (own d) sh (pv + k) = sh k by unfold wordM; rw [if_neg hap, if_pos (by omega), Nat.add_sub_cancel_left]
      rcases h.shv with ⟨h2, _⟩ | ⟨h2, h3⟩
      · omega
      have c2 := h3.cell hks
      rw [h2] at hp2
      have e1 : ((pv + k : Nat) : Int) - (pv : Int) = (k : Int) := by omega
      have e2 : (pv : Int) + (k : Int) - (pv : Int) = (k : Int) := by omega
      clear h2
      go_enter Tryz.func92, Tryz.ntmps92
      go_wp2
      go_ret
      exact ⟨ret_int HV.out.symm, rfl⟩
    · have HV : Hid _ := show wordM pv sn (own d) sh (pv + k) = 0 by unfold wordM; rw [if_neg hap, if_neg (by omega)]
      have e1 : ((pv + k : Nat) : Int) - (pv : Int) = (k : Int) := by omega
      have e2 : (pv : Int) + (k : Int) - (pv : Int) = (k : Int) := by omega
      go_enter Tryz.func92, Tryz.ntmps92
      go_wp2
      go_ret
      exact ⟨ret_int HV.out.symm, rfl⟩
end Go.Proofs.YtehheaedbnfidaaGreat

namespace Go.Proofs.YtehheaedbnfidaaGreat
open Go.RowKit

abbrev wdA (f : Nat → Int) : Array Value := #[.int .i64 (f 0), .int .i64 (f 1), .int .i64 (f 2), .int .i64 (f 3)]
def upto4 (f : Nat → Int) (i : Nat) : Nat → Int := fun k => if k < i then f k else 0

abbrev wdL (f : Nat → Int) : List Value := [.int .i64 (f 0), .int .i64 (f 1), .int .i64 (f 2), .int .i64 (f 3)]

theorem upto4_set (F : Nat → Int) {i : Nat} (hi : i < 4) : (wdL (upto4 F i)).set i (.int .i64 (F i)) = wdL (upto4 F (i + 1)) := by
  have : i = 0 ∨ i = 1 ∨ i = 2 ∨ i = 3 := by omega
  rcases this with e | e | e | e <;> subst e <;> rfl
theorem upto4_at (F : Nat → Int) {i : Nat} (hi : i < 4) : (wdL (upto4 F i))[i]? = some (.int .i64 (upto4 F i i)) := by
  have : i = 0 ∨ i = 1 ∨ i = 2 ∨ i = 3 := by omega
  rcases this with e | e | e | e <;> subst e <;> rfl

set_option maxRecDepth 100000 in
set_option maxHeartbeats 3200000 in
theorem mRead_any (nd pv sn ln : Nat) (X : ELoc) (own : Nat → Nat → Int) (sh : Nat → Int) (g o d x : Nat) (w : World) (h : MemM w nd pv sn X own sh) (hp0 : w.cell? ⟨g, o, none⟩ = some (.int .i64 ln)) (hp : w.cell? ⟨g, o + 1, none⟩ = some (.slice (some ⟨X.r, 0, none⟩) nd X.rc)) (hp2 : w.cell? ⟨g, o + 2, none⟩ = some (.slice X.sa sn X.sc)) (hd : d < nd) (hx : x ≤ 1000) (hln : ln = 1 ∨ ln = 2 ∨ ln = 4) :
    Calls Tryz.prog 165 #[.pointer (some ⟨g, o, none⟩), .int .i64 d, .int .i64 x] w fun e w' => e = .returned (.agg (wdA (readM pv sn ln (own d) sh x))) ∧ Below w.heap.size w w' := by
  have lg := cell_lt hp0
  have hW : ∀ (a : Nat) (wr : World), Below w.heap.size w wr → a ≤ 1000000 → Calls Tryz.prog 92 #[.pointer (some ⟨g, o, none⟩), .int .i64 d, .int .i64 a] wr fun e w' => e = .returned (.int .i64 (wordM pv sn (own d) sh a)) ∧ w' = wr := fun a wr hb ha =>
    mWord_any nd pv sn X own sh g o d a _ (h.below hb (Nat.le_refl _)) ((hb.cell (p := ⟨g, o + 1, none⟩) lg).trans hp) ((hb.cell (p := ⟨g, o + 2, none⟩) lg).trans hp2) hd ha
  have HR : Hid (∀ i, i < ln → i < 4 → readM pv sn ln (own d) sh x i = wordM pv sn (own d) sh (x * ln + i)) := fun i h1 h2 => by unfold readM; rw [if_pos ⟨h1, h2⟩]
  have HZ : Hid (∀ i, ¬ i < ln → readM pv sn ln (own d) sh x i = 0) := fun i h1 => by unfold readM; rw [if_neg (fun hh => h1 hh.1)]
  generalize readM pv sn ln (own d) sh x = F at *
  obtain ⟨y, hy⟩ : ∃ y, x * ln = y := ⟨_, rfl⟩
  have HY : Hid _ := hy
  have hy2 : y ≤ 4000 := by rw [← hy]; rcases hln with e | e | e <;> subst e <;> omega
  have hyI : (x : Int) * (ln : Int) = (y : Int) := by rw [← hy]; simp
  have hl4 : ln ≤ 4 := by omega
  clear h hp hp2 hy
  go_enter Tryz.func165, Tryz.ntmps165
  go_wp2_with fail
  have h0 : Row ((w.alloc (.cells (wdA (fun _ => 0)) 169)).alloc (.cells (wdA (fun _ => 0)) 169)) (w.heap.size + 1) (wdL (fun _ => 0)) 169 := by
    have := heap_alloc_new (w.alloc (.cells (wdA (fun _ => 0)) 169)) (.cells (wdA (fun _ => 0)) 169)
    simpa [Row] using this
  have h1 : Row ((w.alloc (.cells (wdA (fun _ => 0)) 169)).alloc (.cells (wdA (fun _ => 0)) 169)) w.heap.size (wdL (fun _ => 0)) 169 := Row.alloc (heap_alloc_new w _) _
  have H0 : Hid _ := h0
  have H1 : Hid _ := h1
  clear h0 h1
  go_loopw [8] (fun u wr => ∃ i : Nat, i ≤ ln ∧ u = .int .i64 i ∧ Row wr (w.heap.size + 1) (wdL (upto4 F i)) 169 ∧ Row wr w.heap.size (wdL (fun _ => 0)) 169 ∧ Below w.heap.size w wr) (fun u _ => ln - (intOf u).toNat)
  case atStart => exact ⟨0, by omega, rfl, H0.out, H1.out, ((Below.refl _ _).alloc (Nat.le_refl _) _).alloc (by simp) _⟩
  case round =>
    obtain ⟨i, hi, rfl, hr1, hr0, hb⟩ := hrel
    have rp0 := (hb.cell (p := ⟨g, o, none⟩) lg).trans hp0
    by_cases hlt : i < ln
    · have hi4 : i < 4 := by omega
      have HF : Hid _ := HR.out i hlt (by omega)
      have hc : wr.cell? ⟨w.heap.size + 1, i, none⟩ = some (.int .i64 (upto4 F i i)) := by rw [hr1.cell, upto4_at F hi4]
      have hf := hr1.frozen i
      have hww := hW (y + i) wr hb (by omega)
      rw [← HY.out, ← HF.out] at hww
      have HS1 : Hid _ := upto4_set F hi4
      have HR1 : Hid (Row wr (w.heap.size + 1) (wdL (upto4 F i)) 169) := hr1
      have HR0 : Hid (Row wr w.heap.size (wdL (fun _ => 0)) 169) := hr0
      have HB : Hid _ := hb
      generalize upto4 F i i = zz at *
      clear hW hr1 hr0 hb
      rw [HY.out, show ((y + i : Nat) : Int) = (y : Int) + (i : Int) by omega] at hww
      go_wp2_with fail
      refine hww.mono ?_; rintro e w' ⟨rfl, rfl⟩
      clear hww
      have hR2 := Row.setCell (w := w') (g := w.heap.size + 1) (A := wdL (upto4 F i)) (t := 169) HR1.out i (.int .i64 (F i))
      rw [HS1.out] at hR2
      have hR3 := Row.setCellOther (w := w') (k := w.heap.size) (A := wdL (fun _ => 0)) (t := 169) HR0.out i (.int .i64 (F i)) (show w.heap.size ≠ w.heap.size + 1 by omega)
      have hB2 := HB.out.setCell (show w.heap.size ≤ (⟨w.heap.size + 1, i, none⟩ : Addr).block by show w.heap.size ≤ w.heap.size + 1; omega) (.int .i64 (F i))
      have HR2 : Hid _ := hR2
      have HR3 : Hid _ := hR3
      have HB2 : Hid _ := hB2
      clear hR2 hR3 hB2
      go_wp2_with fail
      go_roundw
      case rel => exact ⟨i + 1, by omega, by go_num, HR2.out, HR3.out, HB2.out⟩
      case measure => simp [intOf]; omega
    · have ei : i = ln := by omega
      have HA : Hid (upto4 F i = F) := by
        unfold Hid
        funext k
        unfold upto4
        by_cases hk : k < i
        · rw [if_pos hk]
        · rw [if_neg hk, HZ.out k (by omega)]
      rw [HA.out] at hr1
      clear ei
      have a0 : wr.cell? ⟨w.heap.size + 1, 0, none⟩ = some (.int .i64 (F 0)) := by rw [hr1.cell]; rfl
      have a1 : wr.cell? ⟨w.heap.size + 1, 1, none⟩ = some (.int .i64 (F 1)) := by rw [hr1.cell]; rfl
      have a2 : wr.cell? ⟨w.heap.size + 1, 2, none⟩ = some (.int .i64 (F 2)) := by rw [hr1.cell]; rfl
      have a3 : wr.cell? ⟨w.heap.size + 1, 3, none⟩ = some (.int .i64 (F 3)) := by rw [hr1.cell]; rfl
      have b0 : wr.cell? ⟨w.heap.size, 0, none⟩ = some (.int .i64 0) := by rw [hr0.cell]; rfl
      have b1 : wr.cell? ⟨w.heap.size, 1, none⟩ = some (.int .i64 0) := by rw [hr0.cell]; rfl
      have b2 : wr.cell? ⟨w.heap.size, 2, none⟩ = some (.int .i64 0) := by rw [hr0.cell]; rfl
      have b3 : wr.cell? ⟨w.heap.size, 3, none⟩ = some (.int .i64 0) := by rw [hr0.cell]; rfl
      have f0 := hr0.frozen 0
      have f1 := hr0.frozen 1
      have f2 := hr0.frozen 2
      have f3 := hr0.frozen 3
      have q : Row ((((wr.setCell ⟨w.heap.size, 0, none⟩ (.int .i64 (F 0))).setCell ⟨w.heap.size, 1, none⟩ (.int .i64 (F 1))).setCell ⟨w.heap.size, 2, none⟩ (.int .i64 (F 2))).setCell ⟨w.heap.size, 3, none⟩ (.int .i64 (F 3))) w.heap.size (wdL F) 169 := (((hr0.setCell 0 _).setCell 1 _).setCell 2 _).setCell 3 _
      have q0 := q.cell 0
      have q1 := q.cell 1
      have q2 := q.cell 2
      have q3 := q.cell 3
      have HB : Hid _ := hb
      clear hW hr1 hr0 hb q
      go_wp2
      refine bodyPost_ret (v := .agg (wdA F)) (by simp [results, Tryz.results165, go_sem, q0, q1, q2, q3]) rfl ⟨rfl, ?_⟩
      exact (((HB.out.setCell (Nat.le_refl _) _).setCell (Nat.le_refl _) _).setCell (Nat.le_refl _) _).setCell (Nat.le_refl _) _
end Go.Proofs.YtehheaedbnfidaaGreat
