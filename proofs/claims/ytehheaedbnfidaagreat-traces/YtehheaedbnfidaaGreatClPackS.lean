/-
  NewE, NewF
-/
import Derived.Test.YtehheaedbnfidaaGreatClPackR
import Derived.Test.YtehheaedbnfidaaGreatClCopy
import Derived.Test.YtehheaedbnfidaaGreatClTbl
import Derived.Test.YtehheaedbnfidaaGreatClPackK
namespace Go.Proofs.YtehheaedbnfidaaGreat
open Go.RowKit

theorem ints_src {w : World} {sa : Option Addr} {len cap : Nat} {xs : List Int} (h : Ints w sa len cap xs) (h0 : 0 < len) : ∃ ad, sa = some ad ∧ ∀ j v, (xs.map (Value.int .i64))[j]? = some v → w.cell? (ad.add j) = some v := by
  obtain ⟨b, off, h1, _⟩ := h.hat 0 h0
  refine ⟨⟨b, off, none⟩, h1, fun j v hj => ?_⟩
  have hlt : j < xs.length := by
    have := (List.getElem?_eq_some_iff.1 hj).1
    simpa using this
  obtain ⟨b', off', h2, h3⟩ := h.hat j (by rw [← h.hlen]; exact hlt)
  rw [h1] at h2
  simp only [Option.some.injEq, Addr.mk.injEq] at h2
  obtain ⟨rfl, rfl, _⟩ := h2
  rw [add_plain', h3]
  rw [List.getElem?_map] at hj
  simp [List.getElem?_eq_getElem hlt] at hj
  simp [List.getD, List.getElem?_eq_getElem hlt, hj]

set_option maxRecDepth 100000 in
set_option maxHeartbeats 1600000 in
theorem kcopyOf_any (sa : Option Addr) (len cap : Nat) (xs : List Int) (w : World) (h : Ints w sa len cap xs) (hl : len ≤ 8) :
    Calls Tryz.prog 136 #[.slice sa len cap] w fun e w' => e = .returned (.slice (some ⟨w.heap.size, 0, none⟩) len len) ∧ w' = w.alloc (.cells (xs.map (Value.int .i64)).toArray 3) := by
  obtain ⟨i0, hi0, hz0, hz1, hz2⟩ := info_parts Tryz.infoInt
  have hcp := run_copy_made (P := Tryz.prog) w 25 25 3 3 1 Tryz.underlying25 (by rw [hi0]; simp [hz1]) sa len len cap (#[.int .i64 0]) 3 (xs.map (Value.int .i64)) (by rw [List.length_map, h.hlen]; omega) (fun h0 => ints_src h h0) (fun v hv => by rw [List.mem_map] at hv; obtain ⟨a, _, rfl⟩ := hv; rfl)
  rw [Nat.mul_one] at hcp
  clear h
  go_enter Tryz.func136, Tryz.ntmps136
  go_wp2_with (at_make; refine wpList_make_exact _ rfl _ _ 25 rfl 3 i0 _ Tryz.underlying25 hi0 hz0 .i64 .i64 _ _ len rfl rfl (by simp) (by simp) (by rw [hz2]; omega) (by unfold maxLen; omega) ?_; rw [hz1])
  go_ret
  exact ⟨rfl, rfl⟩

set_option maxRecDepth 100000 in
set_option maxHeartbeats 1600000 in
theorem kwaysOf_any (c : Cf) (s : Sl) (d : Int) (w : World) (h : CfgAt w c s) :
    Calls Tryz.prog 108 #[cfgV c s, .int .i64 d] w fun e w' => e = .returned (.int .i64 (c.ways.count d : Nat)) ∧ Below w.heap.size w w' := by
  have k0 := Kept.start w (cfgA c s) 43
  have hC := fun w' (hb : Below w.heap.size w w') => count_any s.wa s.wl s.wc c.ways d w' (h.ways.below hb (Nat.le_refl _))
  go_enter Tryz.func108, Tryz.ntmps108
  go_wp2_with fail
  refine (hC _ k0.below).mono ?_; rintro e w' ⟨rfl, rfl⟩
  go_wp2
  go_ret
  exact ⟨rfl, k0.below⟩

/-- The slices of the copy. -/
def copySl (s : Sl) (g : Nat) : Sl := ⟨some ⟨g + 2, 0, none⟩, s.wl, s.wl, some ⟨g + 3, 0, none⟩, s.sl, s.sl, some ⟨g + 4, 0, none⟩, s.tl, s.tl⟩

structure CopyP (w wr : World) (c : Cf) (s : Sl) (j : Nat) (T : List Value) (B : Nat → Nat) : Prop where
  cbox : Row wr w.heap.size (cfgL c ⟨some ⟨w.heap.size + 2, 0, none⟩, s.wl, s.wl, some ⟨w.heap.size + 3, 0, none⟩, s.sl, s.sl, s.ta, s.tl, s.tc⟩) 43
  res : Row wr (w.heap.size + 1) [.int .i64 0, .int .i64 0, .int .i64 0, .int .i64 0, .int .i64 0, .int .i64 0, .int .i64 0, .slice none 0 0, .int .i64 0, .slice none 0 0, .slice none 0 0, .int .i64 0, .int .i64 0] 43
  ways : Row wr (w.heap.size + 2) (c.ways.map (Value.int .i64)) 3
  slots : Row wr (w.heap.size + 3) (c.slots.map (Value.int .i64)) 3
  row : Row wr (w.heap.size + 4) T 25
  len : T.length = s.tl
  old : ∀ i, j ≤ i → i < s.tl → T[i]? = some (.slice none 0 0)
  at' : ∀ i, i < j → T[i]? = some (.slice (some ⟨B i, 0, none⟩) (c.turns.getD i []).length (c.turns.getD i []).length) ∧ Row wr (B i) ((c.turns.getD i []).map (Value.int .i64)) 3 ∧ w.heap.size + 5 ≤ B i
  bel : Below w.heap.size w wr

theorem CopyP.more {w wr : World} {c : Cf} {s : Sl} {j : Nat} {T : List Value} {B : Nat → Nat} (h : CopyP w wr c s j T B) (hj : j < s.tl) :
    CopyP w ((wr.setCell ⟨w.heap.size + 4, j, none⟩ (.slice (some ⟨wr.heap.size, 0, none⟩) (c.turns.getD j []).length (c.turns.getD j []).length)).alloc (.cells ((c.turns.getD j []).map (Value.int .i64)).toArray 3)) c s (j + 1) (T.set j (.slice (some ⟨wr.heap.size, 0, none⟩) (c.turns.getD j []).length (c.turns.getD j []).length)) (up1 B j wr.heap.size) := by
  have l5 : w.heap.size + 5 ≤ wr.heap.size := by have := h.row.lt; omega
  have hz : (wr.setCell ⟨w.heap.size + 4, j, none⟩ (.slice (some ⟨wr.heap.size, 0, none⟩) (c.turns.getD j []).length (c.turns.getD j []).length)).heap.size = wr.heap.size := by simp [World.setCell]
  have n1 : ∀ {g A t}, Row wr g A t → g ≠ w.heap.size + 4 → Row ((wr.setCell ⟨w.heap.size + 4, j, none⟩ (.slice (some ⟨wr.heap.size, 0, none⟩) (c.turns.getD j []).length (c.turns.getD j []).length)).alloc (.cells ((c.turns.getD j []).map (Value.int .i64)).toArray 3)) g A t := fun hr hg => (hr.setCellOther _ _ hg).alloc _
  refine ⟨n1 h.cbox (by omega), n1 h.res (by omega), n1 h.ways (by omega), n1 h.slots (by omega), (h.row.setCell j _).alloc _, by rw [List.length_set]; exact h.len, fun i hi hi2 => ?_, fun i hi => ?_, ?_⟩
  · rw [List.getElem?_set_ne (by omega)]
    exact h.old i (by omega) hi2
  · by_cases e : i = j
    · subst e
      simp only [up1, if_true]
      refine ⟨List.getElem?_set_self (by rw [h.len]; exact hj), ?_, by omega⟩
      have := heap_alloc_new (wr.setCell ⟨w.heap.size + 4, i, none⟩ (.slice (some ⟨wr.heap.size, 0, none⟩) (c.turns.getD i []).length (c.turns.getD i []).length)) (.cells ((c.turns.getD i []).map (Value.int .i64)).toArray 3)
      rw [hz] at this
      exact this
    · obtain ⟨a1, a2, a3⟩ := h.at' i (by omega)
      simp only [up1, e, if_false]
      exact ⟨by rw [List.getElem?_set_ne (Ne.symm e)]; exact a1, n1 a2 (by omega), a3⟩
  · exact (h.bel.setCell (show w.heap.size ≤ w.heap.size + 4 by omega) _).alloc (by rw [hz]; omega) _

theorem row_ints {w : World} {g : Nat} {xs : List Int} (h : Row w g (xs.map (Value.int .i64)) 3) (hl : xs.length ≤ maxLen) : Ints w (some ⟨g, 0, none⟩) xs.length xs.length xs :=
  ⟨rfl, Nat.le_refl _, hl, (fun e => by cases e), fun i hi => ⟨g, 0, rfl, by
    rw [Nat.zero_add, h.cell, List.getElem?_map, List.getElem?_eq_getElem hi]
    simp [List.getD, hi]⟩⟩

/-- The copy is made. -/
theorem CopyP.done {w wr W : World} {c : Cf} {s : Sl} {T : List Value} {B : Nat → Nat} (h : CopyP w wr c s s.tl T B) (hl : c.ways.length = s.wl ∧ c.slots.length = s.sl ∧ c.turns.length = s.tl) (hm : c.ways.length ≤ 8 ∧ c.slots.length ≤ 8 ∧ c.turns.length ≤ 3 ∧ ∀ i, i < s.tl → (c.turns.getD i []).length ≤ 4) (hW : ∀ g, w.heap.size + 2 ≤ g → W.heap[g]? = wr.heap[g]?) (hS : W.heap.size = wr.heap.size) :
    CfgAt W c (copySl s w.heap.size) ∧ ∀ b, CfgB (copySl s w.heap.size) W b → w.heap.size ≤ b ∧ b < W.heap.size := by
  have m8 : 8 ≤ maxLen := by unfold maxLen; omega
  have rW : ∀ {g A t}, Row wr g A t → w.heap.size + 2 ≤ g → Row W g A t := fun hr hg => hr.same (hW _ hg)
  have hrow := rW h.row (by omega)
  refine ⟨⟨?_, ?_, ⟨hl.2.2, Nat.le_refl _, by show s.tl ≤ maxLen; omega, (fun e => by cases e), fun i hi => ?_⟩⟩, fun b hb => ?_⟩
  · have := row_ints (rW h.ways (by omega)) (by omega)
    rw [hl.1] at this
    exact this
  · have := row_ints (rW h.slots (by omega)) (by omega)
    rw [hl.2.1] at this
    exact this
  · obtain ⟨a1, a2, a3⟩ := h.at' i hi
    refine ⟨w.heap.size + 4, 0, some ⟨B i, 0, none⟩, _, _, rfl, by rw [Nat.zero_add, hrow.cell]; exact a1, row_ints (rW a2 (by omega)) (by have := hm.2.2.2 i hi; omega)⟩
  · rw [hS]
    rcases hb with ⟨off, e⟩ | ⟨off, e⟩ | ⟨off, e⟩ | ⟨i, tb, toff, off, il, ic, h1, h2, h3⟩
    · simp only [copySl, Option.some.injEq, Addr.mk.injEq] at e
      have := h.ways.lt
      omega
    · simp only [copySl, Option.some.injEq, Addr.mk.injEq] at e
      have := h.slots.lt
      omega
    · simp only [copySl, Option.some.injEq, Addr.mk.injEq] at e
      have := h.row.lt
      omega
    · simp only [copySl, Option.some.injEq, Addr.mk.injEq] at h2
      obtain ⟨rfl, rfl, _⟩ := h2
      obtain ⟨a1, a2, a3⟩ := h.at' i h1
      rw [Nat.zero_add, hrow.cell, a1] at h3
      simp only [Option.some.injEq, Value.slice.injEq, Addr.mk.injEq] at h3
      have := a2.lt
      omega

theorem made_at (v : Value) {n i : Nat} (hi : i < n) : (madeCells #[v] n).toList[i]? = some v := by
  rw [Array.getElem?_toList]
  simp [madeCells, hi, Nat.mod_one]

abbrev zeroCfg : Array Value := #[.int .i64 0, .int .i64 0, .int .i64 0, .int .i64 0, .int .i64 0, .int .i64 0, .int .i64 0, .slice none 0 0, .int .i64 0, .slice none 0 0, .slice none 0 0, .int .i64 0, .int .i64 0]

theorem CopyP.start (w : World) (c : Cf) (s : Sl) : CopyP w (((((w.alloc (.cells (cfgA c ⟨some ⟨w.heap.size + 2, 0, none⟩, s.wl, s.wl, some ⟨w.heap.size + 3, 0, none⟩, s.sl, s.sl, s.ta, s.tl, s.tc⟩) 43)).alloc (.cells zeroCfg 43)).alloc (.cells (c.ways.map (Value.int .i64)).toArray 3)).alloc (.cells (c.slots.map (Value.int .i64)).toArray 3)).alloc (.cells (madeCells #[.slice none 0 0] s.tl) 25)) c s 0 (madeCells #[.slice none 0 0] s.tl).toList (fun _ => 0) := by
  have hn : ∀ (W : World) (A : List Value) (t : TypeId) (n : Nat), W.heap.size = n → Row (W.alloc (.cells A.toArray t)) n A t := fun W A t n e => by
    subst e
    exact heap_alloc_new W _
  refine ⟨((((hn w _ _ _ rfl).alloc _).alloc _).alloc _).alloc _, (((hn _ [.int .i64 0, .int .i64 0, .int .i64 0, .int .i64 0, .int .i64 0, .int .i64 0, .int .i64 0, .slice none 0 0, .int .i64 0, .slice none 0 0, .slice none 0 0, .int .i64 0, .int .i64 0] _ _ (by simp)).alloc _).alloc _).alloc _, ((hn _ _ _ _ (by simp)).alloc _).alloc _, (hn _ _ _ _ (by simp)).alloc _, ?_, by rw [Array.length_toList, made_size], fun i _ hi => made_at _ hi, fun i hi => by omega, (((((Below.refl _ _).alloc (Nat.le_refl _) _).alloc (by simp) _).alloc (by simp; omega) _).alloc (by simp; omega) _).alloc (by simp; omega) _⟩
  have := hn ((((w.alloc (.cells (cfgA c ⟨some ⟨w.heap.size + 2, 0, none⟩, s.wl, s.wl, some ⟨w.heap.size + 3, 0, none⟩, s.sl, s.sl, s.ta, s.tl, s.tc⟩) 43)).alloc (.cells zeroCfg 43)).alloc (.cells (c.ways.map (Value.int .i64)).toArray 3)).alloc (.cells (c.slots.map (Value.int .i64)).toArray 3)) (madeCells #[.slice none 0 0] s.tl).toList 25 (w.heap.size + 4) (by simp)
  rw [Array.toArray_toList] at this
  exact this

/-- The world behind the copy. -/
def finW (wr : World) (g : Nat) (c : Cf) (s : Sl) : World := ((((((((((((((wr.setCell ⟨g, 10, none⟩ (.slice (some ⟨g + 1 + 1 + 1 + 1, 0, none⟩) s.tl s.tl)).setCell ⟨g + 1, 0, none⟩ (.int .i64 c.cores)).setCell ⟨g + 1, 1, none⟩ (.int .i64 c.domains)).setCell ⟨g + 1, 2, none⟩ (.int .i64 c.line)).setCell ⟨g + 1, 3, none⟩ (.int .i64 c.priv)).setCell ⟨g + 1, 4, none⟩ (.int .i64 c.shared)).setCell ⟨g + 1, 5, none⟩ (.int .i64 c.near)).setCell ⟨g + 1, 6, none⟩ (.int .i64 c.sets)).setCell ⟨g + 1, 7, none⟩ (.slice (some ⟨g + 2, 0, none⟩) s.wl s.wl)).setCell ⟨g + 1, 8, none⟩ (.int .i64 c.slot)).setCell ⟨g + 1, 9, none⟩ (.slice (some ⟨g + 3, 0, none⟩) s.sl s.sl)).setCell ⟨g + 1, 10, none⟩ (.slice (some ⟨g + 1 + 1 + 1 + 1, 0, none⟩) s.tl s.tl)).setCell ⟨g + 1, 11, none⟩ (.int .i64 c.quantum)).setCell ⟨g + 1, 12, none⟩ (.int .i64 c.flush))

theorem finW_size (wr : World) (g : Nat) (c : Cf) (s : Sl) : (finW wr g c s).heap.size = wr.heap.size := by
  unfold finW
  simp only [World.size_setCell]
theorem finW_heap (wr : World) (g : Nat) (c : Cf) (s : Sl) (k : Nat) (h1 : k ≠ g) (h2 : k ≠ g + 1) : (finW wr g c s).heap[k]? = wr.heap[k]? := by
  unfold finW
  rw [Below.heap_setCell _ _ _ _ h2, Below.heap_setCell _ _ _ _ h2, Below.heap_setCell _ _ _ _ h2, Below.heap_setCell _ _ _ _ h2, Below.heap_setCell _ _ _ _ h2, Below.heap_setCell _ _ _ _ h2, Below.heap_setCell _ _ _ _ h2, Below.heap_setCell _ _ _ _ h2, Below.heap_setCell _ _ _ _ h2, Below.heap_setCell _ _ _ _ h2, Below.heap_setCell _ _ _ _ h2, Below.heap_setCell _ _ _ _ h2, Below.heap_setCell _ _ _ _ h2, Below.heap_setCell _ _ _ _ h1]
theorem finW_row {wr : World} {g : Nat} {A : List Value} (c : Cf) (s : Sl) (h : Row wr (g + 1) A 43) (hl : A.length = 13) : Row (finW wr g c s) (g + 1) (cfgL c (copySl s g)) 43 := by
  have h1 := (((((((((((((h.setCellOther (g := g) 10 (.slice (some ⟨g + 1 + 1 + 1 + 1, 0, none⟩) s.tl s.tl) (by omega)).setCell 0 (.int .i64 c.cores)).setCell 1 (.int .i64 c.domains)).setCell 2 (.int .i64 c.line)).setCell 3 (.int .i64 c.priv)).setCell 4 (.int .i64 c.shared)).setCell 5 (.int .i64 c.near)).setCell 6 (.int .i64 c.sets)).setCell 7 (.slice (some ⟨g + 2, 0, none⟩) s.wl s.wl)).setCell 8 (.int .i64 c.slot)).setCell 9 (.slice (some ⟨g + 3, 0, none⟩) s.sl s.sl)).setCell 10 (.slice (some ⟨g + 1 + 1 + 1 + 1, 0, none⟩) s.tl s.tl)).setCell 11 (.int .i64 c.quantum)).setCell 12 (.int .i64 c.flush)
  have hA : ∃ a0 a1 a2 a3 a4 a5 a6 a7 a8 a9 a10 a11 a12, A = [a0, a1, a2, a3, a4, a5, a6, a7, a8, a9, a10, a11, a12] := by
    match A, hl with
    | [a0, a1, a2, a3, a4, a5, a6, a7, a8, a9, a10, a11, a12], _ => exact ⟨a0, a1, a2, a3, a4, a5, a6, a7, a8, a9, a10, a11, a12, rfl⟩
  obtain ⟨a0, a1, a2, a3, a4, a5, a6, a7, a8, a9, a10, a11, a12, rfl⟩ := hA
  exact h1

end Go.Proofs.YtehheaedbnfidaaGreat

namespace Go.Proofs.YtehheaedbnfidaaGreat
open Go.RowKit

theorem CopyP.fin {w wr W : World} {c : Cf} {s : Sl} {T : List Value} {B : Nat → Nat} (h : CopyP w wr c s s.tl T B) (hl : c.ways.length = s.wl ∧ c.slots.length = s.sl ∧ c.turns.length = s.tl) (hm : c.ways.length ≤ 8 ∧ c.slots.length ≤ 8 ∧ c.turns.length ≤ 3 ∧ ∀ i, i < s.tl → (c.turns.getD i []).length ≤ 4)
    (hh : ∀ g, w.heap.size + 2 ≤ g → W.heap[g]? = wr.heap[g]?) (hs : W.heap.size = wr.heap.size) (hr : Row W (w.heap.size + 1) (cfgL c (copySl s w.heap.size)) 43) (ho : W.os = wr.os ∧ W.tape = wr.tape ∧ W.output = wr.output) (hlo : ∀ g, g < w.heap.size → W.heap[g]? = wr.heap[g]?) :
    (CfgAt W c (copySl s w.heap.size) ∧ ∀ b, CfgB (copySl s w.heap.size) W b → w.heap.size ≤ b ∧ b < W.heap.size) ∧ Row W (w.heap.size + 1) (cfgL c (copySl s w.heap.size)) 43 ∧ Below w.heap.size w W :=
  ⟨h.done hl hm hh hs, hr, ⟨ho.1.trans h.bel.os, ho.2.1.trans h.bel.tape, ho.2.2.trans h.bel.output, by rw [hs]; exact h.bel.size, fun b hb => (hlo b hb).trans (h.bel.block b hb)⟩⟩

theorem finW_all {wr W : World} {g : Nat} {A : List Value} (c : Cf) (s : Sl) (hW : Hid (W = finW wr g c s)) (h : Row wr (g + 1) A 43) (hl : A.length = 13) :
    (∀ k, k ≠ g → k ≠ g + 1 → W.heap[k]? = wr.heap[k]?) ∧ W.heap.size = wr.heap.size ∧ Row W (g + 1) (cfgL c (copySl s g)) 43 ∧ (W.os = wr.os ∧ W.tape = wr.tape ∧ W.output = wr.output) := by
  have e := hW.out
  have h1 := fun k a b => finW_heap wr g c s k a b
  have h2 := finW_size wr g c s
  have h3 := finW_row c s h hl
  have hb : Below g wr (finW wr g c s) := by
    unfold finW
    refine Below.setCell ?_ (by show g ≤ g + 1; omega) _
    refine Below.setCell ?_ (by show g ≤ g + 1; omega) _
    refine Below.setCell ?_ (by show g ≤ g + 1; omega) _
    refine Below.setCell ?_ (by show g ≤ g + 1; omega) _
    refine Below.setCell ?_ (by show g ≤ g + 1; omega) _
    refine Below.setCell ?_ (by show g ≤ g + 1; omega) _
    refine Below.setCell ?_ (by show g ≤ g + 1; omega) _
    refine Below.setCell ?_ (by show g ≤ g + 1; omega) _
    refine Below.setCell ?_ (by show g ≤ g + 1; omega) _
    refine Below.setCell ?_ (by show g ≤ g + 1; omega) _
    refine Below.setCell ?_ (by show g ≤ g + 1; omega) _
    refine Below.setCell ?_ (by show g ≤ g + 1; omega) _
    refine Below.setCell ?_ (by show g ≤ g + 1; omega) _
    exact (Below.refl g wr).setCell (Nat.le_refl _) _
  have h4 : (finW wr g c s).os = wr.os ∧ (finW wr g c s).tape = wr.tape ∧ (finW wr g c s).output = wr.output := ⟨hb.os, hb.tape, hb.output⟩
  clear hb
  rw [← e] at h1 h2 h3 h4
  exact ⟨h1, h2, h3, h4⟩

set_option maxRecDepth 100000 in
set_option maxHeartbeats 16000000 in
theorem kcopy_any (c : Cf) (s : Sl) (w : World) (h : CfgAt w c s) (hz : chk c = 0) :
    Calls Tryz.prog 105 #[cfgV c s] w fun e w' => e = .returned (cfgV c (copySl s w.heap.size)) ∧ CfgAt w' c (copySl s w.heap.size) ∧ Below w.heap.size w w' ∧ ∀ b, CfgB (copySl s w.heap.size) w' b → w.heap.size ≤ b ∧ b < w'.heap.size := by
  obtain ⟨i0, hi0, hz0, hz1, hz2⟩ := info_parts Tryz.infoIntsN
  have R := right_of hz
  have sl8 : s.sl ≤ 8 := by have := h.slots.hlen; have := R.t2; omega
  have tl3 : s.tl ≤ 3 := by have := h.turns.hlen; have := R.tl; have := R.c2; omega
  have wl8 : s.wl ≤ 8 := by
    have h1 := (chk_zero hz).2.1
    have h2 := h.ways.hlen
    simp only [waysB, listB, Bool.and_eq_true, decide_eq_true_eq] at h1
    omega
  have hW1 := fun (w' : World) (hb : Below w.heap.size w w') => kcopyOf_any s.wa s.wl s.wc c.ways w' (h.ways.below hb (Nat.le_refl _)) wl8
  have hS1 := fun (w' : World) (hb : Below w.heap.size w w') => kcopyOf_any s.sa s.sl s.sc c.slots w' (h.slots.below hb (Nat.le_refl _)) sl8
  have HLN : Hid (c.ways.length = s.wl ∧ c.slots.length = s.sl ∧ c.turns.length = s.tl) := ⟨h.ways.hlen, h.slots.hlen, h.turns.hlen⟩
  have HLM : Hid (c.ways.length ≤ 8 ∧ c.slots.length ≤ 8 ∧ c.turns.length ≤ 3 ∧ ∀ i, i < s.tl → (c.turns.getD i []).length ≤ 4) := by
    have e1 := h.ways.hlen
    have e2 := h.slots.hlen
    have e3 := h.turns.hlen
    exact ⟨by omega, by omega, by omega, fun i hi => (grid_row R (by omega)).1⟩
  have HC : Hid _ := h
  have b0 : ∀ A B : Obj, Below w.heap.size w ((w.alloc A).alloc B) := fun A B => ((Below.refl _ _).alloc (Nat.le_refl _) _).alloc (by simp) _
  clear hz R
  go_enter Tryz.func105, Tryz.ntmps105
  go_wp2_with fail
  refine (hW1 _ (b0 _ _)).mono ?_; rintro e w1 ⟨rfl, rfl⟩
  go_wp2_with fail
  refine (hS1 _ ((((Below.refl w.heap.size w).alloc (Nat.le_refl _) _).alloc (by simp) _).alloc (by simp; omega) _)).mono ?_; rintro e w1 ⟨rfl, rfl⟩
  go_wp2_with (at_make; refine wpList_make_exact _ rfl _ _ 41 rfl 25 i0 _ Tryz.underlying41 hi0 hz0 .i64 .i64 _ _ s.tl rfl rfl (by simp) (by simp) (by rw [hz2]; omega) (by unfold maxLen; omega) ?_; rw [hz1])
  go_loopw [4] (fun u wr => ∃ (j : Nat) (T : List Value) (B : Nat → Nat), j ≤ s.tl ∧ u = .int .i64 j ∧ CopyP w wr c s j T B) (fun u _ => s.tl - (intOf u).toNat)
  case atStart =>
    refine ⟨0, (madeCells #[.slice none 0 0] s.tl).toList, fun _ => 0, by omega, rfl, ?_⟩
    have := CopyP.start w c s
    first | exact this | (rw [Nat.mul_one]; exact this)
  case round =>
    obtain ⟨j, T, B, hj, rfl, hP⟩ := hrel
    have c10 : wr.cell? ⟨w.heap.size, 10, none⟩ = some (.slice s.ta s.tl s.tc) := hP.cbox.cell 10
    have HP : Hid _ := hP
    by_cases hlt : j < s.tl
    · obtain ⟨tb, toff, ia, il, ic, e1, e2, e3⟩ := HC.out.turns.hat j hlt
      have ct : wr.cell? ⟨tb, toff + j, none⟩ = some (.slice ia il ic) := (hP.bel.cell (p := ⟨tb, toff + j, none⟩) (cell_lt e2)).trans e2
      have hil := e3.hlen
      have hil4 := HLM.out.2.2.2 j hlt
      have hCp := kcopyOf_any ia il ic (c.turns.getD j []) wr (e3.below hP.bel (Nat.le_refl _)) (by omega)
      have HM : Hid _ := hP.more hlt
      rw [hil] at HM
      have cT : wr.cell? ⟨w.heap.size + 4, j, none⟩ = some (.slice none 0 0) := by rw [hP.row.cell]; exact hP.old j (Nat.le_refl _) hlt
      have fT := hP.row.frozen j
      have lT := hP.row.lt
      rw [e1] at c10
      have HE1 : Hid _ := e1
      clear hP e1 e2 e3 hW1 hS1
      go_wp2_with fail
      refine hCp.mono ?_; rintro e w2 ⟨rfl, rfl⟩
      clear hCp
      go_wp2_with fail
      go_roundw
      case rel => first | exact ⟨j + 1, _, _, by omega, by go_num, HM.out⟩ | ((repeat apply Exists.intro); exact ⟨⟨j + 1, _, _, by omega, by go_num, HM.out⟩, rfl⟩)
      case measure => simp [intOf]; omega
    · have ej : j = s.tl := by omega
      subst ej
      have cx0 : wr.cell? ⟨w.heap.size, 0, none⟩ = some (.int .i64 c.cores) := hP.cbox.cell 0
      have cx1 : wr.cell? ⟨w.heap.size, 1, none⟩ = some (.int .i64 c.domains) := hP.cbox.cell 1
      have cx2 : wr.cell? ⟨w.heap.size, 2, none⟩ = some (.int .i64 c.line) := hP.cbox.cell 2
      have cx3 : wr.cell? ⟨w.heap.size, 3, none⟩ = some (.int .i64 c.priv) := hP.cbox.cell 3
      have cx4 : wr.cell? ⟨w.heap.size, 4, none⟩ = some (.int .i64 c.shared) := hP.cbox.cell 4
      have cx5 : wr.cell? ⟨w.heap.size, 5, none⟩ = some (.int .i64 c.near) := hP.cbox.cell 5
      have cx6 : wr.cell? ⟨w.heap.size, 6, none⟩ = some (.int .i64 c.sets) := hP.cbox.cell 6
      have cx7 : wr.cell? ⟨w.heap.size, 7, none⟩ = some (.slice (some ⟨w.heap.size + 2, 0, none⟩) s.wl s.wl) := hP.cbox.cell 7
      have cx8 : wr.cell? ⟨w.heap.size, 8, none⟩ = some (.int .i64 c.slot) := hP.cbox.cell 8
      have cx9 : wr.cell? ⟨w.heap.size, 9, none⟩ = some (.slice (some ⟨w.heap.size + 3, 0, none⟩) s.sl s.sl) := hP.cbox.cell 9
      have cx11 : wr.cell? ⟨w.heap.size, 11, none⟩ = some (.int .i64 c.quantum) := hP.cbox.cell 11
      have cx12 : wr.cell? ⟨w.heap.size, 12, none⟩ = some (.int .i64 c.flush) := hP.cbox.cell 12
      have fx10 := hP.cbox.frozen 10
      have r0 : wr.cell? ⟨w.heap.size + 1, 0, none⟩ = some (.int .i64 0) := hP.res.cell 0
      have r1 : wr.cell? ⟨w.heap.size + 1, 1, none⟩ = some (.int .i64 0) := hP.res.cell 1
      have r2 : wr.cell? ⟨w.heap.size + 1, 2, none⟩ = some (.int .i64 0) := hP.res.cell 2
      have r3 : wr.cell? ⟨w.heap.size + 1, 3, none⟩ = some (.int .i64 0) := hP.res.cell 3
      have r4 : wr.cell? ⟨w.heap.size + 1, 4, none⟩ = some (.int .i64 0) := hP.res.cell 4
      have r5 : wr.cell? ⟨w.heap.size + 1, 5, none⟩ = some (.int .i64 0) := hP.res.cell 5
      have r6 : wr.cell? ⟨w.heap.size + 1, 6, none⟩ = some (.int .i64 0) := hP.res.cell 6
      have r7 : wr.cell? ⟨w.heap.size + 1, 7, none⟩ = some (.slice none 0 0) := hP.res.cell 7
      have r8 : wr.cell? ⟨w.heap.size + 1, 8, none⟩ = some (.int .i64 0) := hP.res.cell 8
      have r9 : wr.cell? ⟨w.heap.size + 1, 9, none⟩ = some (.slice none 0 0) := hP.res.cell 9
      have r10 : wr.cell? ⟨w.heap.size + 1, 10, none⟩ = some (.slice none 0 0) := hP.res.cell 10
      have r11 : wr.cell? ⟨w.heap.size + 1, 11, none⟩ = some (.int .i64 0) := hP.res.cell 11
      have r12 : wr.cell? ⟨w.heap.size + 1, 12, none⟩ = some (.int .i64 0) := hP.res.cell 12
      have g0 := hP.res.frozen 0
      have g1 := hP.res.frozen 1
      have g2 := hP.res.frozen 2
      have g3 := hP.res.frozen 3
      have g4 := hP.res.frozen 4
      have g5 := hP.res.frozen 5
      have g6 := hP.res.frozen 6
      have g7 := hP.res.frozen 7
      have g8 := hP.res.frozen 8
      have g9 := hP.res.frozen 9
      have g10 := hP.res.frozen 10
      have g11 := hP.res.frozen 11
      have g12 := hP.res.frozen 12
      obtain ⟨W, hWW⟩ : ∃ W, Hid (W = finW wr w.heap.size c s) := ⟨_, rfl⟩
      obtain ⟨f1, f2, f3, f4⟩ := finW_all c s hWW hP.res rfl
      have HF : Hid _ := hP.fin HLN.out HLM.out (fun g hg => f1 g (by omega) (by omega)) f2 f3 f4 (fun g hg => f1 g (by omega) (by omega))
      clear f1 f2 f3 f4
      clear hP hW1 hS1
      go_wp2
      change bodyPost _ _ _ _ _ (finW wr w.heap.size c s)
      rw [← hWW.out]
      obtain ⟨hd, hq, hbl⟩ := HF.out
      clear HF
      clear hWW
      have q0 : W.cell? ⟨w.heap.size + 1, 0, none⟩ = some (.int .i64 c.cores) := Row.cell hq 0
      have q1 : W.cell? ⟨w.heap.size + 1, 1, none⟩ = some (.int .i64 c.domains) := Row.cell hq 1
      have q2 : W.cell? ⟨w.heap.size + 1, 2, none⟩ = some (.int .i64 c.line) := Row.cell hq 2
      have q3 : W.cell? ⟨w.heap.size + 1, 3, none⟩ = some (.int .i64 c.priv) := Row.cell hq 3
      have q4 : W.cell? ⟨w.heap.size + 1, 4, none⟩ = some (.int .i64 c.shared) := Row.cell hq 4
      have q5 : W.cell? ⟨w.heap.size + 1, 5, none⟩ = some (.int .i64 c.near) := Row.cell hq 5
      have q6 : W.cell? ⟨w.heap.size + 1, 6, none⟩ = some (.int .i64 c.sets) := Row.cell hq 6
      have q7 : W.cell? ⟨w.heap.size + 1, 7, none⟩ = some (.slice (some ⟨w.heap.size + 2, 0, none⟩) s.wl s.wl) := Row.cell hq 7
      have q8 : W.cell? ⟨w.heap.size + 1, 8, none⟩ = some (.int .i64 c.slot) := Row.cell hq 8
      have q9 : W.cell? ⟨w.heap.size + 1, 9, none⟩ = some (.slice (some ⟨w.heap.size + 3, 0, none⟩) s.sl s.sl) := Row.cell hq 9
      have q10 : W.cell? ⟨w.heap.size + 1, 10, none⟩ = some (.slice (some ⟨w.heap.size + 4, 0, none⟩) s.tl s.tl) := Row.cell hq 10
      have q11 : W.cell? ⟨w.heap.size + 1, 11, none⟩ = some (.int .i64 c.quantum) := Row.cell hq 11
      have q12 : W.cell? ⟨w.heap.size + 1, 12, none⟩ = some (.int .i64 c.flush) := Row.cell hq 12
      refine bodyPost_ret (v := cfgV c (copySl s w.heap.size)) (by simp [results, Tryz.results105, go_sem, q0, q1, q2, q3, q4, q5, q6, q7, q8, q9, q10, q11, q12, copySl]) rfl ⟨rfl, ?_, ?_, ?_⟩
      · exact hd.1
      · exact hbl
      · exact hd.2
end Go.Proofs.YtehheaedbnfidaaGreat
