/-
  OpenC, OpenK
-/
import Derived.Test.YtcmcfafhllpojabGreatProg
import Derived.Test.YtcmcfafhllpojabGreatClPackA
import Derived.ProofKit
import Derived.SizedLaws
import Derived.Deep.Slices
import Derived.Test.YtcmcfafhllpojabGreatClPackU
namespace Go.Proofs.YtcmcfafhllpojabGreat
open Go.ChangeShapes Go.WideShapes Go.ChangeAt Go.RowKit Go.Deep

theorem Tryz.cellsInt : Tryz.prog.cellsOf 3 = 1 := by kernel_rfl
theorem Tryz.cellsInts : Tryz.prog.cellsOf 25 = 1 := by kernel_rfl
theorem Tryz.cellsGrid : Tryz.prog.cellsOf 27 = 1 := by kernel_rfl
theorem Tryz.cellsCfg : Tryz.prog.cellsOf 29 = 13 := by kernel_rfl
theorem Tryz.bytesInt : Tryz.prog.bytesOf 3 = 8 := by kernel_rfl
theorem Tryz.bytesInts : Tryz.prog.bytesOf 25 = 24 := by kernel_rfl
theorem Tryz.bytesCfg : Tryz.prog.bytesOf 29 = 152 := by kernel_rfl

/-- Each list in it is within reach. -/
def Sized {H : Type} (P : Program) (t : TypeId) (d : DataW H) : Prop := ∀ n ∈ d.weights P t, n ≤ reachBytes

theorem weightsAll_mem {H : Type} {P : Program} {e : TypeId} {d : DataW H} {n : Nat} : ∀ {l : List (DataW H)}, d ∈ l → n ∈ d.weights P e → n ∈ DataW.weightsAll P e l
  | [], h, _ => by simp at h
  | x :: r, h, hn => by
    simp only [DataW.weightsAll, List.mem_append]
    rcases List.mem_cons.1 h with rfl | h
    · exact Or.inl hn
    · exact Or.inr (weightsAll_mem h hn)

theorem Sized.slice {H : Type} {P : Program} {t e : TypeId} {elems spare : List (DataW H)} (hu : P.underlying t = some (.slice e)) (h : Sized P t (.slice elems spare)) :
    (elems.length + spare.length) * P.bytesOf e ≤ reachBytes ∧ ∀ d ∈ elems, Sized P e d := by
  refine ⟨h _ (by simp [DataW.weights, hu]), fun d hd n hn => h n ?_⟩
  simp only [DataW.weights, hu, List.mem_cons, List.mem_append]
  exact Or.inr (Or.inl (weightsAll_mem hd hn))

theorem Sized.agg {H : Type} {P : Program} {t : TypeId} {fs : Array Field} {parts : List (DataW H)} (hu : P.underlying t = some (.struct fs)) (h : Sized P t (.agg parts)) {j : Nat} {u : TypeId} {d : DataW H}
    (hf : (fs.toList.map (·.type))[j]? = some u) (hd : parts[j]? = some d) : Sized P u d := by
  intro n hn
  refine h n ?_
  simp only [DataW.weights, hu]
  exact DataW.weights_mem_each hf hd n hn

section
variable {H : Type} {enc : TypeId × Value → H} {W : World}

theorem read_ints {n : Nat} {v : Value} {y : DataW H × List MemPlace} (h : DataW.trod enc Tryz.prog W 0 (fun _ => true) true n 25 [v] = some y) (hz : Sized Tryz.prog 25 y.1) :
    ∃ sa len cap xs, v = .slice sa len cap ∧ Ints W sa len cap xs ∧ xs.length * 8 ≤ 140737488351232 := by
  rcases open_ints Tryz.underlying25 Tryz.underlying3 Tryz.cellsInt h with ⟨hcs, hx⟩ | ⟨a, len, cap, zs, hcs, _, hl, hm, hzl, hx, hcell, hwz⟩
  · simp only [List.cons.injEq, and_true] at hcs
    subst hcs
    exact ⟨none, 0, 0, [], rfl, ⟨rfl, Nat.le_refl _, by unfold maxLen; omega, fun _ => rfl, fun i hi => absurd hi (Nat.not_lt_zero _)⟩, by simp⟩
  · simp only [List.cons.injEq, and_true] at hcs
    subst hcs
    simp only [if_true] at hzl
    subst hx
    have hs := (Sized.slice Tryz.underlying25 hz).1
    rw [Tryz.bytesInt] at hs
    simp only [lits, List.length_map, List.length_take, List.length_drop, reachBytes] at hs
    refine ⟨some a, len, cap, zs.take len, rfl, ⟨by simp; omega, hl, hm, (fun h => by cases h), fun i hi => ?_⟩, by simp; omega⟩
    have hc := hcell i (by omega)
    obtain ⟨b, off, spot⟩ := a
    have hspot : spot = none := by simpa [Addr.add] using World.cell?_spot (hcell 0 (by omega))
    subst hspot
    refine ⟨b, off, rfl, ?_⟩
    rw [add_plain'] at hc
    rw [hc]
    simp [List.getD, hi]

theorem read_grid {n : Nat} {v : Value} {y : DataW H × List MemPlace} (h : DataW.trod enc Tryz.prog W 0 (fun _ => true) true n 27 [v] = some y) (hz : Sized Tryz.prog 27 y.1) :
    ∃ sa len cap xss, v = .slice sa len cap ∧ Grid W sa len cap xss ∧ xss.length * 24 ≤ 140737488351232 ∧ ∀ i, i < xss.length → (xss.getD i []).length * 8 ≤ 140737488351232 := by
  rcases open_slice1 Tryz.underlying27 Tryz.cellsInts h with ⟨hcs, hx⟩ | ⟨a, len, cap, m, n', V, D, Pl, hcs, _, hl, hm, hmm, hx, hV⟩
  · simp only [List.cons.injEq, and_true] at hcs
    subst hcs
    exact ⟨none, 0, 0, [], rfl, ⟨rfl, Nat.le_refl _, by unfold maxLen; omega, fun _ => rfl, fun i hi => absurd hi (Nat.not_lt_zero _)⟩, by simp, fun i hi => absurd hi (Nat.not_lt_zero _)⟩
  · simp only [List.cons.injEq, and_true] at hcs
    subst hcs
    simp only [if_true] at hmm
    subst hmm
    subst hx
    obtain ⟨hs, hse⟩ := Sized.slice Tryz.underlying27 hz
    rw [Tryz.bytesInts] at hs
    simp only [List.length_map, List.length_range, reachBytes] at hs
    have each : ∀ i, i < len → ∃ x : Option Addr × Nat × Nat × List Int, V i = .slice x.1 x.2.1 x.2.2.1 ∧ Ints W x.1 x.2.1 x.2.2.1 x.2.2.2 ∧ x.2.2.2.length * 8 ≤ 140737488351232 := by
      intro i hi
      obtain ⟨_, ht⟩ := hV i (by omega)
      obtain ⟨sa, l, c, xs, h1, h2, h3⟩ := read_ints ht (hse (D i) (List.mem_map.2 ⟨i, List.mem_range.2 hi, rfl⟩))
      exact ⟨(sa, l, c, xs), h1, h2, h3⟩
    obtain ⟨F, hF⟩ := choose_lt (α := Option Addr × Nat × Nat × List Int) (p := fun i x => V i = .slice x.1 x.2.1 x.2.2.1 ∧ Ints W x.1 x.2.1 x.2.2.1 x.2.2.2 ∧ x.2.2.2.length * 8 ≤ 140737488351232) each
    have hget : ∀ i, i < len → ((List.range len).map fun i => (F i).2.2.2).getD i [] = (F i).2.2.2 := by
      intro i hi
      simp [List.getD, hi]
    refine ⟨some a, len, _, (List.range len).map fun i => (F i).2.2.2, rfl, ⟨by simp, hl, hm, (fun h => by cases h), fun i hi => ?_⟩, by simp; omega, fun i hi => ?_⟩
    · obtain ⟨hc, _⟩ := hV i (by omega)
      have hc0 := (hV 0 (by omega)).1
      obtain ⟨b, off, spot⟩ := a
      have hspot : spot = none := by simpa [Addr.add] using World.cell?_spot hc0
      subst hspot
      obtain ⟨e1, e2, _⟩ := hF i hi
      refine ⟨b, off, (F i).1, (F i).2.1, (F i).2.2.1, rfl, ?_, ?_⟩
      · rw [add_plain'] at hc
        rw [hc, e1]
      · rw [hget i hi]; exact e2
    · have hi' : i < len := by simpa using hi
      rw [hget i hi']
      exact (hF i hi').2.2

theorem wf_bounds {x : Int} (h : (Lit.int .i64 x).wf = true) : -9223372036854775808 ≤ x ∧ x ≤ 9223372036854775807 := by
  have h1 : IntKind.i64.min = -9223372036854775808 := rfl
  have h2 : IntKind.i64.max = 9223372036854775807 := rfl
  simp only [Lit.wf, Bool.and_eq_true, decide_eq_true_eq] at h
  omega

theorem read_int {n : Nat} {v : Value} {y : DataW H × List MemPlace} (h : DataW.trod enc Tryz.prog W 0 (fun _ => true) true n 3 [v] = some y) :
    ∃ x, v = .int .i64 x ∧ -9223372036854775808 ≤ x ∧ x ≤ 9223372036854775807 := by
  obtain ⟨x, e, _, hw⟩ := DataW.trod_int Tryz.underlying3 h
  simp only [List.cons.injEq, and_true] at e
  exact ⟨x, e, wf_bounds hw⟩

set_option maxRecDepth 100000 in
theorem read_cfg {n : Nat} {cs : List Value} {y : DataW H × List MemPlace} (h : DataW.trod enc Tryz.prog W 0 (fun _ => true) true n 29 cs = some y) (hz : Sized Tryz.prog 29 y.1) :
    ∃ c s, cs = cfgL c s ∧ CfgAt W c s ∧ CfR c := by
  obtain ⟨xs, m, _, hy, hlen, hxl, hf⟩ := DataW.trod_struct Tryz.underlying29 h
  rw [Tryz.cellsCfg] at hlen
  have hxl' : xs.length = 13 := hxl
  match cs, hlen, xs, hxl' with
  | [c0, c1, c2, c3, c4, c5, c6, c7, c8, c9, c10, c11, c12], _, [y0, y1, y2, y3, y4, y5, y6, y7, y8, y9, y10, y11, y12], _ =>
    have t0 := hf 0 _ rfl
    have t1 := hf 1 _ rfl
    have t2 := hf 2 _ rfl
    have t3 := hf 3 _ rfl
    have t4 := hf 4 _ rfl
    have t5 := hf 5 _ rfl
    have t6 := hf 6 _ rfl
    have t7 := hf 7 _ rfl
    have t8 := hf 8 _ rfl
    have t9 := hf 9 _ rfl
    have t10 := hf 10 _ rfl
    have t11 := hf 11 _ rfl
    have t12 := hf 12 _ rfl
    simp only [List.getElem?_cons_zero, List.getElem?_cons_succ] at t0 t1 t2 t3 t4 t5 t6 t7 t8 t9 t10 t11 t12
    subst hy
    have z7 : Sized Tryz.prog 25 y7.1 := hz.agg Tryz.underlying29 (j := 7) rfl rfl
    have z9 : Sized Tryz.prog 25 y9.1 := hz.agg Tryz.underlying29 (j := 9) rfl rfl
    have z10 : Sized Tryz.prog 27 y10.1 := hz.agg Tryz.underlying29 (j := 10) rfl rfl
    obtain ⟨x0, rfl, _⟩ := read_int t0
    obtain ⟨x1, rfl, _⟩ := read_int t1
    obtain ⟨x2, rfl, _⟩ := read_int t2
    obtain ⟨x3, rfl, _⟩ := read_int t3
    obtain ⟨x4, rfl, _⟩ := read_int t4
    obtain ⟨x5, rfl, _⟩ := read_int t5
    obtain ⟨x6, rfl, _⟩ := read_int t6
    obtain ⟨x8, rfl, _⟩ := read_int t8
    obtain ⟨x11, rfl, _⟩ := read_int t11
    obtain ⟨x12, rfl, _⟩ := read_int t12
    obtain ⟨wa, wl, wc, ways, rfl, h7, r7⟩ := read_ints t7 z7
    obtain ⟨sa, sl, sc, slots, rfl, h9, r9⟩ := read_ints t9 z9
    obtain ⟨ta, tl, tc, turns, rfl, h10, r10, e10⟩ := read_grid t10 z10
    exact ⟨⟨x0, x1, x2, x3, x4, x5, x6, ways, x8, slots, turns, x11, x12⟩, ⟨wa, wl, wc, sa, sl, sc, ta, tl, tc⟩, rfl, ⟨h7, h9, h10⟩, ⟨r7, r9, r10, e10⟩⟩
end
end Go.Proofs.YtcmcfafhllpojabGreat

namespace Go.Proofs.YtcmcfafhllpojabGreat
open Go.ChangeShapes Go.WideShapes Go.ChangeAt Go.RowKit Go.Deep

theorem Tryz.cellsOpA : Tryz.prog.cellsOf 78 = 3 := by kernel_rfl
theorem Tryz.bytesOpA : Tryz.prog.bytesOf 78 = 24 := by kernel_rfl
theorem Tryz.cellsOpsA : Tryz.prog.cellsOf 49 = 1 := by kernel_rfl
theorem Tryz.bytesOpsA : Tryz.prog.bytesOf 49 = 24 := by kernel_rfl
theorem Tryz.cellsCell : Tryz.prog.cellsOf 67 = 3 := by kernel_rfl
theorem Tryz.bytesCell : Tryz.prog.bytesOf 67 = 24 := by kernel_rfl
theorem Tryz.cellsCase : Tryz.prog.cellsOf 33 = 17 := by kernel_rfl

theorem addk_add (b off i j : Nat) : (Addr.add ⟨b, off, none⟩ i).add j = ⟨b, off + i + j, none⟩ := by
  rw [add_plain', add_plain']

section
variable {H : Type} {enc : TypeId × Value → H} {W : World}

set_option maxRecDepth 100000 in
theorem read_opA {n : Nat} {cs : List Value} {y : DataW H × List MemPlace} (h : DataW.trod enc Tryz.prog W 0 (fun _ => true) true n 78 cs = some y) :
    ∃ o : OpT, cs = [.int .i64 o.1, .int .i64 o.2.1, .int .i64 o.2.2] := by
  obtain ⟨xs, m, _, hy, hlen, hxl, hf⟩ := DataW.trod_struct Tryz.underlying78 h
  rw [Tryz.cellsOpA] at hlen
  have hxl' : xs.length = 3 := hxl
  match cs, hlen, xs, hxl' with
  | [c0, c1, c2], _, [y0, y1, y2], _ =>
    have t0 := hf 0 _ rfl
    have t1 := hf 1 _ rfl
    have t2 := hf 2 _ rfl
    simp only [List.getElem?_cons_zero, List.getElem?_cons_succ] at t0 t1 t2
    obtain ⟨x0, rfl, _⟩ := read_int t0
    obtain ⟨x1, rfl, _⟩ := read_int t1
    obtain ⟨x2, rfl, _⟩ := read_int t2
    exact ⟨(x0, x1, x2), rfl⟩

set_option maxRecDepth 100000 in
theorem read_cellA {n : Nat} {cs : List Value} {y : DataW H × List MemPlace} (h : DataW.trod enc Tryz.prog W 0 (fun _ => true) true n 67 cs = some y) :
    ∃ o : OpT, cs = [.int .i64 o.1, .int .i64 o.2.1, .int .i64 o.2.2] := by
  obtain ⟨xs, m, _, hy, hlen, hxl, hf⟩ := DataW.trod_struct Tryz.underlying67 h
  rw [Tryz.cellsCell] at hlen
  have hxl' : xs.length = 3 := hxl
  match cs, hlen, xs, hxl' with
  | [c0, c1, c2], _, [y0, y1, y2], _ =>
    have t0 := hf 0 _ rfl
    have t1 := hf 1 _ rfl
    have t2 := hf 2 _ rfl
    simp only [List.getElem?_cons_zero, List.getElem?_cons_succ] at t0 t1 t2
    obtain ⟨x0, rfl, _⟩ := read_int t0
    obtain ⟨x1, rfl, _⟩ := read_int t1
    obtain ⟨x2, rfl, _⟩ := read_int t2
    exact ⟨(x0, x1, x2), rfl⟩

/-- From the cells to the reading. -/
theorem ops_of {a : Addr} {len cap : Nat} (hl : len ≤ cap) (hm : cap ≤ maxLen) (each : ∀ i, i < len → ∃ x : OpT, W.cells? 0 (a.add (i * 3)) 3 = some [.int .i64 x.1, .int .i64 x.2.1, .int .i64 x.2.2]) : ∃ os, OpsAt W (some a) len cap os := by
  have hi0 : Inhabited OpT := ⟨(0, 0, 0)⟩
  obtain ⟨F, hF⟩ := choose_lt (α := OpT) (p := fun i x => W.cells? 0 (a.add (i * 3)) 3 = some [.int .i64 x.1, .int .i64 x.2.1, .int .i64 x.2.2]) each
  have hget : ∀ i, i < len → ((List.range len).map F).getD i opZ = F i := fun i hi => by simp [List.getD, hi]
  refine ⟨(List.range len).map F, ⟨by simp, hl, hm, fun i hi => ?_⟩⟩
  obtain ⟨_, _, hcell⟩ := World.cells?_some (hF i hi)
  obtain ⟨_, _, hcell0⟩ := World.cells?_some (hF 0 (by omega))
  obtain ⟨b, off, spot⟩ := a
  have hspot : spot = none := by
    have := hcell0 0 (by omega)
    simpa [Addr.add] using World.cell?_spot (v := .int .i64 (F 0).1) this
  subst hspot
  have c := fun j hj => by
    have := hcell j hj
    rw [addk_add] at this
    exact this
  rw [hget i hi]
  exact ⟨b, off, rfl, by have := c 0 (by omega); simpa using this, by have := c 1 (by omega); simpa using this, by have := c 2 (by omega); simpa using this⟩

theorem read_ops {n : Nat} {v : Value} {y : DataW H × List MemPlace} (h : DataW.trod enc Tryz.prog W 0 (fun _ => true) true n 49 [v] = some y) (hz : Sized Tryz.prog 49 y.1) :
    ∃ sa len cap os, v = .slice sa len cap ∧ OpsAt W sa len cap os := by
  rcases open_slice Tryz.underlying49 h with ⟨hcs, hx⟩ | ⟨a, len, cap, m, n', D, Pl, hcs, _, hl, hm, hmm, hx, hV⟩
  · simp only [List.cons.injEq, and_true] at hcs
    subst hcs
    exact ⟨none, 0, 0, [], rfl, opsAt_nil W⟩
  · simp only [List.cons.injEq, and_true] at hcs
    subst hcs
    simp only [if_true] at hmm
    subst hx
    rw [Tryz.cellsOpA] at hV
    obtain ⟨os, hO⟩ := ops_of (W := W) (a := a) (len := len) (cap := cap) hl hm (fun i hi => by
      obtain ⟨cs', hc, ht⟩ := hV i (by omega)
      obtain ⟨o, h1⟩ := read_opA ht
      exact ⟨o, by rw [hc, h1]⟩)
    exact ⟨some a, len, cap, os, rfl, hO⟩

theorem read_cells {n : Nat} {v : Value} {y : DataW H × List MemPlace} (h : DataW.trod enc Tryz.prog W 0 (fun _ => true) true n 31 [v] = some y) (hz : Sized Tryz.prog 31 y.1) :
    ∃ sa len cap os, v = .slice sa len cap ∧ OpsAt W sa len cap os := by
  rcases open_slice Tryz.underlying31 h with ⟨hcs, hx⟩ | ⟨a, len, cap, m, n', D, Pl, hcs, _, hl, hm, hmm, hx, hV⟩
  · simp only [List.cons.injEq, and_true] at hcs
    subst hcs
    exact ⟨none, 0, 0, [], rfl, opsAt_nil W⟩
  · simp only [List.cons.injEq, and_true] at hcs
    subst hcs
    simp only [if_true] at hmm
    subst hx
    rw [Tryz.cellsCell] at hV
    obtain ⟨os, hO⟩ := ops_of (W := W) (a := a) (len := len) (cap := cap) hl hm (fun i hi => by
      obtain ⟨cs', hc, ht⟩ := hV i (by omega)
      obtain ⟨o, h1⟩ := read_cellA ht
      exact ⟨o, by rw [hc, h1]⟩)
    exact ⟨some a, len, cap, os, rfl, hO⟩

theorem read_progs {n : Nat} {v : Value} {y : DataW H × List MemPlace} (h : DataW.trod enc Tryz.prog W 0 (fun _ => true) true n 30 [v] = some y) (hz : Sized Tryz.prog 30 y.1) :
    ∃ sa len cap xss, v = .slice sa len cap ∧ OpsGrid W sa len cap xss := by
  rcases open_slice1 Tryz.underlying30 Tryz.cellsOpsA h with ⟨hcs, hx⟩ | ⟨a, len, cap, m, n', V, D, Pl, hcs, _, hl, hm, hmm, hx, hV⟩
  · simp only [List.cons.injEq, and_true] at hcs
    subst hcs
    exact ⟨none, 0, 0, [], rfl, ⟨rfl, Nat.le_refl _, Nat.zero_le _, fun i hi => absurd hi (Nat.not_lt_zero _)⟩⟩
  · simp only [List.cons.injEq, and_true] at hcs
    subst hcs
    simp only [if_true] at hmm
    subst hmm
    subst hx
    obtain ⟨hs, hse⟩ := Sized.slice Tryz.underlying30 hz
    have each : ∀ i, i < len → ∃ x : Option Addr × Nat × Nat × List OpT, V i = .slice x.1 x.2.1 x.2.2.1 ∧ OpsAt W x.1 x.2.1 x.2.2.1 x.2.2.2 := by
      intro i hi
      obtain ⟨_, ht⟩ := hV i (by omega)
      obtain ⟨sa, l, c, xs, h1, h2⟩ := read_ops ht (hse (D i) (List.mem_map.2 ⟨i, List.mem_range.2 hi, rfl⟩))
      exact ⟨(sa, l, c, xs), h1, h2⟩
    obtain ⟨F, hF⟩ := choose_lt (α := Option Addr × Nat × Nat × List OpT) (p := fun i x => V i = .slice x.1 x.2.1 x.2.2.1 ∧ OpsAt W x.1 x.2.1 x.2.2.1 x.2.2.2) each
    have hget : ∀ i, i < len → ((List.range len).map fun i => (F i).2.2.2).getD i [] = (F i).2.2.2 := by
      intro i hi
      simp [List.getD, hi]
    refine ⟨some a, len, _, (List.range len).map fun i => (F i).2.2.2, rfl, ⟨by simp, hl, hm, fun i hi => ?_⟩⟩
    obtain ⟨hc, _⟩ := hV i (by omega)
    have hc0 := (hV 0 (by omega)).1
    obtain ⟨b, off, spot⟩ := a
    have hspot : spot = none := by simpa [Addr.add] using World.cell?_spot hc0
    subst hspot
    obtain ⟨e1, e2⟩ := hF i hi
    refine ⟨b, off, (F i).1, (F i).2.1, (F i).2.2.1, rfl, ?_, ?_⟩
    · rw [add_plain'] at hc
      rw [hc, e1]
    · rw [hget i hi]; exact e2

set_option maxRecDepth 100000 in
theorem read_case {n : Nat} {cs : List Value} {y : DataW H × List MemPlace} (h : DataW.trod enc Tryz.prog W 0 (fun _ => true) true n 33 cs = some y) (hz : Sized Tryz.prog 33 y.1) :
    ∃ x l, cs = csL x l ∧ CaseAt W x l := by
  obtain ⟨xs, m, _, hy, hlen, hxl, hf⟩ := DataW.trod_struct Tryz.underlying33 h
  rw [Tryz.cellsCase] at hlen
  have hxl' : xs.length = 5 := hxl
  match cs, hlen, xs, hxl' with
  | [c0, c1, c2, c3, c4, c5, c6, c7, c8, c9, c10, c11, c12, c13, c14, c15, c16], _, [y0, y1, y2, y3, y4], _ =>
    have t0 := hf 0 _ rfl
    have t1 := hf 1 _ rfl
    have t2 := hf 2 _ rfl
    have t3 := hf 3 _ rfl
    have t4 := hf 4 _ rfl
    simp only [List.getElem?_cons_zero, List.getElem?_cons_succ] at t0 t1 t2 t3 t4
    subst hy
    have z0 : Sized Tryz.prog 29 y0.1 := hz.agg Tryz.underlying33 (j := 0) rfl rfl
    have z1 : Sized Tryz.prog 30 y1.1 := hz.agg Tryz.underlying33 (j := 1) rfl rfl
    have z2 : Sized Tryz.prog 31 y2.1 := hz.agg Tryz.underlying33 (j := 2) rfl rfl
    have z3 : Sized Tryz.prog 31 y3.1 := hz.agg Tryz.underlying33 (j := 3) rfl rfl
    have z4 : Sized Tryz.prog 25 y4.1 := hz.agg Tryz.underlying33 (j := 4) rfl rfl
    obtain ⟨c, s, e0, h0, _⟩ := read_cfg t0 z0
    obtain ⟨pa, pl, pc, progs, e1, h1⟩ := read_progs t1 z1
    obtain ⟨oa, ol, oc, own, e2, h2⟩ := read_cells t2 z2
    obtain ⟨ma, ml, mc, com, e3, h3⟩ := read_cells t3 z3
    obtain ⟨ra, rl, rc, runs, e4, h4, _⟩ := read_ints t4 z4
    simp only [cfgL] at e0
    obtain ⟨rfl, rfl, rfl, rfl, rfl, rfl, rfl, rfl, rfl, rfl, rfl, rfl, rfl⟩ := e0
    subst e1 e2 e3 e4
    exact ⟨⟨c, progs, own, com, runs⟩, ⟨s, pa, pl, pc, oa, ol, oc, ma, ml, mc, ra, rl, rc⟩, rfl, ⟨h0, h1, h2, h3, h4⟩⟩
end
end Go.Proofs.YtcmcfafhllpojabGreat
