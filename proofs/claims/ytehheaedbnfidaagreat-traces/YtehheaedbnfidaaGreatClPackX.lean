/-
  OpenC, Open
-/
import Derived.Test.YtehheaedbnfidaaGreatProg
import Derived.Test.YtehheaedbnfidaaGreatClPackA
import Derived.ProofKit
import Derived.SizedLaws
import Derived.Deep.Slices
import Derived.Test.YtehheaedbnfidaaGreatClPackBD
namespace Go.Proofs.YtehheaedbnfidaaGreat
open Go.ChangeShapes Go.WideShapes Go.ChangeAt Go.RowKit Go.Deep

theorem Tryz.cellsInt : Tryz.prog.cellsOf 3 = 1 := by kernel_rfl
theorem Tryz.cellsInts : Tryz.prog.cellsOf 25 = 1 := by kernel_rfl
theorem Tryz.cellsGrid : Tryz.prog.cellsOf 41 = 1 := by kernel_rfl
theorem Tryz.cellsCfg : Tryz.prog.cellsOf 43 = 13 := by kernel_rfl
theorem Tryz.bytesInt : Tryz.prog.bytesOf 3 = 8 := by kernel_rfl
theorem Tryz.bytesInts : Tryz.prog.bytesOf 25 = 24 := by kernel_rfl
theorem Tryz.bytesCfg : Tryz.prog.bytesOf 43 = 152 := by kernel_rfl

/-- Each list in it is within reach. -/
def Sized {H : Type} (P : Program) (t : TypeId) (d : DataW H) : Prop := ∀ n ∈ d.weights P t, n ≤ reachBytes

theorem weightsAll_mem {H : Type} {P : Program} {e : TypeId} {d : DataW H} {n : Nat} : ∀ {l : List (DataW H)}, d ∈ l → n ∈ d.weights P e → n ∈ DataW.weightsAll P e l
  | [], h, _ => by simp at h
  | x :: r, h, hn => by
    simp only [DataW.weightsAll, List.mem_append]
    rcases List.mem_cons.1 h with rfl | h
    · exact Or.inl hn
    · exact Or.inr (weightsAll_mem h hn)

theorem Sized.slice {H : Type} {P : Program} {t e : TypeId} {elems spare : List (DataW H)} (hu : P.underlying t = some (.slice e)) (h : Sized P t (.slice elems spare)) :
    (elems.length + spare.length) * P.bytesOf e ≤ reachBytes ∧ ∀ d ∈ elems, Sized P e d := by
  refine ⟨h _ (by simp [DataW.weights, hu]), fun d hd n hn => h n ?_⟩
  simp only [DataW.weights, hu, List.mem_cons, List.mem_append]
  exact Or.inr (Or.inl (weightsAll_mem hd hn))

theorem Sized.agg {H : Type} {P : Program} {t : TypeId} {fs : Array Field} {parts : List (DataW H)} (hu : P.underlying t = some (.struct fs)) (h : Sized P t (.agg parts)) {j : Nat} {u : TypeId} {d : DataW H}
    (hf : (fs.toList.map (·.type))[j]? = some u) (hd : parts[j]? = some d) : Sized P u d := by
  intro n hn
  refine h n ?_
  simp only [DataW.weights, hu]
  exact DataW.weights_mem_each hf hd n hn

section
variable {H : Type} {enc : TypeId × Value → H} {W : World}

theorem read_ints {n : Nat} {v : Value} {y : DataW H × List MemPlace} (h : DataW.trod enc Tryz.prog W 0 (fun _ => true) true n 25 [v] = some y) (hz : Sized Tryz.prog 25 y.1) :
    ∃ sa len cap xs, v = .slice sa len cap ∧ Ints W sa len cap xs ∧ xs.length * 8 ≤ 140737488351232 := by
  rcases open_ints Tryz.underlying25 Tryz.underlying3 Tryz.cellsInt h with ⟨hcs, hx⟩ | ⟨a, len, cap, zs, hcs, _, hl, hm, hzl, hx, hcell, hwz⟩
  · simp only [List.cons.injEq, and_true] at hcs
    subst hcs
    exact ⟨none, 0, 0, [], rfl, ⟨rfl, Nat.le_refl _, by unfold maxLen; omega, fun _ => rfl, fun i hi => absurd hi (Nat.not_lt_zero _)⟩, by simp⟩
  · simp only [List.cons.injEq, and_true] at hcs
    subst hcs
    simp only [if_true] at hzl
    subst hx
    have hs := (Sized.slice Tryz.underlying25 hz).1
    rw [Tryz.bytesInt] at hs
    simp only [lits, List.length_map, List.length_take, List.length_drop, reachBytes] at hs
    refine ⟨some a, len, cap, zs.take len, rfl, ⟨by simp; omega, hl, hm, (fun h => by cases h), fun i hi => ?_⟩, by simp; omega⟩
    have hc := hcell i (by omega)
    obtain ⟨b, off, spot⟩ := a
    have hspot : spot = none := by simpa [Addr.add] using World.cell?_spot (hcell 0 (by omega))
    subst hspot
    refine ⟨b, off, rfl, ?_⟩
    rw [add_plain'] at hc
    rw [hc]
    simp [List.getD, hi]

theorem read_grid {n : Nat} {v : Value} {y : DataW H × List MemPlace} (h : DataW.trod enc Tryz.prog W 0 (fun _ => true) true n 41 [v] = some y) (hz : Sized Tryz.prog 41 y.1) :
    ∃ sa len cap xss, v = .slice sa len cap ∧ Grid W sa len cap xss ∧ xss.length * 24 ≤ 140737488351232 ∧ ∀ i, i < xss.length → (xss.getD i []).length * 8 ≤ 140737488351232 := by
  rcases open_slice1 Tryz.underlying41 Tryz.cellsInts h with ⟨hcs, hx⟩ | ⟨a, len, cap, m, n', V, D, Pl, hcs, _, hl, hm, hmm, hx, hV⟩
  · simp only [List.cons.injEq, and_true] at hcs
    subst hcs
    exact ⟨none, 0, 0, [], rfl, ⟨rfl, Nat.le_refl _, by unfold maxLen; omega, fun _ => rfl, fun i hi => absurd hi (Nat.not_lt_zero _)⟩, by simp, fun i hi => absurd hi (Nat.not_lt_zero _)⟩
  · simp only [List.cons.injEq, and_true] at hcs
    subst hcs
    simp only [if_true] at hmm
    subst hmm
    subst hx
    obtain ⟨hs, hse⟩ := Sized.slice Tryz.underlying41 hz
    rw [Tryz.bytesInts] at hs
    simp only [List.length_map, List.length_range, reachBytes] at hs
    have each : ∀ i, i < len → ∃ x : Option Addr × Nat × Nat × List Int, V i = .slice x.1 x.2.1 x.2.2.1 ∧ Ints W x.1 x.2.1 x.2.2.1 x.2.2.2 ∧ x.2.2.2.length * 8 ≤ 140737488351232 := by
      intro i hi
      obtain ⟨_, ht⟩ := hV i (by omega)
      obtain ⟨sa, l, c, xs, h1, h2, h3⟩ := read_ints ht (hse (D i) (List.mem_map.2 ⟨i, List.mem_range.2 hi, rfl⟩))
      exact ⟨(sa, l, c, xs), h1, h2, h3⟩
    obtain ⟨F, hF⟩ := choose_lt (α := Option Addr × Nat × Nat × List Int) (p := fun i x => V i = .slice x.1 x.2.1 x.2.2.1 ∧ Ints W x.1 x.2.1 x.2.2.1 x.2.2.2 ∧ x.2.2.2.length * 8 ≤ 140737488351232) each
    have hget : ∀ i, i < len → ((List.range len).map fun i => (F i).2.2.2).getD i [] = (F i).2.2.2 := by
      intro i hi
      simp [List.getD, hi]
    refine ⟨some a, len, _, (List.range len).map fun i => (F i).2.2.2, rfl, ⟨by simp, hl, hm, (fun h => by cases h), fun i hi => ?_⟩, by simp; omega, fun i hi => ?_⟩
    · obtain ⟨hc, _⟩ := hV i (by omega)
      have hc0 := (hV 0 (by omega)).1
      obtain ⟨b, off, spot⟩ := a
      have hspot : spot = none := by simpa [Addr.add] using World.cell?_spot hc0
      subst hspot
      obtain ⟨e1, e2, _⟩ := hF i hi
      refine ⟨b, off, (F i).1, (F i).2.1, (F i).2.2.1, rfl, ?_, ?_⟩
      · rw [add_plain'] at hc
        rw [hc, e1]
      · rw [hget i hi]; exact e2
    · have hi' : i < len := by simpa using hi
      rw [hget i hi']
      exact (hF i hi').2.2

theorem wf_bounds {x : Int} (h : (Lit.int .i64 x).wf = true) : -9223372036854775808 ≤ x ∧ x ≤ 9223372036854775807 := by
  have h1 : IntKind.i64.min = -9223372036854775808 := rfl
  have h2 : IntKind.i64.max = 9223372036854775807 := rfl
  simp only [Lit.wf, Bool.and_eq_true, decide_eq_true_eq] at h
  omega

theorem read_int {n : Nat} {v : Value} {y : DataW H × List MemPlace} (h : DataW.trod enc Tryz.prog W 0 (fun _ => true) true n 3 [v] = some y) :
    ∃ x, v = .int .i64 x ∧ -9223372036854775808 ≤ x ∧ x ≤ 9223372036854775807 := by
  obtain ⟨x, e, _, hw⟩ := DataW.trod_int Tryz.underlying3 h
  simp only [List.cons.injEq, and_true] at e
  exact ⟨x, e, wf_bounds hw⟩

set_option maxRecDepth 100000 in
theorem read_cfg {n : Nat} {cs : List Value} {y : DataW H × List MemPlace} (h : DataW.trod enc Tryz.prog W 0 (fun _ => true) true n 43 cs = some y) (hz : Sized Tryz.prog 43 y.1) :
    ∃ c s, cs = cfgL c s ∧ CfgAt W c s ∧ CfR c := by
  obtain ⟨xs, m, _, hy, hlen, hxl, hf⟩ := DataW.trod_struct Tryz.underlying43 h
  rw [Tryz.cellsCfg] at hlen
  have hxl' : xs.length = 13 := hxl
  match cs, hlen, xs, hxl' with
  | [c0, c1, c2, c3, c4, c5, c6, c7, c8, c9, c10, c11, c12], _, [y0, y1, y2, y3, y4, y5, y6, y7, y8, y9, y10, y11, y12], _ =>
    have t0 := hf 0 _ rfl
    have t1 := hf 1 _ rfl
    have t2 := hf 2 _ rfl
    have t3 := hf 3 _ rfl
    have t4 := hf 4 _ rfl
    have t5 := hf 5 _ rfl
    have t6 := hf 6 _ rfl
    have t7 := hf 7 _ rfl
    have t8 := hf 8 _ rfl
    have t9 := hf 9 _ rfl
    have t10 := hf 10 _ rfl
    have t11 := hf 11 _ rfl
    have t12 := hf 12 _ rfl
    simp only [List.getElem?_cons_zero, List.getElem?_cons_succ] at t0 t1 t2 t3 t4 t5 t6 t7 t8 t9 t10 t11 t12
    subst hy
    have z7 : Sized Tryz.prog 25 y7.1 := hz.agg Tryz.underlying43 (j := 7) rfl rfl
    have z9 : Sized Tryz.prog 25 y9.1 := hz.agg Tryz.underlying43 (j := 9) rfl rfl
    have z10 : Sized Tryz.prog 41 y10.1 := hz.agg Tryz.underlying43 (j := 10) rfl rfl
    obtain ⟨x0, rfl, _⟩ := read_int t0
    obtain ⟨x1, rfl, _⟩ := read_int t1
    obtain ⟨x2, rfl, _⟩ := read_int t2
    obtain ⟨x3, rfl, _⟩ := read_int t3
    obtain ⟨x4, rfl, _⟩ := read_int t4
    obtain ⟨x5, rfl, _⟩ := read_int t5
    obtain ⟨x6, rfl, _⟩ := read_int t6
    obtain ⟨x8, rfl, _⟩ := read_int t8
    obtain ⟨x11, rfl, _⟩ := read_int t11
    obtain ⟨x12, rfl, _⟩ := read_int t12
    obtain ⟨wa, wl, wc, ways, rfl, h7, r7⟩ := read_ints t7 z7
    obtain ⟨sa, sl, sc, slots, rfl, h9, r9⟩ := read_ints t9 z9
    obtain ⟨ta, tl, tc, turns, rfl, h10, r10, e10⟩ := read_grid t10 z10
    exact ⟨⟨x0, x1, x2, x3, x4, x5, x6, ways, x8, slots, turns, x11, x12⟩, ⟨wa, wl, wc, sa, sl, sc, ta, tl, tc⟩, rfl, ⟨h7, h9, h10⟩, ⟨r7, r9, r10, e10⟩⟩
end
end Go.Proofs.YtehheaedbnfidaaGreat

namespace Go.Proofs.YtehheaedbnfidaaGreat
open Go.ChangeShapes Go.WideShapes Go.ChangeAt Go.RowKit Go.Deep

theorem Tryz.cellsOp : Tryz.prog.cellsOf 36 = 5 := by kernel_rfl
theorem Tryz.bytesOp : Tryz.prog.bytesOf 36 = 40 := by kernel_rfl

section
variable {H : Type} {enc : TypeId × Value → H} {W : World}

set_option maxRecDepth 100000 in
theorem read_op {n : Nat} {cs : List Value} {y : DataW H × List MemPlace} (h : DataW.trod enc Tryz.prog W 0 (fun _ => true) true n 36 cs = some y) :
    ∃ o : St, cs = [.int .i64 o.k, .int .i64 o.a, .int .i64 o.b, .int .i64 o.c, .int .i64 o.d] ∧ StR o := by
  obtain ⟨xs, m, _, hy, hlen, hxl, hf⟩ := DataW.trod_struct Tryz.underlying36 h
  rw [Tryz.cellsOp] at hlen
  have hxl' : xs.length = 5 := hxl
  match cs, hlen, xs, hxl' with
  | [c0, c1, c2, c3, c4], _, [y0, y1, y2, y3, y4], _ =>
    have t0 := hf 0 _ rfl
    have t1 := hf 1 _ rfl
    have t2 := hf 2 _ rfl
    have t3 := hf 3 _ rfl
    have t4 := hf 4 _ rfl
    simp only [List.getElem?_cons_zero, List.getElem?_cons_succ] at t0 t1 t2 t3 t4
    obtain ⟨x0, rfl, b0⟩ := read_int t0
    obtain ⟨x1, rfl, b1⟩ := read_int t1
    obtain ⟨x2, rfl, b2⟩ := read_int t2
    obtain ⟨x3, rfl, b3⟩ := read_int t3
    obtain ⟨x4, rfl, b4⟩ := read_int t4
    exact ⟨⟨x0, x1, x2, x3, x4⟩, rfl, ⟨b0.1, b0.2, b1.1, b1.2⟩⟩

theorem add_add' (b off i j : Nat) : (Addr.add ⟨b, off, none⟩ i).add j = ⟨b, off + i + j, none⟩ := by
  rw [add_plain', add_plain']

theorem read_cs {n : Nat} {v : Value} {y : DataW H × List MemPlace} (h : DataW.trod enc Tryz.prog W 0 (fun _ => true) true n 22 [v] = some y) (hz : Sized Tryz.prog 22 y.1) :
    ∃ ca cl cc cfs, v = .slice ca cl cc ∧ CsAt W ca cl cc cfs := by
  rcases open_slice Tryz.underlying22 h with ⟨hcs, hx⟩ | ⟨a, len, cap, m, n', D, Pl, hcs, _, hl, hm, hmm, hx, hV⟩
  · simp only [List.cons.injEq, and_true] at hcs
    subst hcs
    exact ⟨none, 0, 0, fun _ => cf0, rfl, ⟨Nat.le_refl _, by omega, fun i hi => absurd hi (Nat.not_lt_zero _)⟩⟩
  · simp only [List.cons.injEq, and_true] at hcs
    subst hcs
    simp only [if_true] at hmm
    subst hx
    obtain ⟨hs, hse⟩ := Sized.slice Tryz.underlying22 hz
    rw [Tryz.bytesCfg] at hs
    simp only [List.length_map, List.length_range, reachBytes] at hs
    rw [Tryz.cellsCfg] at hV
    have each : ∀ i, i < len → ∃ x : Cf × Sl, W.cells? 0 (a.add (i * 13)) 13 = some (cfgL x.1 x.2) ∧ CfgAt W x.1 x.2 ∧ CfR x.1 := by
      intro i hi
      obtain ⟨cs', hc, ht⟩ := hV i (by omega)
      obtain ⟨c, s, h1, h2, h3⟩ := read_cfg ht (hse (D i) (List.mem_map.2 ⟨i, List.mem_range.2 hi, rfl⟩))
      exact ⟨(c, s), by rw [hc, h1], h2, h3⟩
    have hi0 : Inhabited (Cf × Sl) := ⟨(cf0, sl0)⟩
    obtain ⟨F, hF⟩ := choose_lt (α := Cf × Sl) (p := fun i x => W.cells? 0 (a.add (i * 13)) 13 = some (cfgL x.1 x.2) ∧ CfgAt W x.1 x.2 ∧ CfR x.1) each
    refine ⟨some a, len, cap, fun i => (F i).1, rfl, ⟨hl, by omega, fun i hi => ?_⟩⟩
    obtain ⟨e1, e2, e3⟩ := hF i hi
    obtain ⟨_, _, hcell⟩ := World.cells?_some e1
    obtain ⟨_, _, hcell0⟩ := World.cells?_some (hF 0 (by omega)).1
    obtain ⟨b, off, spot⟩ := a
    have hspot : spot = none := by
      have := hcell0 0 (by omega)
      simpa [Addr.add] using World.cell?_spot (v := .int .i64 (F 0).1.cores) this
    subst hspot
    refine ⟨b, off, (F i).2, rfl, fun j hj => ?_, e2, e3⟩
    have := hcell j hj
    rw [add_add'] at this
    rw [this]
    simp

theorem read_sc {n : Nat} {v : Value} {y : DataW H × List MemPlace} (h : DataW.trod enc Tryz.prog W 0 (fun _ => true) true n 23 [v] = some y) (hz : Sized Tryz.prog 23 y.1) :
    ∃ sa sl sc sts, v = .slice sa sl sc ∧ ScAt W sa sl sc sts := by
  rcases open_slice Tryz.underlying23 h with ⟨hcs, hx⟩ | ⟨a, len, cap, m, n', D, Pl, hcs, _, hl, hm, hmm, hx, hV⟩
  · simp only [List.cons.injEq, and_true] at hcs
    subst hcs
    exact ⟨none, 0, 0, fun _ => ⟨0, 0, 0, 0, 0⟩, rfl, ⟨Nat.le_refl _, by omega, fun i hi => absurd hi (Nat.not_lt_zero _)⟩⟩
  · simp only [List.cons.injEq, and_true] at hcs
    subst hcs
    simp only [if_true] at hmm
    subst hx
    obtain ⟨hs, hse⟩ := Sized.slice Tryz.underlying23 hz
    rw [Tryz.bytesOp] at hs
    simp only [List.length_map, List.length_range, reachBytes] at hs
    rw [Tryz.cellsOp] at hV
    have each : ∀ i, i < len → ∃ x : St, W.cells? 0 (a.add (i * 5)) 5 = some [.int .i64 x.k, .int .i64 x.a, .int .i64 x.b, .int .i64 x.c, .int .i64 x.d] ∧ StR x := by
      intro i hi
      obtain ⟨cs', hc, ht⟩ := hV i (by omega)
      obtain ⟨o, h1, h2⟩ := read_op ht
      exact ⟨o, by rw [hc, h1], h2⟩
    have hi0 : Inhabited St := ⟨⟨0, 0, 0, 0, 0⟩⟩
    obtain ⟨F, hF⟩ := choose_lt (α := St) (p := fun i x => W.cells? 0 (a.add (i * 5)) 5 = some [.int .i64 x.k, .int .i64 x.a, .int .i64 x.b, .int .i64 x.c, .int .i64 x.d] ∧ StR x) each
    refine ⟨some a, len, cap, F, rfl, ⟨hl, by omega, fun i hi => ?_⟩⟩
    obtain ⟨e1, e2⟩ := hF i hi
    obtain ⟨_, _, hcell⟩ := World.cells?_some e1
    obtain ⟨_, _, hcell0⟩ := World.cells?_some (hF 0 (by omega)).1
    obtain ⟨b, off, spot⟩ := a
    have hspot : spot = none := by
      have := hcell0 0 (by omega)
      simpa [Addr.add] using World.cell?_spot (v := .int .i64 (F 0).k) this
    subst hspot
    refine ⟨b, off, rfl, fun j hj => ?_, e2⟩
    have := hcell j hj
    rw [add_add'] at this
    rw [this]
    simp
end
end Go.Proofs.YtehheaedbnfidaaGreat
