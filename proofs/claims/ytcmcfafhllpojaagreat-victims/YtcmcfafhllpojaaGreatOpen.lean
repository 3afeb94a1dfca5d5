/-
  The arguments opened: lists of configurations, scripts.
-/
import Derived.Test.YtcmcfafhllpojaaGreatPlays
import Derived.Test.YtcmcfafhllpojaaGreatOpenC
namespace Go.Proofs.YtcmcfafhllpojaaGreat
open Go.ChangeShapes Go.WideShapes Go.ChangeAt Go.RowKit Go.Deep

theorem Tryz.cellsOp : Tryz.prog.cellsOf 61 = 5 := by kernel_rfl
theorem Tryz.bytesOp : Tryz.prog.bytesOf 61 = 40 := by kernel_rfl

section
variable {H : Type} {enc : TypeId × Value → H} {W : World}

set_option maxRecDepth 100000 in
theorem read_op {n : Nat} {cs : List Value} {y : DataW H × List MemPlace} (h : DataW.trod enc Tryz.prog W 0 (fun _ => true) true n 61 cs = some y) :
    ∃ o : St, cs = [.int .i64 o.k, .int .i64 o.a, .int .i64 o.b, .int .i64 o.c, .int .i64 o.d] ∧ StR o := by
  obtain ⟨xs, m, _, hy, hlen, hxl, hf⟩ := DataW.trod_struct Tryz.underlying61 h
  rw [Tryz.cellsOp] at hlen
  have hxl' : xs.length = 5 := hxl
  match cs, hlen, xs, hxl' with
  | [c0, c1, c2, c3, c4], _, [y0, y1, y2, y3, y4], _ =>
    have t0 := hf 0 _ rfl
    have t1 := hf 1 _ rfl
    have t2 := hf 2 _ rfl
    have t3 := hf 3 _ rfl
    have t4 := hf 4 _ rfl
    simp only [List.getElem?_cons_zero, List.getElem?_cons_succ] at t0 t1 t2 t3 t4
    obtain ⟨x0, rfl, b0⟩ := read_int t0
    obtain ⟨x1, rfl, b1⟩ := read_int t1
    obtain ⟨x2, rfl, b2⟩ := read_int t2
    obtain ⟨x3, rfl, b3⟩ := read_int t3
    obtain ⟨x4, rfl, b4⟩ := read_int t4
    exact ⟨⟨x0, x1, x2, x3, x4⟩, rfl, ⟨b0.1, b0.2, b1.1, b1.2⟩⟩

theorem add_add' (b off i j : Nat) : (Addr.add ⟨b, off, none⟩ i).add j = ⟨b, off + i + j, none⟩ := by
  rw [add_plain', add_plain']

theorem read_cs {n : Nat} {v : Value} {y : DataW H × List MemPlace} (h : DataW.trod enc Tryz.prog W 0 (fun _ => true) true n 22 [v] = some y) (hz : Sized Tryz.prog 22 y.1) :
    ∃ ca cl cc cfs, v = .slice ca cl cc ∧ CsAt W ca cl cc cfs := by
  rcases open_slice Tryz.underlying22 h with ⟨hcs, hx⟩ | ⟨a, len, cap, m, n', D, Pl, hcs, _, hl, hm, hmm, hx, hV⟩
  · simp only [List.cons.injEq, and_true] at hcs
    subst hcs
    exact ⟨none, 0, 0, fun _ => cf0, rfl, ⟨Nat.le_refl _, by omega, fun i hi => absurd hi (Nat.not_lt_zero _)⟩⟩
  · simp only [List.cons.injEq, and_true] at hcs
    subst hcs
    simp only [if_true] at hmm
    subst hx
    obtain ⟨hs, hse⟩ := Sized.slice Tryz.underlying22 hz
    rw [Tryz.bytesCfg] at hs
    simp only [List.length_map, List.length_range, reachBytes] at hs
    rw [Tryz.cellsCfg] at hV
    have each : ∀ i, i < len → ∃ x : Cf × Sl, W.cells? 0 (a.add (i * 13)) 13 = some (cfgL x.1 x.2) ∧ CfgAt W x.1 x.2 ∧ CfR x.1 := by
      intro i hi
      obtain ⟨cs', hc, ht⟩ := hV i (by omega)
      obtain ⟨c, s, h1, h2, h3⟩ := read_cfg ht (hse (D i) (List.mem_map.2 ⟨i, List.mem_range.2 hi, rfl⟩))
      exact ⟨(c, s), by rw [hc, h1], h2, h3⟩
    have hi0 : Inhabited (Cf × Sl) := ⟨(cf0, sl0)⟩
    obtain ⟨F, hF⟩ := choose_lt (α := Cf × Sl) (p := fun i x => W.cells? 0 (a.add (i * 13)) 13 = some (cfgL x.1 x.2) ∧ CfgAt W x.1 x.2 ∧ CfR x.1) each
    refine ⟨some a, len, cap, fun i => (F i).1, rfl, ⟨hl, by omega, fun i hi => ?_⟩⟩
    obtain ⟨e1, e2, e3⟩ := hF i hi
    obtain ⟨_, _, hcell⟩ := World.cells?_some e1
    obtain ⟨_, _, hcell0⟩ := World.cells?_some (hF 0 (by omega)).1
    obtain ⟨b, off, spot⟩ := a
    have hspot : spot = none := by
      have := hcell0 0 (by omega)
      simpa [Addr.add] using World.cell?_spot (v := .int .i64 (F 0).1.cores) this
    subst hspot
    refine ⟨b, off, (F i).2, rfl, fun j hj => ?_, e2, e3⟩
    have := hcell j hj
    rw [add_add'] at this
    rw [this]
    simp

theorem read_sc {n : Nat} {v : Value} {y : DataW H × List MemPlace} (h : DataW.trod enc Tryz.prog W 0 (fun _ => true) true n 23 [v] = some y) (hz : Sized Tryz.prog 23 y.1) :
    ∃ sa sl sc sts, v = .slice sa sl sc ∧ ScAt W sa sl sc sts := by
  rcases open_slice Tryz.underlying23 h with ⟨hcs, hx⟩ | ⟨a, len, cap, m, n', D, Pl, hcs, _, hl, hm, hmm, hx, hV⟩
  · simp only [List.cons.injEq, and_true] at hcs
    subst hcs
    exact ⟨none, 0, 0, fun _ => ⟨0, 0, 0, 0, 0⟩, rfl, ⟨Nat.le_refl _, by omega, fun i hi => absurd hi (Nat.not_lt_zero _)⟩⟩
  · simp only [List.cons.injEq, and_true] at hcs
    subst hcs
    simp only [if_true] at hmm
    subst hx
    obtain ⟨hs, hse⟩ := Sized.slice Tryz.underlying23 hz
    rw [Tryz.bytesOp] at hs
    simp only [List.length_map, List.length_range, reachBytes] at hs
    rw [Tryz.cellsOp] at hV
    have each : ∀ i, i < len → ∃ x : St, W.cells? 0 (a.add (i * 5)) 5 = some [.int .i64 x.k, .int .i64 x.a, .int .i64 x.b, .int .i64 x.c, .int .i64 x.d] ∧ StR x := by
      intro i hi
      obtain ⟨cs', hc, ht⟩ := hV i (by omega)
      obtain ⟨o, h1, h2⟩ := read_op ht
      exact ⟨o, by rw [hc, h1], h2⟩
    have hi0 : Inhabited St := ⟨⟨0, 0, 0, 0, 0⟩⟩
    obtain ⟨F, hF⟩ := choose_lt (α := St) (p := fun i x => W.cells? 0 (a.add (i * 5)) 5 = some [.int .i64 x.k, .int .i64 x.a, .int .i64 x.b, .int .i64 x.c, .int .i64 x.d] ∧ StR x) each
    refine ⟨some a, len, cap, F, rfl, ⟨hl, by omega, fun i hi => ?_⟩⟩
    obtain ⟨e1, e2⟩ := hF i hi
    obtain ⟨_, _, hcell⟩ := World.cells?_some e1
    obtain ⟨_, _, hcell0⟩ := World.cells?_some (hF 0 (by omega)).1
    obtain ⟨b, off, spot⟩ := a
    have hspot : spot = none := by
      have := hcell0 0 (by omega)
      simpa [Addr.add] using World.cell?_spot (v := .int .i64 (F 0).k) this
    subst hspot
    refine ⟨b, off, rfl, fun j hj => ?_, e2⟩
    have := hcell j hj
    rw [add_add'] at this
    rw [this]
    simp
end
end Go.Proofs.YtcmcfafhllpojaaGreat
