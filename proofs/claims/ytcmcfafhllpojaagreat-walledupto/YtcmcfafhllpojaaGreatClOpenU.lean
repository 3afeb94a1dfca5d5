/-
  The arguments opened: a case of wallskeep whose bulk is bounded.
-/
import Derived.Test.YtcmcfafhllpojaaGreatRows
import Derived.Test.YtcmcfafhllpojaaGreatClPackX
namespace Go.Proofs.YtcmcfafhllpojaaGreat
open Go.ChangeShapes Go.WideShapes Go.ChangeAt Go.RowKit Go.Deep

theorem bulk_one {H : Type} (d : DataW H) : 1 ≤ Rows.uptoBulk d := by
  cases d with
  | lit l => cases l <;> simp [Rows.uptoBulk]
  | _ => simp [Rows.uptoBulk]
theorem bulk_len {H : Type} : ∀ l : List (DataW H), l.length ≤ Rows.uptoBulkAll l
  | [] => by simp [Rows.uptoBulkAll]
  | d :: l => by
    have h1 := bulk_one d
    have h2 := bulk_len l
    simp only [Rows.uptoBulkAll, List.length_cons]
    omega

section
variable {H : Type} {enc : TypeId × Value → H} {W : World}

theorem read_cellsU {n : Nat} {v : Value} {y : DataW H × List MemPlace} (h : DataW.trod enc Tryz.prog W 0 (fun _ => true) true n 31 [v] = some y) :
    ∃ sa len cap os, v = .slice sa len cap ∧ OpsAt W sa len cap os ∧ os.length ≤ Rows.uptoBulk y.1 := by
  rcases open_slice Tryz.underlying31 h with ⟨hcs, hx⟩ | ⟨a, len, cap, m, n', D, Pl, hcs, _, hl, hm, hmm, hx, hV⟩
  · simp only [List.cons.injEq, and_true] at hcs
    subst hcs
    exact ⟨none, 0, 0, [], rfl, opsAt_nil W, by simp⟩
  · simp only [List.cons.injEq, and_true] at hcs
    subst hcs
    simp only [if_true] at hmm
    subst hx
    rw [Tryz.cellsCell] at hV
    obtain ⟨os, hO⟩ := ops_of (W := W) (a := a) (len := len) (cap := cap) hl hm (fun i hi => by
      obtain ⟨cs', hc, ht⟩ := hV i (by omega)
      obtain ⟨o, h1⟩ := read_cellA ht
      exact ⟨o, by rw [hc, h1]⟩)
    refine ⟨some a, len, cap, os, rfl, hO, ?_⟩
    have h1 := bulk_len ((List.range len).map D)
    rw [List.length_map, List.length_range] at h1
    rw [hO.hlen]
    simp only [Rows.uptoBulk]
    omega

set_option maxRecDepth 100000 in
theorem read_caseU {n : Nat} {cs : List Value} {y : DataW H × List MemPlace} (h : DataW.trod enc Tryz.prog W 0 (fun _ => true) true n 33 cs = some y) (hz : Sized Tryz.prog 33 y.1) :
    ∃ x l, cs = csL x l ∧ CaseAt W x l ∧ x.own.length ≤ Rows.uptoBulk y.1 ∧ x.runs.length * 8 ≤ 140737488351232 := by
  obtain ⟨xs, m, _, hy, hlen, hxl, hf⟩ := DataW.trod_struct Tryz.underlying33 h
  rw [Tryz.cellsCase] at hlen
  have hxl' : xs.length = 5 := hxl
  match cs, hlen, xs, hxl' with
  | [c0, c1, c2, c3, c4, c5, c6, c7, c8, c9, c10, c11, c12, c13, c14, c15, c16], _, [y0, y1, y2, y3, y4], _ =>
    have t0 := hf 0 _ rfl
    have t1 := hf 1 _ rfl
    have t2 := hf 2 _ rfl
    have t3 := hf 3 _ rfl
    have t4 := hf 4 _ rfl
    simp only [List.getElem?_cons_zero, List.getElem?_cons_succ] at t0 t1 t2 t3 t4
    subst hy
    have z0 : Sized Tryz.prog 29 y0.1 := hz.agg Tryz.underlying33 (j := 0) rfl rfl
    have z1 : Sized Tryz.prog 30 y1.1 := hz.agg Tryz.underlying33 (j := 1) rfl rfl
    have z3 : Sized Tryz.prog 31 y3.1 := hz.agg Tryz.underlying33 (j := 3) rfl rfl
    have z4 : Sized Tryz.prog 25 y4.1 := hz.agg Tryz.underlying33 (j := 4) rfl rfl
    obtain ⟨c, s, e0, h0, _⟩ := read_cfg t0 z0
    obtain ⟨pa, pl, pc, progs, e1, h1⟩ := read_progs t1 z1
    obtain ⟨oa, ol, oc, own, e2, h2, hb2⟩ := read_cellsU t2
    obtain ⟨ma, ml, mc, com, e3, h3⟩ := read_cells t3 z3
    obtain ⟨ra, rl, rc, runs, e4, h4, hb4⟩ := read_ints t4 z4
    simp only [cfgL] at e0
    obtain ⟨rfl, rfl, rfl, rfl, rfl, rfl, rfl, rfl, rfl, rfl, rfl, rfl, rfl⟩ := e0
    subst e1 e2 e3 e4
    refine ⟨⟨c, progs, own, com, runs⟩, ⟨s, pa, pl, pc, oa, ol, oc, ma, ml, mc, ra, rl, rc⟩, rfl, ⟨h0, h1, h2, h3, h4⟩, ?_, hb4⟩
    show own.length ≤ _
    simp only [List.map_cons, List.map_nil, Rows.uptoBulk, Rows.uptoBulkAll]
    omega
end
end Go.Proofs.YtcmcfafhllpojaaGreat
