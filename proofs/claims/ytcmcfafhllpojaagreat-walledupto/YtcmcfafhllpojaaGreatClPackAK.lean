/-
  BesQ, BesA
-/
import Derived.Test.YtcmcfafhllpojaaGreatClFaultK
import Derived.Test.YtcmcfafhllpojaaGreatClKaseE
import Derived.Test.YtcmcfafhllpojaaGreatClPackAD
import Derived.Test.YtcmcfafhllpojaaGreatClPackT
namespace Go.Proofs.YtcmcfafhllpojaaGreat
open Go.RowKit

/-- A case beside another: all that is not domain d's is the other's. -/
def besP (x o : Cs) (d nc n : Nat) : List (List OpT) := (List.range n).map fun j => if j / nc = d then progK x j else progK o j
def besO (x o : Cs) (d : Nat) : List OpT := (x.own.filter fun c => c.1 == (d : Int)) ++ (o.own.filter fun c => c.1 != (d : Int))
def besK (x o : Cs) (d : Nat) : Cs := ⟨x.c, besP x o d x.c.cores.toNat (x.c.domains.toNat * x.c.cores.toNat), besO x o d, x.com, x.runs⟩

abbrev zero17 : List Value := [.int .i64 0, .int .i64 0, .int .i64 0, .int .i64 0, .int .i64 0, .int .i64 0, .int .i64 0, .slice none 0 0, .int .i64 0, .slice none 0 0, .slice none 0 0, .int .i64 0, .int .i64 0, .slice none 0 0, .slice none 0 0, .slice none 0 0, .slice none 0 0]
/-- The case that is being made: its lists so far. -/
abbrev mk17 (x : Cs) (l : Cl) (pa : Option Addr) (pl pc : Nat) (oa : Option Addr) (ol oc : Nat) : List Value := [.int .i64 x.c.cores, .int .i64 x.c.domains, .int .i64 x.c.line, .int .i64 x.c.priv, .int .i64 x.c.shared, .int .i64 x.c.near, .int .i64 x.c.sets, .slice l.s.wa l.s.wl l.s.wc, .int .i64 x.c.slot, .slice l.s.sa l.s.sl l.s.sc, .slice l.s.ta l.s.tl l.s.tc, .int .i64 x.c.quantum, .int .i64 x.c.flush, .slice pa pl pc, .slice oa ol oc, .slice l.ma l.ml l.mc, .slice l.ra l.rl l.rc]

theorem Tryz.sizeCaseB : (Tryz.prog.info? 33).map (fun i => i.size) = some 17 := by kernel_rfl
theorem built17 (x : Cs) (l : Cl) : Tryz.prog.built 33 [(0, cfgV x.c l.s), (3, .slice l.ma l.ml l.mc), (4, .slice l.ra l.rl l.rc)] = some (mk17 x l none 0 0 none 0 0).toArray := by kernel_rfl
theorem alloc17 (ev : Operand → Value) (o : Oper) (ho : o.op = .alloc 33) (w : World) : (execOp ev o).run Tryz.prog w = .ok (.value (.pointer (some ⟨w.heap.size, 0, none⟩))) (w.alloc (.cells zero17.toArray 33)) := by
  unfold execOp
  rw [ho]
  simp [go_sem]
theorem one17 (x : Cs) (l : Cl) : (mk17 x l none 0 0 none 0 0).toArray.all (·.oneCell') = true := by simp [Value.oneCell']
theorem size17 (x : Cs) (l : Cl) : zero17.toArray.size = (mk17 x l none 0 0 none 0 0).toArray.size := by simp
theorem sizeC17 (x : Cs) (l : Cl) : (Tryz.prog.info? 33).map (·.size) = some (mk17 x l none 0 0 none 0 0).toArray.size := by rw [show (mk17 x l none 0 0 none 0 0).toArray.size = 17 by simp]; exact Tryz.sizeCaseB

/-- The other case with the configuration of x. -/
abbrev ocL (x : Cs) (l : Cl) (o : Cs) (lo : Cl) : List Value := csL ⟨x.c, o.progs, o.own, o.com, o.runs⟩ ⟨l.s, lo.pa, lo.pl, lo.pc, lo.oa, lo.ol, lo.oc, lo.ma, lo.ml, lo.mc, lo.ra, lo.rl, lo.rc⟩

/-- While it is made: the boxes of x, of the other, of the result, of what is made. -/
structure BS (w wr : World) (x : Cs) (l : Cl) (OL YL : List Value) : Prop where
  bx : Row wr w.heap.size (csL x l) 33
  bo : Row wr (w.heap.size + 1) OL 33
  br : Row wr (w.heap.size + 2) zero17 33
  by' : Row wr (w.heap.size + 3) YL 33
  bel : Below w.heap.size w wr
theorem BS.below {w wr wr' : World} {x : Cs} {l : Cl} {OL YL : List Value} (h : BS w wr x l OL YL) (hb : Below wr.heap.size wr wr') : BS w wr' x l OL YL :=
  ⟨h.bx.below hb h.bx.lt, h.bo.below hb h.bo.lt, h.br.below hb h.br.lt, h.by'.below hb h.by'.lt, below_step h.bel hb rfl⟩
theorem BS.setY {w wr : World} {x : Cs} {l : Cl} {OL YL : List Value} (h : BS w wr x l OL YL) (i : Nat) (v : Value) : BS w (wr.setCell ⟨w.heap.size + 3, i, none⟩ v) x l OL (YL.set i v) :=
  ⟨h.bx.setCellOther i v (by omega), h.bo.setCellOther i v (by omega), h.br.setCellOther i v (by omega), h.by'.setCell i v, h.bel.setCell (p := ⟨w.heap.size + 3, i, none⟩) (by show w.heap.size ≤ w.heap.size + 3; omega) _⟩
theorem BS.setO {w wr : World} {x : Cs} {l : Cl} {OL YL : List Value} (h : BS w wr x l OL YL) (i : Nat) (v : Value) : BS w (wr.setCell ⟨w.heap.size + 1, i, none⟩ v) x l (OL.set i v) YL :=
  ⟨h.bx.setCellOther i v (by omega), h.bo.setCell i v, h.br.setCellOther i v (by omega), h.by'.setCellOther i v (by omega), h.bel.setCell (p := ⟨w.heap.size + 1, i, none⟩) (by show w.heap.size ≤ w.heap.size + 1; omega) _⟩

theorem Tryz.infoOpsB : (Tryz.prog.info? 53).map (fun i => (i.zero, i.size, i.bytes)) = some (some (.slice none 0 0), 1, 24) := by kernel_rfl

/-- While the programs are laid down. -/
structure PS (w wr : World) (x : Cs) (l : Cl) (o : Cs) (lo : Cl) (d nc n : Nat) (pa : Option Addr) (pc : Nat) (A : Nat → Option Addr) (Ln Cp : Nat → Nat) : Prop where
  bs : BS w wr x l (ocL x l o lo) (mk17 x l pa n pc none 0 0)
  own : wr.ownsRow (w.heap.size + 4) 53 1 (.slice pa n pc) n ((List.range n).map fun j => .slice (A j) (Ln j) (Cp j))
  ops : ∀ j, j < n → OpsAt w (A j) (Ln j) (Cp j) (if j / nc = d then progK x j else progK o j)
  siz : w.heap.size + 4 ≤ wr.heap.size
theorem PS.below {w wr wr' : World} {x : Cs} {l : Cl} {o : Cs} {lo : Cl} {d nc n : Nat} {pa : Option Addr} {pc : Nat} {A : Nat → Option Addr} {Ln Cp : Nat → Nat} (h : PS w wr x l o lo d nc n pa pc A Ln Cp) (hb : Below wr.heap.size wr wr') : PS w wr' x l o lo d nc n pa pc A Ln Cp :=
  ⟨h.bs.below hb, owns_same h.own (fun g hg => hb.block g (owns_lt h.own g hg).1), h.ops, Nat.le_trans h.siz hb.size⟩
theorem PS.more {w v w4 : World} {x : Cs} {l : Cl} {o : Cs} {lo : Cl} {d nc n : Nat} {pa : Option Addr} {pc : Nat} {A : Nat → Option Addr} {Ln Cp : Nat → Nat} (h : PS w v x l o lo d nc n pa pc A Ln Cp) {sa : Option Addr} {len cap gg cap2 : Nat} (hO : OpsAt w sa len cap (if n / nc = d then progK x n else progK o n))
    (hgrow : (v.alloc (.cells #[.slice sa len cap] 53)).grownBy w4 (Value.slice pa n pc).ownBlock) (hown : w4.ownsRow (w.heap.size + 4) 53 1 (.slice (some ⟨gg, 0, none⟩) (n + 1) cap2) (n + 1) (((List.range n).map fun j => .slice (A j) (Ln j) (Cp j)) ++ [.slice sa len cap])) :
    BS w w4 x l (ocL x l o lo) (mk17 x l pa n pc none 0 0) ∧ PS w (w4.setCell ⟨w.heap.size + 3, 13, none⟩ (.slice (some ⟨gg, 0, none⟩) (n + 1) cap2)) x l o lo d nc (n + 1) (some ⟨gg, 0, none⟩) cap2 (fun j => if j = n then sa else A j) (fun j => if j = n then len else Ln j) (fun j => if j = n then cap else Cp j) := by
  have hrw : ∀ k, (Value.slice pa n pc).ownBlock = some k → w.heap.size + 4 ≤ k := fun k hk => (owns_lt h.own k hk).2
  have hbA : Below v.heap.size v (v.alloc (.cells #[.slice sa len cap] 53)) := (Below.refl _ _).alloc (Nat.le_refl _) _
  have hsz := h.siz
  have B0 := h.bs.below hbA
  have keep : ∀ (g : Nat) (L : List Value), g < w.heap.size + 4 → Row (v.alloc (.cells #[.slice sa len cap] 53)) g L 33 → Row w4 g L 33 := fun g L hg r => by
    unfold Row
    rw [hgrow.block g (by simp; omega) (fun e => by have := hrw g e.symm; omega)]
    exact r
  have B4 : BS w w4 x l (ocL x l o lo) (mk17 x l pa n pc none 0 0) := ⟨keep _ _ (by omega) B0.bx, keep _ _ (by omega) B0.bo, keep _ _ (by omega) B0.br, keep _ _ (by omega) B0.by', below_grown B0.bel (by simp; omega) hgrow (fun k hk => by have := hrw k hk; omega)⟩
  have l4 := B4.by'.lt
  have hg4 : w.heap.size + 4 ≤ gg ∧ gg < w4.heap.size := by have := owns_lt hown gg rfl; omega
  refine ⟨B4, B4.setY 13 _, ?_, fun j hj => ?_, by simp [World.setCell]; omega⟩
  · have e1 : ((List.range (n + 1)).map fun j => Value.slice (if j = n then sa else A j) (if j = n then len else Ln j) (if j = n then cap else Cp j)) = ((List.range n).map fun j => .slice (A j) (Ln j) (Cp j)) ++ [.slice sa len cap] := by
      rw [List.range_succ, List.map_append]
      congr 1
      · apply List.map_congr_left
        intro j hj
        have : j ≠ n := by have := List.mem_range.1 hj; omega
        simp [this]
      · simp
    rw [e1]
    refine owns_same hown (fun g hg => ?_)
    have : g = gg := by simp [Value.ownBlock] at hg; exact hg.symm
    subst this
    exact Below.heap_setCell _ _ _ _ (by show g ≠ w.heap.size + 3; omega)
  · by_cases q : j = n
    · subst q; simp only [if_true]; exact hO
    · simp only [q, if_false]; exact h.ops j (by omega)

/-- Rows of two types lie in two blocks. -/
theorem own_apart {w : World} {b1 b2 s1 s2 n1 n2 : Nat} {t1 t2 : TypeId} {v1 v2 : Value} {xs1 xs2 : List Value} (h1 : w.ownsRow b1 t1 s1 v1 n1 xs1) (h2 : w.ownsRow b2 t2 s2 v2 n2 xs2) {g : Nat} (e1 : v1.ownBlock = some g) (e2 : v2.ownBlock = some g) (hne : t1 ≠ t2 := by decide) : False := by
  rcases h1.2 with ⟨a, _⟩ | ⟨g1, c1, cur1, a, _, q1, _⟩
  · rw [a] at e1; simp [Value.ownBlock] at e1
  · rcases h2.2 with ⟨b, _⟩ | ⟨g2, c2, cur2, b, _, q2, _⟩
    · rw [b] at e2; simp [Value.ownBlock] at e2
    · rw [a] at e1
      rw [b] at e2
      simp [Value.ownBlock] at e1 e2
      subst e1
      subst e2
      rw [q1] at q2
      simp at q2
      exact hne q2.2

theorem Tryz.infoCellB : (Tryz.prog.info? 71).map (fun i => (i.zero, i.size, i.bytes)) = some (some (.agg #[.int .i64 0, .int .i64 0, .int .i64 0]), 3, 24) := by kernel_rfl

/-- While the first words are laid down. -/
structure QS (w wr : World) (x : Cs) (l : Cl) (o : Cs) (lo : Cl) (n : Nat) (pa : Option Addr) (pc : Nat) (SV : List Value) (oa : Option Addr) (oc : Nat) (cs : List OpT) : Prop where
  bs : BS w wr x l (ocL x l o lo) (mk17 x l pa n pc oa cs.length oc)
  pown : wr.ownsRow (w.heap.size + 4) 53 1 (.slice pa n pc) n SV
  own : wr.ownsRow (w.heap.size + 4) 71 3 (.slice oa cs.length oc) cs.length (cs.flatMap opL)
  siz : w.heap.size + 4 ≤ wr.heap.size
theorem QS.below {w wr wr' : World} {x : Cs} {l : Cl} {o : Cs} {lo : Cl} {n : Nat} {pa : Option Addr} {pc : Nat} {SV : List Value} {oa : Option Addr} {oc : Nat} {cs : List OpT} (h : QS w wr x l o lo n pa pc SV oa oc cs) (hb : Below wr.heap.size wr wr') : QS w wr' x l o lo n pa pc SV oa oc cs :=
  ⟨h.bs.below hb, owns_same h.pown (fun g hg => hb.block g (owns_lt h.pown g hg).1), owns_same h.own (fun g hg => hb.block g (owns_lt h.own g hg).1), Nat.le_trans h.siz hb.size⟩
theorem QS.drewN {w wr : World} {x : Cs} {l : Cl} {o : Cs} {lo : Cl} {n : Nat} {pa : Option Addr} {pc : Nat} {SV : List Value} {oa : Option Addr} {oc : Nat} {cs : List OpT} (h : QS w wr x l o lo n pa pc SV oa oc cs) (j : Nat) : QS w (wr.drewN j) x l o lo n pa pc SV oa oc cs :=
  h.below ⟨rfl, rfl, rfl, Nat.le_refl _, fun _ _ => rfl⟩
theorem QS.more {w v w4 : World} {x : Cs} {l : Cl} {o : Cs} {lo : Cl} {n : Nat} {pa : Option Addr} {pc : Nat} {SV : List Value} {oa : Option Addr} {oc : Nat} {cs : List OpT} (h : QS w v x l o lo n pa pc SV oa oc cs) {c : OpT} {gg cap2 : Nat}
    (hgrow : (v.alloc (.cells (opArr c) 71)).grownBy w4 (Value.slice oa cs.length oc).ownBlock) (hown : w4.ownsRow (w.heap.size + 4) 71 3 (.slice (some ⟨gg, 0, none⟩) (cs.length + 1) cap2) (cs.length + 1) (cs.flatMap opL ++ opL c)) :
    BS w w4 x l (ocL x l o lo) (mk17 x l pa n pc oa cs.length oc) ∧ QS w (w4.setCell ⟨w.heap.size + 3, 14, none⟩ (.slice (some ⟨gg, 0, none⟩) (cs.length + 1) cap2)) x l o lo n pa pc SV (some ⟨gg, 0, none⟩) cap2 (cs ++ [c]) := by
  have hrw : ∀ k, (Value.slice oa cs.length oc).ownBlock = some k → w.heap.size + 4 ≤ k := fun k hk => (owns_lt h.own k hk).2
  have hbA : Below v.heap.size v (v.alloc (.cells (opArr c) 71)) := (Below.refl _ _).alloc (Nat.le_refl _) _
  have hsz := h.siz
  have Q0 := h.below hbA
  have B0 := Q0.bs
  have keep : ∀ (g : Nat) (L : List Value), g < w.heap.size + 4 → Row (v.alloc (.cells (opArr c) 71)) g L 33 → Row w4 g L 33 := fun g L hg r => by
    unfold Row
    rw [hgrow.block g (by simp; omega) (fun e => by have := hrw g e.symm; omega)]
    exact r
  have B4 : BS w w4 x l (ocL x l o lo) (mk17 x l pa n pc oa cs.length oc) := ⟨keep _ _ (by omega) B0.bx, keep _ _ (by omega) B0.bo, keep _ _ (by omega) B0.br, keep _ _ (by omega) B0.by', below_grown B0.bel (by simp; omega) hgrow (fun k hk => by have := hrw k hk; omega)⟩
  have l4 := B4.by'.lt
  have hg4 : w.heap.size + 4 ≤ gg ∧ gg < w4.heap.size := by have := owns_lt hown gg rfl; omega
  have hp4 : w4.ownsRow (w.heap.size + 4) 53 1 (.slice pa n pc) n SV := owns_same Q0.pown (fun g hg => by
    have hlt := (owns_lt Q0.pown g hg).1
    refine hgrow.block g hlt (fun e => ?_)
    have hne := own_apart Q0.pown Q0.own hg e.symm
    exact hne)
  refine ⟨B4, by rw [List.length_append]; exact B4.setY 14 _, ?_, ?_, by simp [World.setCell]; omega⟩
  · refine owns_same hp4 (fun g hg => Below.heap_setCell _ _ _ _ ?_)
    have := (owns_lt hp4 g hg).2
    show g ≠ w.heap.size + 3
    omega
  · rw [List.length_append, List.flatMap_append, List.flatMap_singleton]
    refine owns_same hown (fun g hg => ?_)
    have : g = gg := by simp [Value.ownBlock] at hg; exact hg.symm
    subst this
    exact Below.heap_setCell _ _ _ _ (by show g ≠ w.heap.size + 3; omega)

theorem progs_of {wr : World} {base n pc : Nat} {pa : Option Addr} {A : Nat → Option Addr} {Ln Cp : Nat → Nat} {f : Nat → List OpT} (h : wr.ownsRow base 53 1 (.slice pa n pc) n ((List.range n).map fun j => .slice (A j) (Ln j) (Cp j))) (ho : ∀ j, j < n → OpsAt wr (A j) (Ln j) (Cp j) (f j)) : OpsGrid wr pa n pc ((List.range n).map f) := by
  by_cases hn : 0 < n
  · obtain ⟨g, cap, hv, _, _⟩ := World.ownsRow.form h hn
    simp only [Value.slice.injEq] at hv
    obtain ⟨rfl, _, rfl⟩ := hv
    have hc := owns_cells h (fun j => .slice (A j) (Ln j) (Cp j)) (fun j hj => by rw [List.getElem?_map, List.getElem?_range (by omega)]; rfl)
    rw [Nat.mul_one] at hc
    refine ⟨by simp, hc.2.1, hc.2.2.1, fun i hi => ⟨g, 0, A i, Ln i, Cp i, rfl, ?_, ?_⟩⟩
    · rw [Nat.zero_add]; exact hc.1.cell hi
    · rw [List.getD_eq_getElem?_getD, List.getElem?_map, List.getElem?_range hi]
      exact ho i hi
  · have e : n = 0 := by omega
    subst e
    rcases h.2 with ⟨hv, _⟩ | ⟨g, cap, cur, hv, _, _, h1, h2, _⟩
    · simp only [Value.slice.injEq] at hv
      exact ⟨rfl, by omega, by have := hv.2.2; unfold maxLen; omega, fun i hi => by omega⟩
    · simp only [Value.slice.injEq] at hv
      exact ⟨rfl, by have := hv.2.2; omega, by rw [hv.2.2]; exact h2, fun i hi => by omega⟩
theorem flat3 : ∀ (cs : List OpT) (i j : Nat), i < cs.length → j < 3 → (cs.flatMap opL)[i * 3 + j]? = (opL (cs.getD i opZ))[j]?
  | [], i, j, h, _ => by simp at h
  | c :: cs, i, j, h, hj => by
    rw [List.flatMap_cons]
    have hl : (opL c).length = 3 := rfl
    cases i with
    | zero =>
      rw [List.getElem?_append_left (by rw [hl]; omega)]
      simp
    | succ i =>
      rw [List.getElem?_append_right (by rw [hl]; omega), hl, show (i + 1) * 3 + j - 3 = i * 3 + j by omega, flat3 cs i j (by simpa using h) hj]
      simp
theorem cells_of {wr : World} {base oc : Nat} {oa : Option Addr} {cs : List OpT} (h : wr.ownsRow base 71 3 (.slice oa cs.length oc) cs.length (cs.flatMap opL)) : OpsAt wr oa cs.length oc cs := by
  by_cases hn : 0 < cs.length
  · obtain ⟨g, cap, hv, _, _⟩ := World.ownsRow.form h hn
    simp only [Value.slice.injEq] at hv
    obtain ⟨rfl, _, rfl⟩ := hv
    have hc := owns_cells h (fun i => ((opL (cs.getD (i / 3) opZ))[i % 3]?).getD undef) (fun i hi => by
      have e : i = i / 3 * 3 + i % 3 := by omega
      have hm : i % 3 < 3 := by omega
      have := flat3 cs (i / 3) (i % 3) (by omega) hm
      rw [← e] at this
      rw [this, List.getElem?_eq_getElem (show i % 3 < (opL (cs.getD (i / 3) opZ)).length from hm)]
      rfl)
    refine ⟨rfl, hc.2.1, hc.2.2.1, fun i hi => ⟨g, 0, rfl, ?_, ?_, ?_⟩⟩
    · rw [Nat.zero_add, hc.1.cell (by omega), show i * 3 / 3 = i by omega, show i * 3 % 3 = 0 by omega]; rfl
    · rw [Nat.zero_add, hc.1.cell (by omega), show (i * 3 + 1) / 3 = i by omega, show (i * 3 + 1) % 3 = 1 by omega]; rfl
    · rw [Nat.zero_add, hc.1.cell (by omega), show (i * 3 + 2) / 3 = i by omega, show (i * 3 + 2) % 3 = 2 by omega]; rfl
  · have e : cs = [] := List.eq_nil_of_length_eq_zero (by omega)
    subst e
    rcases h.2 with ⟨hv, _⟩ | ⟨g, cap, cur, hv, _, _, h1, h2, _⟩
    · simp only [Value.slice.injEq] at hv
      exact ⟨rfl, by simp, by have := hv.2.2; unfold maxLen; omega, fun i hi => by simp at hi⟩
    · simp only [Value.slice.injEq] at hv
      exact ⟨rfl, by simp, by rw [hv.2.2]; exact h2, fun i hi => by simp at hi⟩

/-- What was made is the case. -/
theorem QS.case {w wr : World} {x : Cs} {l : Cl} {o : Cs} {lo : Cl} {d nc : Nat} {pa : Option Addr} {pc : Nat} {A : Nat → Option Addr} {Ln Cp : Nat → Nat} {oa : Option Addr} {oc : Nat} {cs : List Value} (hX : CaseAt w x l) (hnc : x.c.cores.toNat = nc)
    (h : QS w wr x l o lo (x.c.domains.toNat * nc) pa pc ((List.range (x.c.domains.toNat * nc)).map fun j => .slice (A j) (Ln j) (Cp j)) oa oc (besO x o d)) (ho : ∀ j, j < x.c.domains.toNat * nc → OpsAt w (A j) (Ln j) (Cp j) (if j / nc = d then progK x j else progK o j)) :
    CaseAt (wr.setRow (w.heap.size + 2) cs.toArray) (besK x o d) ⟨l.s, pa, x.c.domains.toNat * nc, pc, oa, (besO x o d).length, oc, l.ma, l.ml, l.mc, l.ra, l.rl, l.rc⟩ ∧ Below w.heap.size w (wr.setRow (w.heap.size + 2) cs.toArray) := by
  have hb : Below w.heap.size w (wr.setRow (w.heap.size + 2) cs.toArray) := below_setRow h.bs.bel (by omega) _
  have hX' := hX.below hb (Nat.le_refl _)
  have hp := owns_same (w' := wr.setRow (w.heap.size + 2) cs.toArray) h.pown (fun g hg => heap_setRow _ _ _ _ (by have := (owns_lt h.pown g hg).2; omega))
  have hc := owns_same (w' := wr.setRow (w.heap.size + 2) cs.toArray) h.own (fun g hg => heap_setRow _ _ _ _ (by have := (owns_lt h.own g hg).2; omega))
  refine ⟨⟨hX'.cfg, ?_, cells_of hc, hX'.com, hX'.runs⟩, hb⟩
  have := progs_of hp (fun j hj => (ho j hj).below hb (Nat.le_refl _))
  show OpsGrid _ _ _ _ (besP x o d x.c.cores.toNat (x.c.domains.toNat * x.c.cores.toNat))
  rw [hnc]
  exact this
end Go.Proofs.YtcmcfafhllpojaaGreat

namespace Go.Proofs.YtcmcfafhllpojaaGreat

theorem bes_prog (x o : Cs) (d k : Nat) (hc : 0 < x.c.cores.toNat) (hk : k < x.c.cores.toNat) (hd : d < x.c.domains.toNat) : progK (besK x o d) (d * x.c.cores.toNat + k) = progK x (d * x.c.cores.toNat + k) := by
  have hlt : d * x.c.cores.toNat + k < x.c.domains.toNat * x.c.cores.toNat := by
    have : (d + 1) * x.c.cores.toNat ≤ x.c.domains.toNat * x.c.cores.toNat := Nat.mul_le_mul_right _ hd
    rw [Nat.succ_mul] at this
    omega
  have hdiv : (d * x.c.cores.toNat + k) / x.c.cores.toNat = d := by rw [Nat.mul_comm, Nat.mul_add_div hc, Nat.div_eq_of_lt hk]; omega
  have e : (besK x o d).progs.getD (d * x.c.cores.toNat + k) [] = progK x (d * x.c.cores.toNat + k) := by
    show (besP x o d x.c.cores.toNat (x.c.domains.toNat * x.c.cores.toNat)).getD _ [] = _
    unfold besP
    rw [List.getD_eq_getElem?_getD, List.getElem?_map, List.getElem?_range hlt]
    simp only [Option.map_some, Option.getD_some]
    rw [if_pos hdiv]
  unfold progK at e ⊢
  rw [e]
  by_cases q : opsOk (x.progs.getD (d * x.c.cores.toNat + k) []) = true
  · rw [if_pos q, if_pos q]
  · rw [if_neg q]
    split <;> rfl

theorem own_congr {c : Cf} {g g' : Nat → Nat → Int} {d : Nat} (h : g d = g' d) (o : OpT) : ownStep c g o d = ownStep c g' o d := by
  unfold ownStep
  split
  · unfold up1
    by_cases q : d = o.1.toNat
    · rw [if_pos q, if_pos q, ← q, h]
    · rw [if_neg q, if_neg q, h]
  · exact h
theorem own_other {c : Cf} {g : Nat → Nat → Int} {d : Nat} {o : OpT} (h : o.1 ≠ (d : Int)) : ownStep c g o d = g d := by
  unfold ownStep
  split
  · next q =>
    unfold up1
    rw [if_neg (fun e => h (by omega))]
  · rfl
theorem own_fold (c : Cf) (d : Nat) : ∀ (L : List OpT) (g g' : Nat → Nat → Int), g d = g' d → L.foldl (ownStep c) g d = (L.filter fun o => o.1 == (d : Int)).foldl (ownStep c) g' d
  | [], _, _, h => h
  | o :: L, g, g', h => by
    rw [List.foldl_cons, List.filter_cons]
    by_cases q : o.1 = (d : Int)
    · rw [if_pos (by simp [q]), List.foldl_cons]
      exact own_fold c d L _ _ (own_congr h o)
    · rw [if_neg (by simp [q])]
      exact own_fold c d L _ _ ((own_other q).trans h)
theorem bes_own (x o : Cs) (d : Nat) : ownK x.c (besO x o d) d = ownK x.c x.own d := by
  unfold ownK
  rw [own_fold x.c d (besO x o d) _ (fun _ _ => 0) rfl, own_fold x.c d x.own _ (fun _ _ => 0) rfl]
  have e : (besO x o d).filter (fun c => c.1 == (d : Int)) = x.own.filter fun c => c.1 == (d : Int) := by
    unfold besO
    rw [List.filter_append, List.filter_filter, List.filter_filter]
    have e2 : (o.own.filter fun c => (c.1 == (d : Int)) && (c.1 != (d : Int))) = [] := by
      apply List.filter_eq_nil_iff.2
      intro c _
      by_cases q : c.1 = (d : Int) <;> simp [q]
    rw [e2, List.append_nil]
    congr 1
    funext c
    simp
  rw [e]

/-- They agree in d. -/
theorem bes_agree (x o : Cs) (hz : chk x.c = 0) (d : Nat) (hd : (d : Int) < x.c.domains) : Agree (datK x) (datK (besK x o d)) d := by
  have hN := nm_of hz
  have e1 : (cnOf x.c).nc = x.c.cores.toNat := rfl
  have c0 := hN.c0
  refine ⟨rfl, fun k hk => ?_, fun a => ?_⟩
  · show progK x (d * x.c.cores.toNat + k) = progK (besK x o d) (d * x.c.cores.toNat + k)
    exact (bes_prog x o d k (by omega) hk (by omega)).symm
  · unfold firstF0
    show (if a < x.c.priv then ((List.range x.c.priv.toNat).map fun a => ownK x.c x.own d a).getD a.toNat 0 else _) = (if a < x.c.priv then ((List.range x.c.priv.toNat).map fun a => ownK x.c (besO x o d) d a).getD a.toNat 0 else _)
    rw [bes_own]
    rfl
end Go.Proofs.YtcmcfafhllpojaaGreat
