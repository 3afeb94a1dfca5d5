/-
  Base, Heap, RowC, Math, RightC, Frame, MathB, MathT, VictimC, MathP
-/
import Derived.WalkKit
import Derived.WalkSpells
import Derived.WalkLawsBesides
import Derived.Deep.Draws
import Derived.WalkSmall
import Derived.Laws.CopyOwn
import Derived.OwnWalk
import Derived.Test.YtehheaedbnfidaaGreatProg
namespace Go.Proofs.YtehheaedbnfidaaGreat
open Go.RowKit

theorem ret_int {k : IntKind} {a b : Int} (h : a = b) : Ending.returned (.int k a) = .returned (.int k b) := by rw [h]
theorem ret_bool {a b : Bool} (h : a = b) : Ending.returned (.bool a) = .returned (.bool b) := by rw [h]

/-- A slice value that reads as these integers. -/
structure Ints (w : World) (sa : Option Addr) (len cap : Nat) (xs : List Int) : Prop where
  hlen : xs.length = len
  hle : len ≤ cap
  hmax : cap ≤ maxLen
  hnil : sa = none → cap = 0
  hat : ∀ i, i < len → ∃ b off, sa = some ⟨b, off, none⟩ ∧ w.cell? ⟨b, off + i, none⟩ = some (.int .i64 (xs.getD i 0))

/-- A slice of such slices. -/
structure Grid (w : World) (sa : Option Addr) (len cap : Nat) (xss : List (List Int)) : Prop where
  hlen : xss.length = len
  hle : len ≤ cap
  hmax : cap ≤ maxLen
  hnil : sa = none → cap = 0
  hat : ∀ i, i < len → ∃ b off ia il ic, sa = some ⟨b, off, none⟩ ∧ w.cell? ⟨b, off + i, none⟩ = some (.slice ia il ic) ∧ Ints w ia il ic (xss.getD i [])

theorem cell_lt {w : World} {a : Addr} {v : Value} (h : w.cell? a = some v) : a.block < w.heap.size := by
  unfold World.cell? at h
  by_cases hb : a.block < w.heap.size
  · exact hb
  · rw [Array.getElem?_eq_none (by omega)] at h
    simp at h

theorem Ints.below {w w' : World} {sa : Option Addr} {len cap : Nat} {xs : List Int} {n : Nat} (h : Ints w sa len cap xs) (hb : Below n w w') (hn : w.heap.size ≤ n) : Ints w' sa len cap xs :=
  ⟨h.hlen, h.hle, h.hmax, h.hnil, fun i hi => by
    obtain ⟨b, off, h1, h2⟩ := h.hat i hi
    have := cell_lt h2
    exact ⟨b, off, h1, by rw [hb.cell (p := ⟨b, off + i, none⟩) (by simp at this ⊢; omega)]; exact h2⟩⟩

theorem Ints.alloc {w : World} {sa : Option Addr} {len cap : Nat} {xs : List Int} (h : Ints w sa len cap xs) (o : Obj) : Ints (w.alloc o) sa len cap xs :=
  h.below ((Below.refl w.heap.size w).alloc (Nat.le_refl _) o) (Nat.le_refl _)

theorem Ints.drew {w : World} {sa : Option Addr} {len cap : Nat} {xs : List Int} (h : Ints w sa len cap xs) : Ints w.drew sa len cap xs :=
  h.below ((Below.refl w.heap.size w).drew) (Nat.le_refl _)

theorem Ints.drewN {w : World} {sa : Option Addr} {len cap : Nat} {xs : List Int} (h : Ints w sa len cap xs) (n : Nat) : Ints (w.drewN n) sa len cap xs :=
  ⟨h.hlen, h.hle, h.hmax, h.hnil, h.hat⟩

theorem Grid.below {w w' : World} {sa : Option Addr} {len cap : Nat} {xs : List (List Int)} {n : Nat} (h : Grid w sa len cap xs) (hb : Below n w w') (hn : w.heap.size ≤ n) : Grid w' sa len cap xs :=
  ⟨h.hlen, h.hle, h.hmax, h.hnil, fun i hi => by
    obtain ⟨b, off, ia, il, ic, h1, h2, h3⟩ := h.hat i hi
    have := cell_lt h2
    exact ⟨b, off, ia, il, ic, h1, by rw [hb.cell (p := ⟨b, off + i, none⟩) (by simp at this ⊢; omega)]; exact h2, h3.below hb hn⟩⟩

theorem Grid.alloc {w : World} {sa : Option Addr} {len cap : Nat} {xs : List (List Int)} (h : Grid w sa len cap xs) (o : Obj) : Grid (w.alloc o) sa len cap xs :=
  h.below ((Below.refl w.heap.size w).alloc (Nat.le_refl _) o) (Nat.le_refl _)

theorem Grid.drewN {w : World} {sa : Option Addr} {len cap : Nat} {xs : List (List Int)} (h : Grid w sa len cap xs) (n : Nat) : Grid (w.drewN n) sa len cap xs :=
  ⟨h.hlen, h.hle, h.hmax, h.hnil, fun i hi => by
    obtain ⟨b, off, ia, il, ic, h1, h2, h3⟩ := h.hat i hi
    exact ⟨b, off, ia, il, ic, h1, h2, h3.drewN n⟩⟩

/-- A configuration's data. -/
structure Cf where
  cores : Int
  domains : Int
  line : Int
  priv : Int
  shared : Int
  near : Int
  sets : Int
  ways : List Int
  slot : Int
  slots : List Int
  turns : List (List Int)
  quantum : Int
  flush : Int

/-- The slices of a configuration's value. -/
structure Sl where
  wa : Option Addr
  wl : Nat
  wc : Nat
  sa : Option Addr
  sl : Nat
  sc : Nat
  ta : Option Addr
  tl : Nat
  tc : Nat

abbrev cfgA (c : Cf) (s : Sl) : Array Value := #[.int .i64 c.cores, .int .i64 c.domains, .int .i64 c.line, .int .i64 c.priv, .int .i64 c.shared, .int .i64 c.near, .int .i64 c.sets, .slice s.wa s.wl s.wc, .int .i64 c.slot, .slice s.sa s.sl s.sc, .slice s.ta s.tl s.tc, .int .i64 c.quantum, .int .i64 c.flush]
abbrev cfgL (c : Cf) (s : Sl) : List Value := [.int .i64 c.cores, .int .i64 c.domains, .int .i64 c.line, .int .i64 c.priv, .int .i64 c.shared, .int .i64 c.near, .int .i64 c.sets, .slice s.wa s.wl s.wc, .int .i64 c.slot, .slice s.sa s.sl s.sc, .slice s.ta s.tl s.tc, .int .i64 c.quantum, .int .i64 c.flush]
abbrev cfgV (c : Cf) (s : Sl) : Value := .agg (cfgA c s)

structure CfgAt (w : World) (c : Cf) (s : Sl) : Prop where
  ways : Ints w s.wa s.wl s.wc c.ways
  slots : Ints w s.sa s.sl s.sc c.slots
  turns : Grid w s.ta s.tl s.tc c.turns

theorem CfgAt.below {w w' : World} {c : Cf} {s : Sl} {n : Nat} (h : CfgAt w c s) (hb : Below n w w') (hn : w.heap.size ≤ n) : CfgAt w' c s :=
  ⟨h.ways.below hb hn, h.slots.below hb hn, h.turns.below hb hn⟩
theorem CfgAt.alloc {w : World} {c : Cf} {s : Sl} (h : CfgAt w c s) (o : Obj) : CfgAt (w.alloc o) c s :=
  ⟨h.ways.alloc o, h.slots.alloc o, h.turns.alloc o⟩

theorem bcell {W w1 : World} (hb : Below W.heap.size W w1) : (∀ b o, b < W.heap.size → w1.cell? ⟨b, o, none⟩ = W.cell? ⟨b, o, none⟩) ∧ (∀ b o, b < W.heap.size → w1.frozen? ⟨b, o, none⟩ = W.frozen? ⟨b, o, none⟩) :=
  ⟨fun b o h => hb.cell (p := ⟨b, o, none⟩) h, fun b o h => hb.frozen (p := ⟨b, o, none⟩) h⟩

theorem bcellN {W w1 : World} (n : Nat) (hb : Below W.heap.size W w1) (hn : W.heap.size = n) : (∀ b o, b < n → w1.cell? ⟨b, o, none⟩ = W.cell? ⟨b, o, none⟩) ∧ (∀ b o, b < n → w1.frozen? ⟨b, o, none⟩ = W.frozen? ⟨b, o, none⟩) ∧ n ≤ w1.heap.size := by
  subst hn
  exact ⟨(bcell hb).1, (bcell hb).2, hb.size⟩

theorem below_step {w w1 w2 : World} {n : Nat} (h : Below w.heap.size w w1) (hb : Below n w1 w2) (hn : n = w1.heap.size) : Below w.heap.size w w2 :=
  h.trans (hb.mono (by rw [hn]; exact h.size))

/-- Block b holds the cells A, and nothing below the size that w0 had has turned. -/
structure Kept (w0 w : World) (b : Nat) (A : Array Value) : Prop where
  below : Below w0.heap.size w0 w
  box : ∀ o, w.cell? ⟨b, o, none⟩ = A[o]?
  lt : b < w.heap.size

theorem Kept.start (w : World) (A : Array Value) (t : TypeId) : Kept w (w.alloc (.cells A t)) w.heap.size A :=
  ⟨(Below.refl _ _).alloc (Nat.le_refl _) _, fun o => by simp only [World.cell?]; rw [heap_alloc_new]; simp, by simp⟩

theorem Kept.next {w0 w w' : World} {b n : Nat} {A : Array Value} (h : Kept w0 w b A) (hb : Below n w w') (hn : n = w.heap.size) : Kept w0 w' b A :=
  ⟨below_step h.below hb hn, fun o => by rw [hb.cell (p := ⟨b, o, none⟩) (by rw [hn]; exact h.lt)]; exact h.box o, Nat.lt_of_lt_of_le h.lt hb.size⟩

theorem Kept.drew {w0 w : World} {b : Nat} {A : Array Value} (h : Kept w0 w b A) : Kept w0 w.drew b A := ⟨h.below.drew, h.box, h.lt⟩

theorem CfgAt.drew {w : World} {c : Cf} {s : Sl} (h : CfgAt w c s) : CfgAt w.drew c s :=
  h.below ((Below.refl w.heap.size w).drew) (Nat.le_refl _)

/-- Sizes that can be. -/
structure CfR (c : Cf) : Prop where
  ways : c.ways.length * 8 ≤ 140737488351232
  slots : c.slots.length * 8 ≤ 140737488351232
  turns : c.turns.length * 24 ≤ 140737488351232
  each : ∀ i, i < c.turns.length → (c.turns.getD i []).length * 8 ≤ 140737488351232
theorem add_plain' (b off j : Nat) : Addr.add ⟨b, off, none⟩ j = ⟨b, off + j, none⟩ := by
  unfold Addr.add
  by_cases h : j = 0 <;> simp [h]
end Go.Proofs.YtehheaedbnfidaaGreat

namespace Go.Proofs.YtehheaedbnfidaaGreat
open Go.RowKit

theorem push_modify {α : Type} (l : Array α) (x : α) (f : α → α) : (l.push x).modify l.size f = l.push (f x) := by
  apply Array.ext_getElem?
  intro i
  rw [Array.getElem?_modify, Array.getElem?_push, Array.getElem?_push]
  by_cases h : i = l.size
  · subst h; simp
  · simp [h, Ne.symm h]

theorem alloc_setRow (w : World) (A B : Array Value) (t : TypeId) (fr : Nat × Nat) : (w.alloc (.cells A t fr)).setRow w.heap.size B = w.alloc (.cells B t fr) := by
  unfold World.setRow World.alloc
  simp only [push_modify]

theorem alloc_setCell (w : World) (A : Array Value) (t : TypeId) (fr : Nat × Nat) (i : Nat) (v : Value) : (w.alloc (.cells A t fr)).setCell ⟨w.heap.size, i, none⟩ v = w.alloc (.cells (A.setIfInBounds i v) t fr) := by
  unfold World.setCell World.alloc
  simp only [push_modify, Option.isSome_none, Bool.false_eq_true, if_false]

theorem alloc_cell (w : World) (A : Array Value) (t : TypeId) (fr : Nat × Nat) (i : Nat) : (w.alloc (.cells A t fr)).cell? ⟨w.heap.size, i, none⟩ = A[i]? := by
  simp only [World.cell?]; rw [heap_alloc_new]; simp

theorem alloc_frozen (w : World) (A : Array Value) (t : TypeId) (i : Nat) : (w.alloc (.cells A t)).frozen? ⟨w.heap.size, i, none⟩ = false := by
  simp only [World.frozen?]; rw [heap_alloc_new]; simp

/-- 'make([]T, n)': the world written out. -/
theorem wpList_make_exact {P : Program} (w : World) {ops : Array Oper} {rest : List Oper} {o : Oper} {a : Act} {Q : Exit → Act → World → Prop}
    (hg : o.guard = none) (l c : Operand) (t : TypeId) (hop : o.op = Op.makeSlice t l c)
    (e : TypeId) (i : TypeInfo) (z : Value) (h1 : P.underlying t = some (.slice e)) (h2 : P.info? e = some i) (h3 : i.zero = some z)
    (kl kc : IntKind) (L C : Int) (n : Nat) (hl : a.eval l = .int kl L) (hc : a.eval c = .int kc C) (hL : L = (n : Int)) (hC : C = (n : Int)) (b2 : i.bytes * n ≤ 281474976710656) (b3 : n ≤ maxLen)
    (hK : wpList P ops Q rest (a.put o.dst (.slice (some ⟨w.heap.size, 0, none⟩) n n)) (w.alloc (.cells (madeCells z.cells (n * i.size)) e))) :
    wpList P ops Q (o :: rest) a w := by
  refine wpList_plain hg fun K hK' => ?_
  subst hL
  subst hC
  have h63' : (n : Int) ≤ 9223372036854775807 := by
    have h := b3
    simp [maxLen] at h
    omega
  have hb' : (i.bytes : Int) * (n : Int) ≤ 281474976710656 := by
    have h : ((i.bytes * n : Nat) : Int) ≤ 281474976710656 := by omega
    rwa [Int.natCast_mul] at h
  have hr := run_make (P := P) w t e i z h1 h2 h3 kl kc n n (by omega) (Int.le_refl _) hb' h63'
  simp only [Int.toNat_natCast] at hr
  unfold Oper.wp
  simp [execOp, hop, hl, hc, hr, Result.andThen]
  exact hK' _ _ hK

/-- 'copy(dst, src)' into the block made last: the world written out. -/
theorem run_copy_new {P : Program} (w0 : World) (dT sT oT : TypeId) (elem : TypeId) (hu : P.underlying dT = some (.slice elem)) (hsz : (P.info? elem).map (·.size) = some 1)
    (sp : Option Addr) (dLen dCap sLen sCap : Nat)
    (cur : List Value) (t : TypeId) (cs : List Value) (hn : cs.length = Nat.min sLen dLen)
    (hpos : 0 < cs.length → ∃ ad, sp = some ad ∧ ∀ j v, cs[j]? = some v → (w0.alloc (.cells cur.toArray t)).cell? (ad.add j) = some v)
    (hfit : cs.length ≤ cur.length) (h1 : ∀ v ∈ cs, v.oneCell' = true) :
    (Builtin.copy_ #[dT, sT] oT #[.slice (some ⟨w0.heap.size, 0, none⟩) dLen dCap, .slice sp sLen sCap]).run P (w0.alloc (.cells cur.toArray t)) = .ok (goInt cs.length) (w0.alloc (.cells (cs ++ cur.drop cs.length).toArray t)) := by
  by_cases h0 : cs.length = 0
  · obtain rfl : cs = [] := List.eq_nil_of_length_eq_zero h0
    rw [run_copy_none (P := P) _ dT sT oT elem _ sp dLen dCap sLen sCap hu hsz (by simpa using hn.symm)]
    simp
  · obtain ⟨ad, rfl, hsrc⟩ := hpos (by omega)
    rw [run_copy_row (P := P) _ dT sT oT elem w0.heap.size 0 dLen dCap ad sLen sCap cur.toArray t cs hu hsz (heap_alloc_new w0 _) hn hsrc (by simpa using hfit) h1, alloc_setRow]
    simp

end Go.Proofs.YtehheaedbnfidaaGreat

namespace Go.Proofs.YtehheaedbnfidaaGreat
open Go.RowKit

theorem Tryz.infoInt : (Tryz.prog.info? 3).map (fun i => (i.zero, i.size, i.bytes)) = some (some (.int .i64 0), 1, 8) := by kernel_rfl
theorem Tryz.infoInt1 : (Tryz.prog.info? 3).map (·.size) = some 1 := by kernel_rfl

theorem made_int (n : Nat) : madeCells (Value.int .i64 0).cells n = (List.replicate n (Value.int .i64 0)).toArray := by
  apply Array.ext_getElem?
  intro i
  simp only [madeCells, Value.cells, Array.getElem?_map]
  by_cases h : i < n
  · simp [h, Nat.mod_one]
  · simp [h]

theorem Ints.src {w : World} {a : Addr} {len cap : Nat} {xs : List Int} (h : Ints w (some a) len cap xs) (o : Obj) :
    ∀ j v, (xs.map (Value.int .i64))[j]? = some v → (w.alloc o).cell? (a.add j) = some v := by
  intro j v hj
  have hlt : j < xs.length := by
    have := (List.getElem?_eq_some_iff.1 hj).1
    simpa using this
  obtain ⟨b, off, h1, h2⟩ := (h.alloc o).hat j (by rw [← h.hlen]; exact hlt)
  simp only [Option.some.injEq] at h1
  subst h1
  rw [add_plain', h2]
  rw [List.getElem?_map] at hj
  simp [List.getElem?_eq_getElem hlt] at hj
  simp [List.getD, List.getElem?_eq_getElem hlt, hj]

/-- Block g is a row of these cells, none frozen. -/
def Row (w : World) (g : Nat) (A : List Value) (t : TypeId) : Prop := w.heap[g]? = some (.cells A.toArray t (0, 0))

theorem Row.cell {w : World} {g : Nat} {A : List Value} {t : TypeId} (h : Row w g A t) (i : Nat) : w.cell? ⟨g, i, none⟩ = A[i]? := by
  simp only [World.cell?]; rw [h]; simp
theorem Row.frozen {w : World} {g : Nat} {A : List Value} {t : TypeId} (h : Row w g A t) (i : Nat) : w.frozen? ⟨g, i, none⟩ = false := by
  simp only [World.frozen?]; rw [h]; simp
theorem Row.lt {w : World} {g : Nat} {A : List Value} {t : TypeId} (h : Row w g A t) : g < w.heap.size := (Array.getElem?_eq_some_iff.1 h).1
theorem Row.below {w w' : World} {g n : Nat} {A : List Value} {t : TypeId} (h : Row w g A t) (hb : Below n w w') (hg : g < n) : Row w' g A t := by
  unfold Row; rw [hb.block g hg]; exact h
theorem Row.alloc {w : World} {g : Nat} {A : List Value} {t : TypeId} (h : Row w g A t) (o : Obj) : Row (w.alloc o) g A t := by
  unfold Row; rw [Below.heap_alloc w o g h.lt]; exact h

theorem setRow_setRow (w : World) (g : Nat) (A B : Array Value) : (w.setRow g A).setRow g B = w.setRow g B := by
  unfold World.setRow
  congr 1
  apply Array.ext_getElem?
  intro i
  simp only [Array.getElem?_modify]
  by_cases h : g = i
  · subst h
    cases hq : w.heap[g]? with
    | none => simp
    | some o => cases o <;> simp
  · simp [h]

theorem setRow_setCell (w : World) (g : Nat) (A : Array Value) (i : Nat) (v : Value) : (w.setRow g A).setCell ⟨g, i, none⟩ v = w.setRow g (A.setIfInBounds i v) := by
  unfold World.setRow World.setCell
  congr 1
  apply Array.ext_getElem?
  intro j
  simp only [Array.getElem?_modify]
  by_cases h : g = j
  · subst h
    simp only [if_true, Option.map_map]
    congr 1
    funext o
    cases o <;> rfl
  · simp [h]

theorem Row.set {w : World} {g : Nat} {A B : List Value} {t : TypeId} (h : Row w g A t) : Row (w.setRow g B.toArray) g B t := setRow_heap w g _ _ t _ h
theorem Row.setSame {w : World} {g : Nat} {A : List Value} {t : TypeId} (h : Row w g A t) : w.setRow g A.toArray = w := by
  have e : (w.setRow g A.toArray).heap = w.heap := by
    apply Array.ext_getElem?
    intro i
    by_cases hi : i = g
    · subst hi
      rw [h.set]
      exact h.symm
    · exact setRow_other w g i _ hi
  cases w
  simpa [World.setRow] using e
theorem Row.setOther {w : World} {g k : Nat} {A : List Value} {B : Array Value} {t : TypeId} (h : Row w k A t) (hk : k ≠ g) : Row (w.setRow g B) k A t := by
  unfold Row; rw [setRow_other w g k B hk]; exact h

theorem Row.setCell {w : World} {g : Nat} {A : List Value} {t : TypeId} (h : Row w g A t) (i : Nat) (v : Value) : Row (w.setCell ⟨g, i, none⟩ v) g (A.set i v) t := by
  have e := h.setSame
  rw [← e, setRow_setCell]
  have h2 : Row (w.setRow g A.toArray) g A t := h.set
  have := h.set (B := A.set i v)
  simpa using this

theorem Row.setCellOther {w : World} {g k : Nat} {A : List Value} {t : TypeId} (h : Row w k A t) (i : Nat) (v : Value) (hk : k ≠ g) : Row (w.setCell ⟨g, i, none⟩ v) k A t := by
  unfold Row; rw [Below.heap_setCell _ _ _ _ hk]; exact h

theorem own_ne {w : World} {base : Nat} {e t : TypeId} {size : Nat} {v : Value} {n : Nat} {xs : List Value} {g : Nat} {A : List Value} (h : w.ownsRow base e size v n xs) (hr : Row w g A t) (ht : t ≠ e) : v.ownBlock ≠ some g := by
  rcases h.2 with ⟨h1, _⟩ | ⟨g', cap, cur, hv, _, hg, _⟩
  · subst h1; simp [Value.ownBlock]
  · subst hv
    simp only [Value.ownBlock, ne_eq, Option.some.injEq]
    intro e1
    subst e1
    unfold Row at hr
    rw [hr] at hg
    simp only [Option.some.injEq, Obj.cells.injEq] at hg
    exact ht hg.2.1

theorem owns_same {w w' : World} {base : Nat} {e : TypeId} {size : Nat} {v : Value} {n : Nat} {xs : List Value} (h : w.ownsRow base e size v n xs) (hs : ∀ g, v.ownBlock = some g → w'.heap[g]? = w.heap[g]?) : w'.ownsRow base e size v n xs := by
  refine ⟨h.1, ?_⟩
  rcases h.2 with h2 | ⟨g, cap, cur, hv, hg, hh, r⟩
  · exact Or.inl h2
  · refine Or.inr ⟨g, cap, cur, hv, hg, ?_, r⟩
    rw [hs g (by rw [hv]; rfl)]
    exact hh

theorem owns_lt {w : World} {base : Nat} {e : TypeId} {size : Nat} {v : Value} {n : Nat} {xs : List Value} (h : w.ownsRow base e size v n xs) : ∀ g, v.ownBlock = some g → g < w.heap.size ∧ base ≤ g := by
  intro g hg
  rcases h.2 with ⟨h1, _⟩ | ⟨g', cap, cur, hv, hb, hh, _⟩
  · subst h1; simp [Value.ownBlock] at hg
  · subst hv
    simp only [Value.ownBlock, Option.some.injEq] at hg
    subst hg
    exact ⟨(Array.getElem?_eq_some_iff.1 hh).1, hb⟩

/-- Two rows of different kinds are two rows. -/
theorem owns_apart {w : World} {base base' : Nat} {e e' : TypeId} {size size' : Nat} {v v' : Value} {n n' : Nat} {xs xs' : List Value} (h : w.ownsRow base e size v n xs) (h' : w.ownsRow base' e' size' v' n' xs') (ht : e ≠ e') : ∀ g, v.ownBlock = some g → v'.ownBlock ≠ some g := by
  intro g hg
  rcases h.2 with ⟨h1, _⟩ | ⟨g1, cap, cur, hv, hb, hh, _⟩
  · subst h1; simp [Value.ownBlock] at hg
  · subst hv
    simp only [Value.ownBlock, Option.some.injEq] at hg
    subst hg
    have hr : Row w g1 cur.toList e := by unfold Row; simpa using hh
    exact own_ne h' hr ht

theorem row_q {w : World} {g : Nat} {A : List Value} {t : TypeId} (h : Row w g A t) : ∀ o, w.cell? ⟨g, o, none⟩ = A.toArray[o]? := by
  intro o; rw [h.cell]; simp

theorem Row.same {w w' : World} {g : Nat} {A : List Value} {t : TypeId} (h : Row w g A t) (hs : w'.heap[g]? = w.heap[g]?) : Row w' g A t := by
  unfold Row; rw [hs]; exact h

theorem row_type {w : World} {g : Nat} {A B : List Value} {t u : TypeId} (h : Row w g A t) (k : Row w g B u) : t = u := by
  unfold Row at h k
  rw [h] at k
  simp only [Option.some.injEq, Obj.cells.injEq] at k
  exact k.2.1
end Go.Proofs.YtehheaedbnfidaaGreat

namespace Go.Proofs.YtehheaedbnfidaaGreat

def withinB (n lo hi : Int) : Bool := decide (lo ≤ n) && decide (n ≤ hi)
def smallB (n : Int) : Bool := n == 1 || n == 2 || n == 4
def listB (xs : List Int) (most lo hi : Int) : Bool := decide (1 ≤ (xs.length : Int)) && decide ((xs.length : Int) ≤ most) && xs.all (fun x => withinB x lo hi)
def wordsB (c : Cf) : Bool := smallB c.line && withinB c.priv c.line 64 && withinB c.shared 0 32 && (c.priv % c.line == 0) && (c.shared % c.line == 0)
def shapeB (c : Cf) : Bool := withinB c.cores 1 3 && withinB c.domains 1 4 && smallB c.near && smallB c.sets && wordsB c
/-- Each number below n. -/
def allUpto (p : Int → Bool) : Nat → Bool
  | 0 => true
  | n + 1 => allUpto p n && p n
def waysB (c : Cf) : Bool := listB c.ways 8 0 (c.domains - 1) && allUpto (fun d => smallB (c.ways.count d)) c.domains.toNat
def slotsB (c : Cf) : Bool := withinB c.slot 1 4 && listB c.slots 8 0 (c.domains - 1) && allUpto (fun d => !((c.slots.count d : Int) == 0)) c.domains.toNat
def turnsB (c : Cf) : Bool := ((c.turns.length : Int) == c.cores) && c.turns.all (fun l => listB l 4 (-1) (c.domains - 1))
def worstZ (c : Cf) : Int := 3 * c.cores * c.slots.length * c.slot
def quantumB (c : Cf) : Bool := withinB c.flush c.near 16 && withinB c.quantum (worstZ c + c.flush + 1) 2000
def chk (c : Cf) : Int := if shapeB c = false then 1 else if waysB c = false then 2 else if slotsB c = false then 3 else if turnsB c = false then 4 else if quantumB c = false then 5 else 0

theorem count_le (x : Int) (xs : List Int) (k : Nat) : (xs.take k).count x ≤ k := by
  have := List.count_le_length (a := x) (l := xs.take k)
  have h2 := List.length_take_le k xs
  omega

theorem count_snoc (x : Int) (xs : List Int) (k : Nat) (h : k < xs.length) : (xs.take (k + 1)).count x = (xs.take k).count x + if (xs.getD k 0 == x) = true then 1 else 0 := by
  rw [List.take_succ_eq_append_getElem h, List.count_append]
  simp [List.getD, h, List.count_cons]

theorem all_snoc {α : Type} (p : α → Bool) (xs : List α) (d : α) (k : Nat) (h : k < xs.length) : (xs.take (k + 1)).all p = ((xs.take k).all p && p (xs.getD k d)) := by
  rw [List.take_succ_eq_append_getElem h, List.all_append]
  simp [List.getD, h]

theorem all_false_of {α : Type} (p : α → Bool) (xs : List α) (d : α) (k : Nat) (h : k < xs.length) (hp : p (xs.getD k d) = false) : xs.all p = false := by
  rw [List.all_eq_false]
  refine ⟨xs[k], List.getElem_mem h, ?_⟩
  simp [List.getD, h] at hp
  simp [hp]

theorem allUpto_false (p : Int → Bool) (k : Nat) (hp : p k = false) : ∀ n, k < n → allUpto p n = false
  | n + 1, h => by
    by_cases e : k = n
    · subst e; simp [allUpto, hp]
    · simp [allUpto, allUpto_false p k hp n (by omega)]

theorem within_iff (n lo hi : Int) : withinB n lo hi = true ↔ lo ≤ n ∧ n ≤ hi := by simp [withinB]
theorem within_not (n lo hi : Int) : withinB n lo hi = false ↔ n < lo ∨ hi < n := by
  simp [withinB]
  by_cases h : lo ≤ n <;> by_cases h2 : n ≤ hi <;> simp [h] <;> omega
theorem small_iff (n : Int) : smallB n = true ↔ n = 1 ∨ n = 2 ∨ n = 4 := by simp [smallB, or_assoc]
theorem small_not (n : Int) : smallB n = false ↔ n ≠ 1 ∧ n ≠ 2 ∧ n ≠ 4 := by simp [smallB, and_assoc]

theorem shape_bounds {c : Cf} (h : shapeB c = true) : 1 ≤ c.cores ∧ c.cores ≤ 3 ∧ 1 ≤ c.domains ∧ c.domains ≤ 4 ∧ (c.near = 1 ∨ c.near = 2 ∨ c.near = 4) ∧ (c.sets = 1 ∨ c.sets = 2 ∨ c.sets = 4) ∧ (c.line = 1 ∨ c.line = 2 ∨ c.line = 4) ∧ c.line ≤ c.priv ∧ c.priv ≤ 64 ∧ 0 ≤ c.shared ∧ c.shared ≤ 32 := by
  simp only [shapeB, wordsB, Bool.and_eq_true, within_iff, small_iff] at h
  omega

theorem slots_bounds {c : Cf} (h : slotsB c = true) : 1 ≤ c.slot ∧ c.slot ≤ 4 ∧ 1 ≤ c.slots.length ∧ c.slots.length ≤ 8 := by
  simp only [slotsB, listB, Bool.and_eq_true, within_iff, decide_eq_true_eq] at h
  omega


theorem worst_bd {c : Cf} (h1 : 1 ≤ c.cores) (h2 : c.cores ≤ 3) (h3 : 1 ≤ c.slot) (h4 : c.slot ≤ 4) (h5 : c.slots.length ≤ 8) : 0 ≤ worstZ c ∧ worstZ c ≤ 288 := by
  unfold worstZ
  have b1 : (3 * c.cores) * (c.slots.length : Int) ≤ 9 * 8 := Int.mul_le_mul (by omega) (by omega) (by omega) (by omega)
  have b2 : 0 ≤ (3 * c.cores) * (c.slots.length : Int) := Int.mul_nonneg (by omega) (by omega)
  have b4 : (3 * c.cores) * (c.slots.length : Int) * c.slot ≤ (9 * 8) * 4 := Int.mul_le_mul b1 h4 (by omega) (by omega)
  have b5 : 0 ≤ (3 * c.cores) * (c.slots.length : Int) * c.slot := Int.mul_nonneg b2 (by omega)
  omega
end Go.Proofs.YtehheaedbnfidaaGreat

namespace Go.Proofs.YtehheaedbnfidaaGreat
open Go.RowKit

theorem chk_zero {c : Cf} (h : chk c = 0) : shapeB c = true ∧ waysB c = true ∧ slotsB c = true ∧ turnsB c = true ∧ quantumB c = true := by
  unfold chk at h
  cases h1 : shapeB c <;> cases h2 : waysB c <;> cases h3 : slotsB c <;> cases h4 : turnsB c <;> cases h5 : quantumB c <;> simp_all

/-- The bounds of a right configuration. -/
structure Right (c : Cf) : Prop where
  c1 : 1 ≤ c.cores
  c2 : c.cores ≤ 3
  d1 : 1 ≤ c.domains
  d2 : c.domains ≤ 4
  s1 : 1 ≤ c.slot
  s2 : c.slot ≤ 4
  t1 : 1 ≤ c.slots.length
  t2 : c.slots.length ≤ 8
  w0 : 0 ≤ worstZ c
  w1 : worstZ c ≤ 288
  f1 : 1 ≤ c.flush
  f2 : c.flush ≤ 16
  q1 : worstZ c + c.flush + 1 ≤ c.quantum
  q2 : c.quantum ≤ 2000
  tl : (c.turns.length : Int) = c.cores
  each : ∀ l ∈ c.turns, listB l 4 (-1) (c.domains - 1) = true

theorem right_of {c : Cf} (h : chk c = 0) : Right c := by
  obtain ⟨h1, h2, h3, h4, h5⟩ := chk_zero h
  obtain ⟨d1, d2, d3, d4, d5, _⟩ := shape_bounds h1
  obtain ⟨e1, e2, e3, e4⟩ := slots_bounds h3
  obtain ⟨g1, g2⟩ := worst_bd d1 d2 e1 e2 e4
  simp only [quantumB, Bool.and_eq_true, within_iff] at h5
  simp only [turnsB, Bool.and_eq_true, beq_iff_eq, List.all_eq_true] at h4
  exact ⟨d1, d2, d3, d4, e1, e2, e3, e4, g1, g2, by omega, by omega, h5.2.1, h5.2.2, h4.1, h4.2⟩

theorem ret_two {j k : IntKind} {a b c d : Int} (h : a = b) (g : c = d) : Ending.returned (.tuple #[.int j a, .int k c]) = .returned (.tuple #[.int j b, .int k d]) := by rw [h, g]

theorem ret_three {j k : IntKind} {a b c d : Int} {x y : Bool} (h : a = b) (hx : x = y) (g : c = d) : Ending.returned (.tuple #[.int j a, .bool x, .int k c]) = .returned (.tuple #[.int j b, .bool y, .int k d]) := by rw [h, hx, g]

theorem grid_row {c : Cf} (R : Right c) {i : Nat} (h : i < c.turns.length) : (c.turns.getD i []).length ≤ 4 ∧ 1 ≤ (c.turns.getD i []).length := by
  have e : c.turns.getD i [] = c.turns[i] := by simp [List.getD, h]
  have := R.each _ (List.getElem_mem h)
  rw [← e] at this
  simp only [listB, Bool.and_eq_true, decide_eq_true_eq] at this
  omega

/-- The table's place of a cycle. -/
theorem mod_nat {a : Int} {n : Nat} (hn : 0 < n) : ∃ j : Nat, a % (n : Int) = (j : Int) ∧ j < n := by
  have h1 := Int.emod_nonneg a (show (n : Int) ≠ 0 by omega)
  have h2 := Int.emod_lt_of_pos a (show (0 : Int) < (n : Int) by omega)
  obtain ⟨j, hj⟩ := Int.eq_ofNat_of_zero_le h1
  exact ⟨j, hj, by omega⟩
end Go.Proofs.YtehheaedbnfidaaGreat

namespace Go.Proofs.YtehheaedbnfidaaGreat
open Go.RowKit

/-- Of what was there just the blocks of F may have turned. -/
structure Touch (F : Nat → Prop) (w w' : World) : Prop where
  os : w'.os = w.os
  tape : w'.tape = w.tape
  output : w'.output = w.output
  size : w.heap.size ≤ w'.heap.size
  block : ∀ b, b < w.heap.size → ¬ F b → w'.heap[b]? = w.heap[b]?

theorem Touch.refl (F : Nat → Prop) (w : World) : Touch F w w := ⟨rfl, rfl, rfl, Nat.le_refl _, fun _ _ _ => rfl⟩
theorem Touch.trans {F : Nat → Prop} {a b c : World} (h : Touch F a b) (k : Touch F b c) : Touch F a c :=
  ⟨k.os.trans h.os, k.tape.trans h.tape, k.output.trans h.output, Nat.le_trans h.size k.size, fun i hi hf => (k.block i (Nat.lt_of_lt_of_le hi h.size) hf).trans (h.block i hi hf)⟩
theorem Touch.mono {F G : Nat → Prop} {a b : World} (h : Touch F a b) (hg : ∀ x, F x → G x) : Touch G a b := ⟨h.os, h.tape, h.output, h.size, fun i hi hf => h.block i hi (fun hx => hf (hg i hx))⟩
theorem Touch.setCell {F : Nat → Prop} (w : World) (g i : Nat) (v : Value) (hg : F g) : Touch F w (w.setCell ⟨g, i, none⟩ v) :=
  ⟨rfl, rfl, rfl, by simp [World.setCell], fun b _ hf => Below.heap_setCell _ _ _ _ (fun e => by subst e; exact hf hg)⟩
theorem Touch.of_below {F : Nat → Prop} {w w' : World} {n : Nat} (h : Below n w w') (hn : w.heap.size ≤ n) : Touch F w w' := ⟨h.os, h.tape, h.output, h.size, fun b hb _ => h.block b (by omega)⟩
theorem Touch.below {F : Nat → Prop} {w w' : World} (h : Touch F w w') (B : Nat) (hB : B ≤ w.heap.size) (hF : ∀ x, F x → B ≤ x) : Below B w w' :=
  ⟨h.os, h.tape, h.output, h.size, fun b hb => h.block b (by omega) (fun hx => by have := hF b hx; omega)⟩
theorem Touch.drewN {F : Nat → Prop} {a w : World} (h : Touch F a w) (n : Nat) : Touch F a (w.drewN n) := ⟨h.os, h.tape, h.output, h.size, h.block⟩


theorem below_grown {n : Nat} {w w1 w2 : World} {row : Option Nat} (h : Below n w w1) (hn : n ≤ w1.heap.size) (hg : w1.grownBy w2 row) (hr : ∀ g, row = some g → n ≤ g) : Below n w w2 :=
  h.trans ⟨hg.os, hg.tape, hg.output, hg.size, fun k hk => hg.block k (by omega) (fun e => by have := hr k e.symm; omega)⟩

/-- The first n cells of the block g are those of f. -/
def Cells (w : World) (g n : Nat) (t : TypeId) (f : Nat → Value) : Prop := ∃ cur : List Value, Row w g cur t ∧ ∀ i, i < n → cur[i]? = some (f i)

theorem Cells.cell {w : World} {g n : Nat} {t : TypeId} {f : Nat → Value} (h : Cells w g n t f) {i : Nat} (hi : i < n) : w.cell? ⟨g, i, none⟩ = some (f i) := by
  obtain ⟨cur, h1, h2⟩ := h
  rw [h1.cell, h2 i hi]
theorem Cells.frozen {w : World} {g n : Nat} {t : TypeId} {f : Nat → Value} (h : Cells w g n t f) (i : Nat) : w.frozen? ⟨g, i, none⟩ = false := by
  obtain ⟨cur, h1, h2⟩ := h
  exact h1.frozen i
theorem Cells.lt {w : World} {g n : Nat} {t : TypeId} {f : Nat → Value} (h : Cells w g n t f) : g < w.heap.size := by
  obtain ⟨cur, h1, h2⟩ := h
  exact h1.lt
theorem Cells.same {w w' : World} {g n : Nat} {t : TypeId} {f : Nat → Value} (h : Cells w g n t f) (hs : w'.heap[g]? = w.heap[g]?) : Cells w' g n t f := by
  obtain ⟨cur, h1, h2⟩ := h
  exact ⟨cur, h1.same hs, h2⟩
theorem Cells.congr {w : World} {g n : Nat} {t : TypeId} {f f' : Nat → Value} (h : Cells w g n t f) (hf : ∀ i, i < n → f i = f' i) : Cells w g n t f' := by
  obtain ⟨cur, h1, h2⟩ := h
  exact ⟨cur, h1, fun i hi => by rw [h2 i hi, hf i hi]⟩
theorem Cells.set {w : World} {g n : Nat} {t : TypeId} {f : Nat → Value} (h : Cells w g n t f) (i : Nat) (v : Value) : Cells (w.setCell ⟨g, i, none⟩ v) g n t (fun j => if j = i then v else f j) := by
  obtain ⟨cur, h1, h2⟩ := h
  refine ⟨cur.set i v, h1.setCell i v, fun j hj => ?_⟩
  by_cases e : j = i
  · subst e
    have : j < cur.length := by
      rcases Nat.lt_or_ge j cur.length with k | k
      · exact k
      · have := h2 j hj
        rw [List.getElem?_eq_none k] at this
        simp at this
    simp [this]
  · rw [List.getElem?_set_ne (Ne.symm e), h2 j hj]
    simp [e]
theorem Cells.setOther {w : World} {g k n : Nat} {t : TypeId} {f : Nat → Value} (h : Cells w g n t f) (i : Nat) (v : Value) (hk : g ≠ k) : Cells (w.setCell ⟨k, i, none⟩ v) g n t f := by
  obtain ⟨cur, h1, h2⟩ := h
  exact ⟨cur, h1.setCellOther i v hk, h2⟩
theorem Cells.touch {w w' : World} {g n : Nat} {t : TypeId} {f : Nat → Value} {F : Nat → Prop} (h : Cells w g n t f) (ht : Touch F w w') (hf : ¬ F g) : Cells w' g n t f := h.same (ht.block g h.lt hf)
theorem Cells.below {w w' : World} {g n m : Nat} {t : TypeId} {f : Nat → Value} (h : Cells w g n t f) (hb : Below m w w') (hm : w.heap.size ≤ m) : Cells w' g n t f := h.same (hb.block g (Nat.lt_of_lt_of_le h.lt hm))
theorem Cells.type {w : World} {g n m : Nat} {t t' : TypeId} {f f' : Nat → Value} (h : Cells w g n t f) (k : Cells w g m t' f') : t = t' := by
  obtain ⟨cur, h1, _⟩ := h
  obtain ⟨cur', k1, _⟩ := k
  exact row_type h1 k1
end Go.Proofs.YtehheaedbnfidaaGreat

namespace Go.Proofs.YtehheaedbnfidaaGreat

/-- How many operations a turn has room for, where a turn has D open cycles and an operation takes at most S. -/
def perTurn (D S : Int) : Int := 1 + (D - 1) / S
def roundsZ (k g : Int) : Int := (k + g - 1) / g

theorem div_is {a b q : Int} (hb : 0 < b) (h1 : q * b ≤ a) (h2 : a < q * b + b) : a / b = q := by
  have e : a = (a - q * b) + q * b := by omega
  rw [e, Int.add_mul_ediv_right _ _ (by omega), Int.ediv_eq_zero_of_lt (by omega) (by omega)]
  omega

theorem perTurn_bd {D S : Int} (h1 : 1 ≤ D) (h2 : 1 ≤ S) : 1 ≤ perTurn D S ∧ perTurn D S ≤ D := by
  unfold perTurn
  have a : 0 ≤ (D - 1) / S := Int.ediv_nonneg (by omega) (by omega)
  have b : (D - 1) / S ≤ D - 1 := Int.ediv_le_self _ (by omega)
  omega

theorem perTurn_eq {D S : Int} {j : Nat} (hS : 1 ≤ S) (h1 : D ≤ j * S) (h2 : j = 0 ∨ (((j - 1 : Nat) : Int) * S < D)) (hD : 1 ≤ D) : (j : Int) = perTurn D S := by
  have hj : j ≠ 0 := by
    intro e
    subst e
    simp at h1
    omega
  have h3 : ((j - 1 : Nat) : Int) * S < D := by
    rcases h2 with h2 | h2
    · exact absurd h2 hj
    · exact h2
  have e : ((j - 1 : Nat) : Int) = (j : Int) - 1 := by omega
  rw [e] at h3
  have e2 : ((j : Int) - 1) * S = (j : Int) * S - S := by rw [Int.sub_mul]; omega
  unfold perTurn
  have : (D - 1) / S = (j : Int) - 1 := div_is (by omega) (by omega) (by omega)
  omega

theorem rounds_eq {k g : Int} {r : Nat} (hg : 1 ≤ g) (hk : 0 ≤ k) (h1 : k ≤ r * g) (h2 : r = 0 ∨ (((r - 1 : Nat) : Int) * g < k)) : (r : Int) = roundsZ k g := by
  unfold roundsZ
  symm
  rcases h2 with h2 | h2
  · subst h2
    simp at h1
    have : k = 0 := by omega
    subst this
    exact div_is (by omega) (by simp; omega) (by simp; omega)
  · have hr : r ≠ 0 := by
      intro e
      subst e
      simp at h1 h2
      omega
    have e : ((r - 1 : Nat) : Int) = (r : Int) - 1 := by omega
    rw [e] at h2
    have e2 : ((r : Int) - 1) * g = (r : Int) * g - g := by rw [Int.sub_mul]; omega
    exact div_is (by omega) (by omega) (by omega)

theorem rounds_bd {k g : Int} (h1 : 0 ≤ k) (h2 : 1 ≤ g) : 0 ≤ roundsZ k g ∧ roundsZ k g ≤ k := by
  unfold roundsZ
  refine ⟨Int.ediv_nonneg (by omega) (by omega), ?_⟩
  have h3 : (k + g - 1) / g * g ≤ k + g - 1 := Int.ediv_mul_le _ (by omega)
  by_cases hk : (k + g - 1) / g ≤ k
  · exact hk
  · exfalso
    have h4 : k + 1 ≤ (k + g - 1) / g := by omega
    have h5 : (k + 1) * g ≤ (k + g - 1) / g * g := Int.mul_le_mul_of_nonneg_right h4 (by omega)
    have h6 : (k + 1) * g = k * g + g := by rw [Int.add_mul]; omega
    have h7 : k * 1 ≤ k * g := Int.mul_le_mul_of_nonneg_left h2 h1
    omega

theorem step_bd {D S : Int} {j : Nat} (hS : 1 ≤ S) (hD : 1 ≤ D) (h2 : j = 0 ∨ (((j - 1 : Nat) : Int) * S < D)) : (j : Int) ≤ D ∧ (j : Int) * S < D + S ∧ 0 ≤ (j : Int) * S := by
  have h0 : 0 ≤ (j : Int) * S := Int.mul_nonneg (by omega) (by omega)
  rcases h2 with h2 | h2
  · subst h2; simp; omega
  · by_cases hj : j = 0
    · subst hj; simp; omega
    · have e : ((j - 1 : Nat) : Int) = (j : Int) - 1 := by omega
      rw [e] at h2
      have e2 : ((j : Int) - 1) * S = (j : Int) * S - S := by rw [Int.sub_mul]; omega
      have h3 : ((j : Int) - 1) * 1 ≤ ((j : Int) - 1) * S := Int.mul_le_mul_of_nonneg_left hS (by omega)
      omega

def enoughOk (c : Cf) (core d k : Int) : Bool := decide (0 ≤ core ∧ core < c.cores ∧ 0 ≤ d ∧ d < c.domains ∧ 0 ≤ k ∧ k ≤ 64) && !(((c.turns.getD core.toNat []).count d : Int) == 0)
def enoughE (c : Cf) (core d k : Int) : Int := if chk c = 0 then (if enoughOk c core d k = true then 0 else 6) else chk c
def gZ (c : Cf) : Int := perTurn (c.quantum - c.flush - worstZ c) (worstZ c + 1)
def enoughN (c : Cf) (core d k : Int) : Int := if chk c = 0 ∧ enoughOk c core d k = true then roundsZ k (gZ c) * ((c.turns.getD core.toNat []).length : Int) * c.quantum else 0

theorem enough_bad {c : Cf} {core d k : Int} (h : chk c ≠ 0) : enoughE c core d k = chk c ∧ enoughN c core d k = 0 := by
  simp [enoughE, enoughN, h]
theorem enough_no {c : Cf} {core d k : Int} (h : chk c = 0) (h2 : enoughOk c core d k = false) : enoughE c core d k = 6 ∧ enoughN c core d k = 0 := by
  simp [enoughE, enoughN, h, h2]
theorem enough_yes {c : Cf} {core d k : Int} (h : chk c = 0) (h2 : enoughOk c core d k = true) : enoughE c core d k = 0 ∧ enoughN c core d k = roundsZ k (gZ c) * ((c.turns.getD core.toNat []).length : Int) * c.quantum := by
  simp [enoughE, enoughN, h, h2]
theorem ok_not {c : Cf} {core d k : Int} (h : ¬ (0 ≤ core ∧ core < c.cores ∧ 0 ≤ d ∧ d < c.domains ∧ 0 ≤ k ∧ k ≤ 64)) : enoughOk c core d k = false := by
  unfold enoughOk
  rw [decide_eq_false h]
  rfl
theorem ok_none {c : Cf} {core d k : Int} (h : (((c.turns.getD core.toNat []).count d : Int) == 0) = true) : enoughOk c core d k = false := by
  unfold enoughOk
  rw [h]
  simp
theorem ok_yes {c : Cf} {core d k : Int} (h : 0 ≤ core ∧ core < c.cores ∧ 0 ≤ d ∧ d < c.domains ∧ 0 ≤ k ∧ k ≤ 64) (h2 : (((c.turns.getD core.toNat []).count d : Int) == 0) = false) : enoughOk c core d k = true := by
  unfold enoughOk
  rw [decide_eq_true h, h2]
  rfl

end Go.Proofs.YtehheaedbnfidaaGreat

namespace Go.Proofs.YtehheaedbnfidaaGreat

def rowOf (c : Cf) (i : Nat) : List Int := c.turns.getD i []
def turnZ (c : Cf) (i : Nat) (t : Int) : Int := (rowOf c i).getD (t / c.quantum % ((rowOf c i).length : Int)).toNat 0
def openB (c : Cf) (i : Nat) (d t : Int) : Bool := (turnZ c i t == d) && decide (0 ≤ d) && decide (t % c.quantum < c.quantum - c.flush - worstZ c)
def servesB (c : Cf) (d t : Int) : Bool := (t % c.slot == c.slot - 1) && (c.slots.getD (t / c.slot % (c.slots.length : Int)).toNat 0 == d)
/-- The first from u on, of n, that p holds of; behind them, if there is none. -/
def firstF (p : Int → Bool) : Nat → Int → Int
  | 0, u => u
  | n + 1, u => if p u = true then u else firstF p n (u + 1)
def waitZ (c : Cf) (d t : Int) : Int := firstF (servesB c d) ((c.slots.length : Int) * c.slot).toNat t

def turnOk (c : Cf) (core t : Int) : Bool := decide (0 ≤ core ∧ core < c.cores ∧ 0 ≤ t ∧ t ≤ 10000)
def waitOk (c : Cf) (d t : Int) : Bool := decide (0 ≤ d ∧ d < c.domains ∧ 0 ≤ t ∧ t ≤ 10000)
def turnE (c : Cf) (core t : Int) : Int := if chk c = 0 then (if turnOk c core t = true then 0 else 6) else chk c
def turnD (c : Cf) (core t : Int) : Int := if chk c = 0 ∧ turnOk c core t = true then turnZ c core.toNat t else 0
def turnO (c : Cf) (core t : Int) : Bool := if chk c = 0 ∧ turnOk c core t = true then openB c core.toNat (turnZ c core.toNat t) t else false
def waitE (c : Cf) (d t : Int) : Int := if chk c = 0 then (if waitOk c d t = true then 0 else 6) else chk c
def waitN (c : Cf) (d t : Int) : Int := if chk c = 0 ∧ waitOk c d t = true then waitZ c d t else 0

theorem turn_bad {c : Cf} {core t : Int} (h : chk c ≠ 0) : turnE c core t = chk c ∧ turnD c core t = 0 ∧ turnO c core t = false := by simp [turnE, turnD, turnO, h]
theorem turn_no {c : Cf} {core t : Int} (h : chk c = 0) (h2 : turnOk c core t = false) : turnE c core t = 6 ∧ turnD c core t = 0 ∧ turnO c core t = false := by simp [turnE, turnD, turnO, h, h2]
theorem turn_yes {c : Cf} {core t : Int} (h : chk c = 0) (h2 : turnOk c core t = true) : turnE c core t = 0 ∧ turnD c core t = turnZ c core.toNat t ∧ turnO c core t = openB c core.toNat (turnZ c core.toNat t) t := by simp [turnE, turnD, turnO, h, h2]
theorem wait_bad {c : Cf} {d t : Int} (h : chk c ≠ 0) : waitE c d t = chk c ∧ waitN c d t = 0 := by simp [waitE, waitN, h]
theorem wait_no {c : Cf} {d t : Int} (h : chk c = 0) (h2 : waitOk c d t = false) : waitE c d t = 6 ∧ waitN c d t = 0 := by simp [waitE, waitN, h, h2]
theorem wait_yes {c : Cf} {d t : Int} (h : chk c = 0) (h2 : waitOk c d t = true) : waitE c d t = 0 ∧ waitN c d t = waitZ c d t := by simp [waitE, waitN, h, h2]

/-- What stands last in l among the numbers from lo to hi - 1; -1: none. -/
def latestZ (l : List Int) (lo hi : Int) : Int := ((l.reverse.find? fun x => decide (lo ≤ x) && decide (x < hi)).getD (-1))
/-- The one of the ways lo to lo + 2 m - 1 that was touched last lies in the lower half. -/
def lowHit (l : List Int) (lo m : Int) : Bool := decide (0 ≤ latestZ l lo (lo + (m + m))) && decide (latestZ l lo (lo + (m + m)) < lo + m)
def victimZ (n : Int) (l : List Int) : Int :=
  if n = 2 then (if lowHit l 0 1 = true then 1 else 0)
  else if n = 4 then (if lowHit l 0 2 = true then (if lowHit l 2 1 = true then 3 else 2) else (if lowHit l 0 1 = true then 1 else 0))
  else 0
def victimOk (n : Int) (l : List Int) : Bool := smallB n && l.all (fun x => withinB x 0 (n - 1))
def victimE (n : Int) (l : List Int) : Int := if victimOk n l = true then 0 else 6
def victimN (n : Int) (l : List Int) : Int := if victimOk n l = true then victimZ n l else 0

/-- Below k nothing is looked at yet: what was found stands behind. -/
theorem latest_hit {l : List Int} {lo hi : Int} {k : Nat} (hk : k < l.length) (hx : lo ≤ l.getD k 0 ∧ l.getD k 0 < hi) (hn : ∀ x ∈ l.drop (k + 1), ¬ (lo ≤ x ∧ x < hi)) : latestZ l lo hi = l.getD k 0 := by
  have e : l = l.take k ++ (l[k] :: l.drop (k + 1)) := by
    rw [← List.drop_eq_getElem_cons hk, List.take_append_drop]
  have ek : l.getD k 0 = l[k] := by simp [List.getD, hk]
  rw [ek] at hx
  unfold latestZ
  rw [ek]
  conv => lhs; rw [e]
  rw [List.reverse_append, List.reverse_cons, List.append_assoc, List.find?_append]
  have h1 : (l.drop (k + 1)).reverse.find? (fun x => decide (lo ≤ x) && decide (x < hi)) = none := by
    rw [List.find?_eq_none]
    intro x hx'
    have := hn x (List.mem_reverse.1 hx')
    simpa using this
  rw [h1]
  simp [hx]

theorem latest_none {l : List Int} {lo hi : Int} (hn : ∀ x ∈ l, ¬ (lo ≤ x ∧ x < hi)) : latestZ l lo hi = -1 := by
  unfold latestZ
  have h1 : l.reverse.find? (fun x => decide (lo ≤ x) && decide (x < hi)) = none := by
    rw [List.find?_eq_none]
    intro x hx'
    have := hn x (List.mem_reverse.1 hx')
    simpa using this
  rw [h1]; rfl

theorem latest_bd (l : List Int) (lo hi : Int) (h0 : 0 ≤ lo) (h1 : lo ≤ hi) : -1 ≤ latestZ l lo hi ∧ latestZ l lo hi ≤ hi := by
  unfold latestZ
  cases h : l.reverse.find? (fun x => decide (lo ≤ x) && decide (x < hi)) with
  | none => simp; omega
  | some x =>
    have := List.find?_some h
    simp at this
    simp
    omega

theorem firstF_hit {p : Int → Bool} {u : Int} (h : p u = true) : ∀ n, 0 < n → firstF p n u = u
  | n + 1, _ => by simp [firstF, h]
theorem firstF_miss {p : Int → Bool} {u : Int} (h : p u = false) (n : Nat) : firstF p (n + 1) u = firstF p n (u + 1) := by simp [firstF, h]

end Go.Proofs.YtehheaedbnfidaaGreat

namespace Go.Proofs.YtehheaedbnfidaaGreat
open Go.RowKit

/-- The contract of Victim. -/
def VictimC : Prop := ∀ (n : Int) (sa : Option Addr) (len cap : Nat) (xs : List Int) (w : World), Ints w sa len cap xs →
    Calls Tryz.prog 26 #[.int .i64 n, .slice sa len cap] w fun e w' => e = .returned (.tuple #[.int .i64 (victimN n xs), .int .i64 (victimE n xs)]) ∧ Below w.heap.size w w'
end Go.Proofs.YtehheaedbnfidaaGreat

namespace Go.Proofs.YtehheaedbnfidaaGreat

/-- How many of the n from u on p holds of. -/
def cntF (p : Int → Bool) : Nat → Int → Nat
  | 0, _ => 0
  | n + 1, u => (if p u = true then 1 else 0) + cntF p n (u + 1)

theorem cntF_snoc (p : Int → Bool) : ∀ (n : Nat) (u : Int), cntF p (n + 1) u = cntF p n u + (if p (u + n) = true then 1 else 0)
  | 0, u => by simp [cntF]
  | n + 1, u => by
    rw [cntF, cntF_snoc p n (u + 1), cntF]
    rw [show u + 1 + (n : Int) = u + ((n + 1 : Nat) : Int) by omega]
    omega

theorem cntF_add (p : Int → Bool) : ∀ (n m : Nat) (u : Int), cntF p (n + m) u = cntF p n u + cntF p m (u + n)
  | 0, m, u => by simp [cntF]
  | n + 1, m, u => by
    rw [show n + 1 + m = (n + m) + 1 by omega, cntF, cntF_add p n m (u + 1), cntF]
    rw [show u + 1 + (n : Int) = u + ((n + 1 : Nat) : Int) by omega]
    omega

theorem cntF_shift {p : Int → Bool} {L : Nat} (hp : ∀ u, p (u + L) = p u) (u : Int) : cntF p L (u + 1) = cntF p L u := by
  have h1 : cntF p (L + 1) u = (if p u = true then 1 else 0) + cntF p L (u + 1) := rfl
  have h2 := cntF_snoc p L u
  rw [hp u] at h2
  omega

theorem cntF_shiftN {p : Int → Bool} {L : Nat} (hp : ∀ u, p (u + L) = p u) : ∀ (n : Nat), cntF p L (n : Int) = cntF p L 0
  | 0 => rfl
  | n + 1 => by
    rw [show ((n + 1 : Nat) : Int) = (n : Int) + 1 by omega, cntF_shift hp, cntF_shiftN hp n]

/-- One slot: just its last cycle counts. -/
theorem cntF_slot {p : Int → Bool} {q : Nat → Bool} {s : Nat} (hs : 0 < s) (k : Nat) (hp : ∀ i : Nat, i < s → p ((k * s + i : Nat) : Int) = (decide (i = s - 1) && q k)) : cntF p s ((k * s : Nat) : Int) = if q k = true then 1 else 0 := by
  obtain ⟨r, rfl⟩ : ∃ r, s = r + 1 := ⟨s - 1, by omega⟩
  have z : ∀ n : Nat, n ≤ r → cntF p n ((k * (r + 1) : Nat) : Int) = 0 := by
    intro n
    induction n with
    | zero => intro _; rfl
    | succ n ih =>
      intro hn
      rw [cntF_snoc, ih (by omega)]
      have := hp n (by omega)
      rw [show ((k * (r + 1) : Nat) : Int) + (n : Int) = ((k * (r + 1) + n : Nat) : Int) by omega, this, decide_eq_false (by omega)]
      simp
  rw [cntF_snoc, z r (Nat.le_refl _)]
  have := hp r (by omega)
  rw [show ((k * (r + 1) : Nat) : Int) + (r : Int) = ((k * (r + 1) + r : Nat) : Int) by omega, this, decide_eq_true (by omega)]
  simp

theorem cntF_table {p : Int → Bool} {q : Nat → Bool} {s : Nat} (hs : 0 < s) : ∀ (n : Nat), (∀ k i : Nat, k < n → i < s → p ((k * s + i : Nat) : Int) = (decide (i = s - 1) && q k)) → cntF p (n * s) 0 = ((List.range n).filter q).length
  | 0, _ => by simp [cntF]
  | n + 1, hp => by
    rw [show (n + 1) * s = n * s + s by rw [Nat.succ_mul], cntF_add, cntF_table hs n (fun k i hk hi => hp k i (by omega) hi)]
    rw [show (0 : Int) + ((n * s : Nat) : Int) = ((n * s : Nat) : Int) by omega, cntF_slot hs n (fun i hi => hp n i (by omega) hi)]
    rw [List.range_succ, List.filter_append, List.length_append]
    cases hq : q n <;> simp [hq]

theorem count_range (l : List Int) (d : Int) : ((List.range l.length).filter fun k => l.getD k 0 == d).length = l.count d := by
  induction l with
  | nil => rfl
  | cons x xs ih =>
    rw [List.length_cons, List.range_succ_eq_map, List.filter_cons, List.filter_map, List.count_cons]
    have e : ((fun k => (x :: xs).getD k 0 == d) ∘ Nat.succ) = fun k => xs.getD k 0 == d := by
      funext k; simp [List.getD]
    rw [e]
    by_cases h : x = d
    · subst h
      simp only [List.getD] at ih ⊢
      simpa using ih
    · simp only [List.getD] at ih ⊢
      simpa [h] using ih

/-- The first that p holds of, where there is one among the n. -/
theorem firstF_spec {p : Int → Bool} : ∀ (n : Nat) (u : Int), 0 < cntF p n u → u ≤ firstF p n u ∧ firstF p n u < u + n ∧ p (firstF p n u) = true ∧ ∀ v, u ≤ v → v < firstF p n u → p v = false
  | 0, u, h => by simp [cntF] at h
  | n + 1, u, h => by
    unfold firstF
    by_cases hp : p u = true
    · rw [if_pos hp]
      exact ⟨by omega, by omega, hp, fun v h1 h2 => by omega⟩
    · rw [if_neg hp]
      have h' : 0 < cntF p n (u + 1) := by
        rw [cntF, if_neg hp] at h
        omega
      obtain ⟨h1, h2, h3, h4⟩ := firstF_spec n (u + 1) h'
      refine ⟨by omega, by omega, h3, fun v hv1 hv2 => ?_⟩
      by_cases e : v = u
      · subst e; simpa using hp
      · exact h4 v (by omega) hv2

theorem firstF_none {p : Int → Bool} : ∀ (n : Nat) (u : Int), cntF p n u = 0 → firstF p n u = u + n ∧ ∀ v, u ≤ v → v < u + n → p v = false
  | 0, u, _ => ⟨by simp [firstF], fun v h1 h2 => by omega⟩
  | n + 1, u, h => by
    by_cases hp : p u = true
    · rw [cntF, if_pos hp] at h; omega
    · rw [cntF, if_neg hp] at h
      have h' : cntF p n (u + 1) = 0 := by simpa using h
      obtain ⟨h1, h2⟩ := firstF_none n (u + 1) h'
      unfold firstF
      rw [if_neg hp, h1]
      refine ⟨by omega, fun v hv1 hv2 => ?_⟩
      by_cases e : v = u
      · subst e; simpa using hp
      · exact h2 v (by omega) (by omega)

/-- Counting on behind the first. -/
theorem cntF_zero_of {p : Int → Bool} : ∀ (n : Nat) (u : Int), (∀ v, u ≤ v → v < u + n → p v = false) → cntF p n u = 0
  | 0, _, _ => rfl
  | n + 1, u, h => by
    rw [cntF, h u (by omega) (by omega), cntF_zero_of n (u + 1) (fun v h1 h2 => h v (by omega) (by omega))]
    simp

theorem cntF_jump {p : Int → Bool} {n m : Nat} {u : Int} (h0 : ∀ v, u ≤ v → v < u + m → p v = false) (hm : p (u + m) = true) (hmn : m < n) : cntF p n u = 1 + cntF p (n - m - 1) (u + m + 1) := by
  rw [show n = m + (1 + (n - m - 1)) by omega, cntF_add, cntF_zero_of m u h0, cntF_add]
  rw [show m + (1 + (n - m - 1)) - m - 1 = n - m - 1 by omega]
  simp [cntF, hm]

theorem allUpto_true {p : Int → Bool} : ∀ {n : Nat}, allUpto p n = true → ∀ k : Nat, k < n → p k = true
  | n + 1, h, k, hk => by
    simp only [allUpto, Bool.and_eq_true] at h
    by_cases e : k = n
    · subst e; exact h.2
    · exact allUpto_true h.1 k (by omega)

theorem owns_slot {c : Cf} (h : slotsB c = true) {d : Int} (h0 : 0 ≤ d) (h1 : d < c.domains) : 0 < c.slots.count d := by
  simp only [slotsB, Bool.and_eq_true] at h
  obtain ⟨i, rfl⟩ := Int.eq_ofNat_of_zero_le h0
  have := allUpto_true h.2 i (by omega)
  simp only [Bool.not_eq_true', beq_eq_false_iff_ne] at this
  omega

theorem serves_period (c : Cf) (d : Int) (hs : 1 ≤ c.slot) (u : Int) : servesB c d (u + ((c.slots.length * c.slot.toNat : Nat) : Int)) = servesB c d u := by
  have e : ((c.slots.length * c.slot.toNat : Nat) : Int) = (c.slots.length : Int) * c.slot := by
    rw [Int.natCast_mul, Int.toNat_of_nonneg (by omega)]
  have e1 : (u + (c.slots.length : Int) * c.slot) % c.slot = u % c.slot := by rw [Int.add_mul_emod_self_right]
  have e2 : (u + (c.slots.length : Int) * c.slot) / c.slot = u / c.slot + c.slots.length := Int.add_mul_ediv_right _ _ (by omega)
  have e3 : (u / c.slot + (c.slots.length : Int)) % (c.slots.length : Int) = u / c.slot % (c.slots.length : Int) := by rw [Int.add_emod_right]
  unfold servesB
  rw [e, e1, e2, e3]

theorem serves_table (c : Cf) (d : Int) (hs : 1 ≤ c.slot) (k i : Nat) (hk : k < c.slots.length) (hi : i < c.slot.toNat) :
    servesB c d ((k * c.slot.toNat + i : Nat) : Int) = (decide (i = c.slot.toNat - 1) && (c.slots.getD k 0 == d)) := by
  obtain ⟨s, hs'⟩ : ∃ s : Nat, c.slot = (s : Int) := ⟨c.slot.toNat, by omega⟩
  have hs2 : c.slot.toNat = s := by omega
  rw [hs2] at hi ⊢
  have hspos : 0 < s := by omega
  have e1 : ((k * s + i : Nat) : Int) % (s : Int) = (i : Int) := by
    rw [← Int.natCast_emod, Nat.mul_comm, Nat.mul_add_mod, Nat.mod_eq_of_lt hi]
  have e2 : ((k * s + i : Nat) : Int) / (s : Int) = (k : Int) := by
    rw [← Int.natCast_ediv, Nat.mul_comm, Nat.mul_add_div hspos, Nat.div_eq_of_lt hi, Nat.add_zero]
  have e3 : (k : Int) % (c.slots.length : Int) = (k : Int) := Int.emod_eq_of_lt (by omega) (by omega)
  unfold servesB
  rw [hs', e1, e2, e3, Int.toNat_natCast]
  congr 1
  by_cases h : i = s - 1
  · rw [decide_eq_true h]; simp; omega
  · rw [decide_eq_false h]; simp; omega

/-- In one round of the table a domain has as many service cycles as it owns slots. -/
theorem serves_count (c : Cf) (d : Int) (hs : 1 ≤ c.slot) (t : Nat) : cntF (servesB c d) (c.slots.length * c.slot.toNat) (t : Int) = c.slots.count d := by
  rw [cntF_shiftN (serves_period c d hs) t]
  rw [cntF_table (q := fun k => c.slots.getD k 0 == d) (s := c.slot.toNat) (by omega) c.slots.length (fun k i hk hi => serves_table c d hs k i hk hi)]
  exact count_range c.slots d

end Go.Proofs.YtehheaedbnfidaaGreat
