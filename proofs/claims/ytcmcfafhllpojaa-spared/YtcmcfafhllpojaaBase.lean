/-
  Readings of slices of integers and of lists of such slices; the configuration as plain data.
-/
import Derived.WalkKit
import Derived.WalkSpells
import Derived.WalkLawsBesides
import Derived.Deep.Draws
import Derived.WalkSmall
namespace Go.Proofs.Ytcmcfafhllpojaa
open Go.RowKit

theorem ret_int {k : IntKind} {a b : Int} (h : a = b) : Ending.returned (.int k a) = .returned (.int k b) := by rw [h]
theorem ret_bool {a b : Bool} (h : a = b) : Ending.returned (.bool a) = .returned (.bool b) := by rw [h]

/-- A slice value that reads as these integers. -/
structure Ints (w : World) (sa : Option Addr) (len cap : Nat) (xs : List Int) : Prop where
  hlen : xs.length = len
  hle : len ≤ cap
  hmax : cap ≤ maxLen
  hnil : sa = none → cap = 0
  hat : ∀ i, i < len → ∃ b off, sa = some ⟨b, off, none⟩ ∧ w.cell? ⟨b, off + i, none⟩ = some (.int .i64 (xs.getD i 0))

/-- A slice of such slices. -/
structure Grid (w : World) (sa : Option Addr) (len cap : Nat) (xss : List (List Int)) : Prop where
  hlen : xss.length = len
  hle : len ≤ cap
  hmax : cap ≤ maxLen
  hnil : sa = none → cap = 0
  hat : ∀ i, i < len → ∃ b off ia il ic, sa = some ⟨b, off, none⟩ ∧ w.cell? ⟨b, off + i, none⟩ = some (.slice ia il ic) ∧ Ints w ia il ic (xss.getD i [])

theorem cell_lt {w : World} {a : Addr} {v : Value} (h : w.cell? a = some v) : a.block < w.heap.size := by
  unfold World.cell? at h
  by_cases hb : a.block < w.heap.size
  · exact hb
  · rw [Array.getElem?_eq_none (by omega)] at h
    simp at h

theorem Ints.below {w w' : World} {sa : Option Addr} {len cap : Nat} {xs : List Int} {n : Nat} (h : Ints w sa len cap xs) (hb : Below n w w') (hn : w.heap.size ≤ n) : Ints w' sa len cap xs :=
  ⟨h.hlen, h.hle, h.hmax, h.hnil, fun i hi => by
    obtain ⟨b, off, h1, h2⟩ := h.hat i hi
    have := cell_lt h2
    exact ⟨b, off, h1, by rw [hb.cell (p := ⟨b, off + i, none⟩) (by simp at this ⊢; omega)]; exact h2⟩⟩

theorem Ints.alloc {w : World} {sa : Option Addr} {len cap : Nat} {xs : List Int} (h : Ints w sa len cap xs) (o : Obj) : Ints (w.alloc o) sa len cap xs :=
  h.below ((Below.refl w.heap.size w).alloc (Nat.le_refl _) o) (Nat.le_refl _)

theorem Ints.drew {w : World} {sa : Option Addr} {len cap : Nat} {xs : List Int} (h : Ints w sa len cap xs) : Ints w.drew sa len cap xs :=
  h.below ((Below.refl w.heap.size w).drew) (Nat.le_refl _)

theorem Ints.drewN {w : World} {sa : Option Addr} {len cap : Nat} {xs : List Int} (h : Ints w sa len cap xs) (n : Nat) : Ints (w.drewN n) sa len cap xs :=
  ⟨h.hlen, h.hle, h.hmax, h.hnil, h.hat⟩

theorem Grid.below {w w' : World} {sa : Option Addr} {len cap : Nat} {xs : List (List Int)} {n : Nat} (h : Grid w sa len cap xs) (hb : Below n w w') (hn : w.heap.size ≤ n) : Grid w' sa len cap xs :=
  ⟨h.hlen, h.hle, h.hmax, h.hnil, fun i hi => by
    obtain ⟨b, off, ia, il, ic, h1, h2, h3⟩ := h.hat i hi
    have := cell_lt h2
    exact ⟨b, off, ia, il, ic, h1, by rw [hb.cell (p := ⟨b, off + i, none⟩) (by simp at this ⊢; omega)]; exact h2, h3.below hb hn⟩⟩

theorem Grid.alloc {w : World} {sa : Option Addr} {len cap : Nat} {xs : List (List Int)} (h : Grid w sa len cap xs) (o : Obj) : Grid (w.alloc o) sa len cap xs :=
  h.below ((Below.refl w.heap.size w).alloc (Nat.le_refl _) o) (Nat.le_refl _)

theorem Grid.drewN {w : World} {sa : Option Addr} {len cap : Nat} {xs : List (List Int)} (h : Grid w sa len cap xs) (n : Nat) : Grid (w.drewN n) sa len cap xs :=
  ⟨h.hlen, h.hle, h.hmax, h.hnil, fun i hi => by
    obtain ⟨b, off, ia, il, ic, h1, h2, h3⟩ := h.hat i hi
    exact ⟨b, off, ia, il, ic, h1, h2, h3.drewN n⟩⟩

/-- A configuration's data. -/
structure Cf where
  cores : Int
  domains : Int
  line : Int
  priv : Int
  shared : Int
  near : Int
  sets : Int
  ways : List Int
  slot : Int
  slots : List Int
  turns : List (List Int)
  quantum : Int
  flush : Int

/-- The slices of a configuration's value. -/
structure Sl where
  wa : Option Addr
  wl : Nat
  wc : Nat
  sa : Option Addr
  sl : Nat
  sc : Nat
  ta : Option Addr
  tl : Nat
  tc : Nat

abbrev cfgA (c : Cf) (s : Sl) : Array Value := #[.int .i64 c.cores, .int .i64 c.domains, .int .i64 c.line, .int .i64 c.priv, .int .i64 c.shared, .int .i64 c.near, .int .i64 c.sets, .slice s.wa s.wl s.wc, .int .i64 c.slot, .slice s.sa s.sl s.sc, .slice s.ta s.tl s.tc, .int .i64 c.quantum, .int .i64 c.flush]
abbrev cfgL (c : Cf) (s : Sl) : List Value := [.int .i64 c.cores, .int .i64 c.domains, .int .i64 c.line, .int .i64 c.priv, .int .i64 c.shared, .int .i64 c.near, .int .i64 c.sets, .slice s.wa s.wl s.wc, .int .i64 c.slot, .slice s.sa s.sl s.sc, .slice s.ta s.tl s.tc, .int .i64 c.quantum, .int .i64 c.flush]
abbrev cfgV (c : Cf) (s : Sl) : Value := .agg (cfgA c s)

structure CfgAt (w : World) (c : Cf) (s : Sl) : Prop where
  ways : Ints w s.wa s.wl s.wc c.ways
  slots : Ints w s.sa s.sl s.sc c.slots
  turns : Grid w s.ta s.tl s.tc c.turns

theorem CfgAt.below {w w' : World} {c : Cf} {s : Sl} {n : Nat} (h : CfgAt w c s) (hb : Below n w w') (hn : w.heap.size ≤ n) : CfgAt w' c s :=
  ⟨h.ways.below hb hn, h.slots.below hb hn, h.turns.below hb hn⟩
theorem CfgAt.alloc {w : World} {c : Cf} {s : Sl} (h : CfgAt w c s) (o : Obj) : CfgAt (w.alloc o) c s :=
  ⟨h.ways.alloc o, h.slots.alloc o, h.turns.alloc o⟩

theorem bcell {W w1 : World} (hb : Below W.heap.size W w1) : (∀ b o, b < W.heap.size → w1.cell? ⟨b, o, none⟩ = W.cell? ⟨b, o, none⟩) ∧ (∀ b o, b < W.heap.size → w1.frozen? ⟨b, o, none⟩ = W.frozen? ⟨b, o, none⟩) :=
  ⟨fun b o h => hb.cell (p := ⟨b, o, none⟩) h, fun b o h => hb.frozen (p := ⟨b, o, none⟩) h⟩

theorem bcellN {W w1 : World} (n : Nat) (hb : Below W.heap.size W w1) (hn : W.heap.size = n) : (∀ b o, b < n → w1.cell? ⟨b, o, none⟩ = W.cell? ⟨b, o, none⟩) ∧ (∀ b o, b < n → w1.frozen? ⟨b, o, none⟩ = W.frozen? ⟨b, o, none⟩) ∧ n ≤ w1.heap.size := by
  subst hn
  exact ⟨(bcell hb).1, (bcell hb).2, hb.size⟩

theorem below_step {w w1 w2 : World} {n : Nat} (h : Below w.heap.size w w1) (hb : Below n w1 w2) (hn : n = w1.heap.size) : Below w.heap.size w w2 :=
  h.trans (hb.mono (by rw [hn]; exact h.size))

/-- Block b holds the cells A, and nothing below the size that w0 had has turned. -/
structure Kept (w0 w : World) (b : Nat) (A : Array Value) : Prop where
  below : Below w0.heap.size w0 w
  box : ∀ o, w.cell? ⟨b, o, none⟩ = A[o]?
  lt : b < w.heap.size

theorem Kept.start (w : World) (A : Array Value) (t : TypeId) : Kept w (w.alloc (.cells A t)) w.heap.size A :=
  ⟨(Below.refl _ _).alloc (Nat.le_refl _) _, fun o => by simp only [World.cell?]; rw [heap_alloc_new]; simp, by simp⟩

theorem Kept.next {w0 w w' : World} {b n : Nat} {A : Array Value} (h : Kept w0 w b A) (hb : Below n w w') (hn : n = w.heap.size) : Kept w0 w' b A :=
  ⟨below_step h.below hb hn, fun o => by rw [hb.cell (p := ⟨b, o, none⟩) (by rw [hn]; exact h.lt)]; exact h.box o, Nat.lt_of_lt_of_le h.lt hb.size⟩

theorem Kept.drew {w0 w : World} {b : Nat} {A : Array Value} (h : Kept w0 w b A) : Kept w0 w.drew b A := ⟨h.below.drew, h.box, h.lt⟩

theorem CfgAt.drew {w : World} {c : Cf} {s : Sl} (h : CfgAt w c s) : CfgAt w.drew c s :=
  h.below ((Below.refl w.heap.size w).drew) (Nat.le_refl _)

/-- Sizes that can be. -/
structure CfR (c : Cf) : Prop where
  ways : c.ways.length * 8 ≤ 140737488351232
  slots : c.slots.length * 8 ≤ 140737488351232
  turns : c.turns.length * 24 ≤ 140737488351232
  each : ∀ i, i < c.turns.length → (c.turns.getD i []).length * 8 ≤ 140737488351232
theorem add_plain' (b off j : Nat) : Addr.add ⟨b, off, none⟩ j = ⟨b, off + j, none⟩ := by
  unfold Addr.add
  by_cases h : j = 0 <;> simp [h]
end Go.Proofs.Ytcmcfafhllpojaa
