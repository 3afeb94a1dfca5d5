/-
  Owner, Owner2
-/
import Derived.Test.YtehheaedbnfidaaGreatClPackBA
import Derived.Deep.RegionLaw
import Derived.Deep.AppendLies
namespace Go.Proofs.YtehheaedbnfidaaGreat
open Go.RowKit

structure St where
  k : Int
  a : Int
  b : Int
  c : Int
  d : Int

abbrev opA (o : St) : Array Value := #[.int .i64 o.k, .int .i64 o.a, .int .i64 o.b, .int .i64 o.c, .int .i64 o.d]
abbrev opV (o : St) : Value := .agg (opA o)

def opsL (os : List (Int × Int × Int)) : List Value := os.flatMap fun p => [.int .i64 p.1, .int .i64 p.2.1, .int .i64 p.2.2]

/-- The slices of what the caller has. -/
structure Own where
  ca : Option Addr
  cl : Nat
  cc : Nat
  ta : Option Addr
  tl : Nat
  tc : Nat
  oa : Option Addr
  ol : Nat
  oc : Nat

abbrev ownL (o : Own) (m e p b : Value) : List Value := [.slice o.ca o.cl o.cc, .slice o.ta o.tl o.tc, .slice o.oa o.ol o.oc, m, e, p, b]

/-- What a script has made: the caller's own lists; the machines and the lists that came out are m, e, p, b. -/
structure WSt (w : World) (gw base : Nat) (o : Own) (m e p b : Value) (ts : List Int) (os : List (Int × Int × Int)) : Prop where
  row : Row w gw (ownL o m e p b) 34
  hb : base ≤ gw
  tou : w.ownsRow base 3 1 (.slice o.ta o.tl o.tc) ts.length (ts.map (Value.int .i64))
  ops : w.ownsRow base 69 3 (.slice o.oa o.ol o.oc) os.length (opsL os)

theorem Tryz.infoOp : (Tryz.prog.info? 69).map (fun i => (i.zero, i.size, i.bytes)) = some (some (.agg #[.int .i64 0, .int .i64 0, .int .i64 0]), 3, 24) := by kernel_rfl

theorem WSt.below {w w' : World} {gw base n : Nat} {o : Own} {m e p b : Value} {ts : List Int} {os : List (Int × Int × Int)} (h : WSt w gw base o m e p b ts os) (hb : Below n w w') (hn : n = w.heap.size) : WSt w' gw base o m e p b ts os := by
  subst hn
  exact ⟨h.row.below hb h.row.lt, h.hb, owns_same h.tou fun g hg => hb.block g (owns_lt h.tou g hg).1, owns_same h.ops fun g hg => hb.block g (owns_lt h.ops g hg).1⟩

/-- A boxed step is as it was. -/
def KeepO (w w' : World) : Prop := ∀ g A, Row w g A 36 → Row w' g A 36

theorem KeepO.refl (w : World) : KeepO w w := fun _ _ h => h
theorem KeepO.trans {a b c : World} (h : KeepO a b) (k : KeepO b c) : KeepO a c := fun g A hg => k g A (h g A hg)
theorem KeepO.below {w w' : World} {n : Nat} (hb : Below n w w') (hn : n = w.heap.size) : KeepO w w' := fun _ _ h => h.below hb (by rw [hn]; exact h.lt)
theorem KeepO.setCell {w : World} {g : Nat} {B : List Value} {t : TypeId} (h : Row w g B t) (ht : t ≠ 36) (i : Nat) (v : Value) : KeepO w (w.setCell ⟨g, i, none⟩ v) := fun k A hA => by
  refine hA.setCellOther _ _ ?_
  intro e
  subst e
  unfold Row at h hA
  rw [h] at hA
  simp only [Option.some.injEq, Obj.cells.injEq] at hA
  exact ht hA.2.1
theorem KeepO.grown {w w' : World} {base : Nat} {e : TypeId} {size : Nat} {v : Value} {n : Nat} {xs : List Value} (h : w.ownsRow base e size v n xs) (ht : 36 ≠ e) (hg : w.grownBy w' v.ownBlock) : KeepO w w' := fun k A hA => by
  unfold Row
  rw [hg.block k hA.lt (fun he => own_ne h hA ht he.symm)]
  exact hA

theorem WSt.touch {W X w1 : World} {gw base gg cap : Nat} {o : Own} {m e p b : Value} {ts : List Int} {os : List (Int × Int × Int)} {a : Int}
    (h : WSt X gw base o m e p b ts os) (hgrow : X.grownBy w1 (Value.slice o.ta o.tl o.tc).ownBlock) (hbX : Below base W X)
    (hown : w1.ownsRow base 3 1 (.slice (some ⟨gg, 0, none⟩) (ts.length + 1) cap) (ts.length + 1) (ts.map (Value.int .i64) ++ [.int .i64 a])) :
    WSt (w1.setCell ⟨gw, 1, none⟩ (.slice (some ⟨gg, 0, none⟩) (ts.length + 1) cap)) gw base { o with ta := some ⟨gg, 0, none⟩, tl := ts.length + 1, tc := cap } m e p b (ts ++ [a]) os ∧ Below base W (w1.setCell ⟨gw, 1, none⟩ (.slice (some ⟨gg, 0, none⟩) (ts.length + 1) cap)) ∧ KeepO X (w1.setCell ⟨gw, 1, none⟩ (.slice (some ⟨gg, 0, none⟩) (ts.length + 1) cap)) := by
  have ag := own_ne h.tou h.row (by decide)
  have hbg := h.hb
  have lg := h.row.lt
  have r1 : Row w1 gw (ownL o m e p b) 34 := by
    unfold Row
    rw [hgrow.block gw lg (Ne.symm ag)]
    exact h.row
  have ops1 : w1.ownsRow base 69 3 (.slice o.oa o.ol o.oc) os.length (opsL os) :=
    owns_same h.ops fun g hg => hgrow.block g (owns_lt h.ops g hg).1 (fun he => owns_apart h.ops h.tou (by decide) g hg he.symm)
  refine ⟨⟨r1.setCell 1 _, hbg, ?_, ?_⟩, ?_, KeepO.trans (KeepO.grown h.tou (by decide) hgrow) (KeepO.setCell r1 (by decide) _ _)⟩
  · have hs : (ts ++ [a]).length = ts.length + 1 := by simp
    rw [hs, List.map_append]
    refine owns_same hown fun g hg => Below.heap_setCell _ _ _ _ ?_
    intro he
    subst he
    exact own_ne hown r1 (by decide) hg
  · refine owns_same ops1 fun g hg => Below.heap_setCell _ _ _ _ ?_
    intro he
    subst he
    exact own_ne ops1 r1 (by decide) hg
  · refine (hbX.trans ⟨hgrow.os, hgrow.tape, hgrow.output, hgrow.size, fun k hk => hgrow.block k (by omega) ?_⟩).setCell hbg _
    intro he
    have := owns_lt h.tou k he.symm
    omega

set_option maxRecDepth 100000 in
set_option maxHeartbeats 3200000 in
theorem owner_touch (gw base : Nat) (o : Own) (m e p b : Value) (ts : List Int) (os : List (Int × Int × Int)) (st : St) (w : World) (h : WSt w gw base o m e p b ts os) (hk : st.k = 1) (hn : (ts.length + 1) * 8 ≤ 140737488355328) :
    Calls Tryz.prog 11 #[.pointer (some ⟨gw, 0, none⟩), opV st] w fun x w' => x = .returned (.bool true) ∧ ∃ o', o'.ca = o.ca ∧ o'.cl = o.cl ∧ o'.cc = o.cc ∧ WSt w' gw base o' m e p b (ts ++ [st.a]) os ∧ Below base w w' ∧ KeepO w w' := by
  obtain ⟨k, a, bb, cc, dd⟩ := st
  simp only at hk
  subst hk
  obtain ⟨i0, hi0, hz0, hz1, hz2⟩ := info_parts Tryz.infoInt
  have c1 : w.cell? ⟨gw, 1, none⟩ = some (.slice o.ta o.tl o.tc) := by rw [h.row.cell]; rfl
  have f1 : w.frozen? ⟨gw, 1, none⟩ = false := h.row.frozen 1
  have lg := h.row.lt
  have ag := own_ne h.tou h.row (by decide)
  have hown := h.tou
  have hbase : base ≤ w.heap.size := by have := h.hb; omega
  have HN : Hid _ := hn
  clear hn
  go_enter Tryz.func11, Tryz.ntmps11
  go_wp2_with fail
  have rO : Row (w.alloc (.cells (opA ⟨1, a, bb, cc, dd⟩) 36)) w.heap.size [.int .i64 1, .int .i64 a, .int .i64 bb, .int .i64 cc, .int .i64 dd] 36 := heap_alloc_new w _
  have b1 : Below w.heap.size w (w.alloc (.cells (opA ⟨1, a, bb, cc, dd⟩) 36)) := (Below.refl _ _).alloc (Nat.le_refl _) _
  have hown1 := hown.alloc (.cells (opA ⟨1, a, bb, cc, dd⟩) 36)
  have hops1 := h.ops.alloc (.cells (opA ⟨1, a, bb, cc, dd⟩) 36)
  have row1 := h.row.alloc (.cells (opA ⟨1, a, bb, cc, dd⟩) 36)
  have sz1 : (w.alloc (.cells (opA ⟨1, a, bb, cc, dd⟩) 36)).heap.size = w.heap.size + 1 := by simp
  have SZ : Hid _ := sz1
  clear sz1 c1 f1 hown
  generalize w.alloc (.cells (opA ⟨1, a, bb, cc, dd⟩) 36) = W at *
  have c1 : W.cell? ⟨gw, 1, none⟩ = some (.slice o.ta o.tl o.tc) := by rw [row1.cell]; rfl
  have f1 : W.frozen? ⟨gw, 1, none⟩ = false := row1.frozen 1
  have c2 : W.cell? ⟨w.heap.size, 1, none⟩ = some (.int .i64 a) := by rw [rO.cell]; rfl
  have l1 := row1.lt
  have l2 := rO.lt
  have ao := own_ne hown1 rO (by decide)
  have hbW : base ≤ W.heap.size := by have := b1.size; omega
  go_region_law
    ((refine step_append_lies _ (by rfl) _ _ _ (by rfl) base 3 i0 _ 1 8 Tryz.underlying25 hi0 hz0 hz1 hz2 rfl (by omega) (.slice o.ta o.tl o.tc) ts.length (ts.map (Value.int .i64)) (by rfl) ((hown1.alloc _).drew)
        ⟨W.heap.size, 0, none⟩ 1 1 [.int .i64 a] (by rfl) (by rfl) (World.news_of_block (cs := #[.int .i64 a]) (t := 3) (fr := (0, 0)) (heap_alloc_new W _)) (by simp [Value.oneCell'])
        (by omega) (by have := HN.out; unfold maxLen; omega) HN.out (by simp; omega) (W.heap.size + 1) (by simp) ?_; intro gg cap w1 hown2 hgrow hat hlt; have f2 : w1.frozen? ⟨gw, 1, none⟩ = false := (hgrow.frozen_far ⟨gw, 1, none⟩ (by simp; omega) (Ne.symm ag)).trans ((row1.alloc _).frozen 1); have c3 : w1.cell? ⟨gw, 1, none⟩ = some (.slice o.ta o.tl o.tc) := (hgrow.cell_far ⟨gw, 1, none⟩ (by simp; omega) (Ne.symm ag)).trans ((row1.alloc _).cell 1)))
  all_goals go_wp2
  all_goals go_ret
  all_goals
    have hW : WSt W gw base o m e p b ts os := ⟨row1, h.hb, hown1, hops1⟩
    have hX : WSt (W.alloc (.cells #[.int .i64 a] 3)).drew gw base o m e p b ts os := (hW.below ((Below.refl _ _).alloc (Nat.le_refl _) _) rfl).below ((Below.refl _ _).drew) rfl
    obtain ⟨g1, g2, g3⟩ := hX.touch hgrow ((((b1.mono hbase).alloc hbW _)).drew) hown2
    exact ⟨rfl, { o with ta := some ⟨gg, 0, none⟩, tl := ts.length + 1, tc := cap }, rfl, rfl, rfl, g1, g2, ((KeepO.below b1 rfl).trans (KeepO.below ((Below.refl _ _).alloc (Nat.le_refl _) _) rfl)).trans ((KeepO.below ((Below.refl _ _).drew) rfl).trans g3)⟩
end Go.Proofs.YtehheaedbnfidaaGreat

namespace Go.Proofs.YtehheaedbnfidaaGreat
open Go.RowKit

theorem WSt.fresh {w : World} {gw base : Nat} {o : Own} {m e p b : Value} {ts : List Int} {os : List (Int × Int × Int)} (h : WSt w gw base o m e p b ts os) :
    WSt (w.setCell ⟨gw, 1, none⟩ (.slice none 0 0)) gw base { o with ta := none, tl := 0, tc := 0 } m e p b [] os := by
  refine ⟨h.row.setCell 1 _, h.hb, World.ownsRow_nil _ _ _ _, ?_⟩
  refine owns_same h.ops fun g hg => Below.heap_setCell _ _ _ _ ?_
  intro he
  subst he
  exact own_ne h.ops h.row (by decide) hg

theorem WSt.none {w : World} {gw base : Nat} {o : Own} {m e p b : Value} {ts : List Int} {os : List (Int × Int × Int)} (h : WSt w gw base o m e p b ts os) :
    WSt (w.setCell ⟨gw, 2, none⟩ (.slice none 0 0)) gw base { o with oa := none, ol := 0, oc := 0 } m e p b ts [] := by
  refine ⟨h.row.setCell 2 _, h.hb, ?_, World.ownsRow_nil _ _ _ _⟩
  refine owns_same h.tou fun g hg => Below.heap_setCell _ _ _ _ ?_
  intro he
  subst he
  exact own_ne h.tou h.row (by decide) hg

set_option maxRecDepth 100000 in
set_option maxHeartbeats 1600000 in
theorem owner_fresh (gw base : Nat) (o : Own) (m e p b : Value) (ts : List Int) (os : List (Int × Int × Int)) (st : St) (w : World) (h : WSt w gw base o m e p b ts os) (hk : st.k = 2) :
    Calls Tryz.prog 11 #[.pointer (some ⟨gw, 0, none⟩), opV st] w fun x w' => x = .returned (.bool true) ∧ ∃ o', o'.ca = o.ca ∧ o'.cl = o.cl ∧ o'.cc = o.cc ∧ WSt w' gw base o' m e p b [] os ∧ Below base w w' ∧ KeepO w w' := by
  obtain ⟨k, a, bb, cc, dd⟩ := st
  simp only at hk
  subst hk
  have hb := h.hb
  have lg := h.row.lt
  have bX : Below w.heap.size w (w.alloc (.cells (opA ⟨2, a, bb, cc, dd⟩) 36)) := (Below.refl _ _).alloc (Nat.le_refl _) _
  have hX := h.below bX rfl
  have c1 : w.cell? ⟨gw, 1, none⟩ = some (.slice o.ta o.tl o.tc) := by rw [h.row.cell]; rfl
  have f1 : w.frozen? ⟨gw, 1, none⟩ = false := h.row.frozen 1
  go_enter Tryz.func11, Tryz.ntmps11
  go_wp2
  go_ret
  have hF := hX.fresh
  rw [World.setCell_alloc_past _ _ _ _ lg] at hF
  exact ⟨rfl, { o with ta := Option.none, tl := 0, tc := 0 }, rfl, rfl, rfl, hF, ((Below.refl _ _).setCell hb _).alloc (by simp [World.setCell]; omega) _, (KeepO.setCell h.row (by decide) _ _).trans (KeepO.below ((Below.refl _ _).alloc (Nat.le_refl _) _) rfl)⟩

set_option maxRecDepth 100000 in
set_option maxHeartbeats 1600000 in
theorem owner_none (gw base : Nat) (o : Own) (m e p b : Value) (ts : List Int) (os : List (Int × Int × Int)) (st : St) (w : World) (h : WSt w gw base o m e p b ts os) (hk : st.k = 4) :
    Calls Tryz.prog 11 #[.pointer (some ⟨gw, 0, none⟩), opV st] w fun x w' => x = .returned (.bool true) ∧ ∃ o', o'.ca = o.ca ∧ o'.cl = o.cl ∧ o'.cc = o.cc ∧ WSt w' gw base o' m e p b ts [] ∧ Below base w w' ∧ KeepO w w' := by
  obtain ⟨k, a, bb, cc, dd⟩ := st
  simp only at hk
  subst hk
  have hb := h.hb
  have lg := h.row.lt
  have bX : Below w.heap.size w (w.alloc (.cells (opA ⟨4, a, bb, cc, dd⟩) 36)) := (Below.refl _ _).alloc (Nat.le_refl _) _
  have hX := h.below bX rfl
  have c1 : w.cell? ⟨gw, 2, none⟩ = some (.slice o.oa o.ol o.oc) := by rw [h.row.cell]; rfl
  have f1 : w.frozen? ⟨gw, 2, none⟩ = false := h.row.frozen 2
  go_enter Tryz.func11, Tryz.ntmps11
  go_wp2
  go_ret
  have hF := hX.none
  rw [World.setCell_alloc_past _ _ _ _ lg] at hF
  exact ⟨rfl, { o with oa := Option.none, ol := 0, oc := 0 }, rfl, rfl, rfl, hF, ((Below.refl _ _).setCell hb _).alloc (by simp [World.setCell]; omega) _, (KeepO.setCell h.row (by decide) _ _).trans (KeepO.below ((Below.refl _ _).alloc (Nat.le_refl _) _) rfl)⟩

set_option maxRecDepth 100000 in
set_option maxHeartbeats 1600000 in
theorem owner_other (gw : Nat) (st : St) (w : World) (hk : ¬ (1 ≤ st.k ∧ st.k ≤ 4)) :
    Calls Tryz.prog 11 #[.pointer (some ⟨gw, 0, none⟩), opV st] w fun x w' => x = .returned (.bool false) ∧ Below w.heap.size w w' := by
  have k1 : (st.k == 1) = false := by simp; omega
  have k2 : (st.k == 2) = false := by simp; omega
  have k3 : (st.k == 3) = false := by simp; omega
  have k4 : (st.k == 4) = false := by simp; omega
  clear hk
  go_enter Tryz.func11, Tryz.ntmps11
  go_wp2
  go_ret
  exact ⟨rfl, (Below.refl _ _).alloc (Nat.le_refl _) _⟩

theorem WSt.op {W X w1 : World} {gw base gg cap : Nat} {o : Own} {m e p b : Value} {ts : List Int} {os : List (Int × Int × Int)} {a b2 c : Int}
    (h : WSt X gw base o m e p b ts os) (hgrow : X.grownBy w1 (Value.slice o.oa o.ol o.oc).ownBlock) (hbX : Below base W X)
    (hown : w1.ownsRow base 69 3 (.slice (some ⟨gg, 0, Option.none⟩) (os.length + 1) cap) (os.length + 1) (opsL os ++ [.int .i64 a, .int .i64 b2, .int .i64 c])) :
    WSt (w1.setCell ⟨gw, 2, Option.none⟩ (.slice (some ⟨gg, 0, Option.none⟩) (os.length + 1) cap)) gw base { o with oa := some ⟨gg, 0, Option.none⟩, ol := os.length + 1, oc := cap } m e p b ts (os ++ [(a, b2, c)]) ∧ Below base W (w1.setCell ⟨gw, 2, Option.none⟩ (.slice (some ⟨gg, 0, Option.none⟩) (os.length + 1) cap)) ∧ KeepO X (w1.setCell ⟨gw, 2, Option.none⟩ (.slice (some ⟨gg, 0, Option.none⟩) (os.length + 1) cap)) := by
  have ag := own_ne h.ops h.row (by decide)
  have hbg := h.hb
  have lg := h.row.lt
  have r1 : Row w1 gw (ownL o m e p b) 34 := by
    unfold Row
    rw [hgrow.block gw lg (Ne.symm ag)]
    exact h.row
  have tou1 : w1.ownsRow base 3 1 (.slice o.ta o.tl o.tc) ts.length (ts.map (Value.int .i64)) :=
    owns_same h.tou fun g hg => hgrow.block g (owns_lt h.tou g hg).1 (fun he => owns_apart h.tou h.ops (by decide) g hg he.symm)
  refine ⟨⟨r1.setCell 2 _, hbg, ?_, ?_⟩, ?_, KeepO.trans (KeepO.grown h.ops (by decide) hgrow) (KeepO.setCell r1 (by decide) _ _)⟩
  · refine owns_same tou1 fun g hg => Below.heap_setCell _ _ _ _ ?_
    intro he
    subst he
    exact own_ne tou1 r1 (by decide) hg
  · have hs : (os ++ [(a, b2, c)]).length = os.length + 1 := by simp
    have hl : opsL (os ++ [(a, b2, c)]) = opsL os ++ [.int .i64 a, .int .i64 b2, .int .i64 c] := by simp [opsL]
    rw [hs, hl]
    refine owns_same hown fun g hg => Below.heap_setCell _ _ _ _ ?_
    intro he
    subst he
    exact own_ne hown r1 (by decide) hg
  · refine (hbX.trans ⟨hgrow.os, hgrow.tape, hgrow.output, hgrow.size, fun k hk => hgrow.block k (by omega) ?_⟩).setCell hbg _
    intro he
    have := owns_lt h.ops k he.symm
    omega
end Go.Proofs.YtehheaedbnfidaaGreat
