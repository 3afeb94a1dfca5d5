/-
  One domain's play, all of it in memory; told.
-/
import Derived.Test.YtehheaedbnfidaaGreatClRefS8
namespace Go.Proofs.YtehheaedbnfidaaGreat
open Go.RowKit

/-- The cores that wait, in memory. -/
def QAt (w : World) (base : Nat) (X : SLoc) (qu : List Int) : Prop :=
  X.ql = qu.length ∧ ((X.qa = none ∧ X.qc = 0 ∧ qu = []) ∨ ∃ (g off : Nat) (cur : List Value), X.qa = some ⟨g, off, none⟩ ∧ base ≤ g ∧ Row w g cur 3 ∧ X.ql ≤ X.qc ∧ X.qc ≤ maxLen ∧ off + X.qc ≤ cur.length ∧ (∀ i, i < X.ql → cur[off + i]? = some (.int .i64 (qu.getD i 0))) ∧ g ≠ X.gn ∧ g ≠ X.gf ∧ g ≠ X.gb ∧ g ≠ X.gh)

/-- One domain's play in memory. -/
structure SoloM (w : World) (base : Nat) (X : SLoc) (S : So) : Prop where
  row : Row w X.gs (soloL X) 126
  bs : base ≤ X.gs
  log : w.ownsRow base 132 9 (.slice X.la X.ll X.lc) S.log.length (logL S.log.reverse)
  ll : X.ll = S.log.length
  evs : w.ownsRow base 58 6 (.slice X.ea X.el X.ec) S.evs.length (evsL S.evs)
  el : X.el = S.evs.length
  nx : Row w X.gn (S.next.map (Value.int .i64)) 3
  nl : S.next.length = X.n
  nb : base ≤ X.gn
  fx : Row w X.gf (S.free.map (Value.int .i64)) 3
  fl : S.free.length = X.n
  fb : base ≤ X.gf
  bx : Row w X.gb (S.began.map (Value.int .i64)) 3
  bl : S.began.length = X.n
  bb : base ≤ X.gb
  hx : Row w X.gh (S.how.map (Value.int .i64)) 3
  hl : S.how.length = X.n
  hb : base ≤ X.gh
  dis : X.gn ≠ X.gf ∧ X.gn ≠ X.gb ∧ X.gn ≠ X.gh ∧ X.gf ≠ X.gb ∧ X.gf ≠ X.gh ∧ X.gb ≠ X.gh
  q : QAt w base X S.queue

theorem QAt.same {w w' : World} {base : Nat} {X : SLoc} {qu : List Int} (h : QAt w base X qu) (hs : ∀ g A, Row w g A 3 → Row w' g A 3) : QAt w' base X qu := by
  obtain ⟨h1, h2⟩ := h
  refine ⟨h1, ?_⟩
  rcases h2 with h2 | ⟨g, off, cur, a1, a2, a3, r⟩
  · exact Or.inl h2
  · exact Or.inr ⟨g, off, cur, a1, a2, hs g cur a3, r⟩

/-- What was there is as it was. -/
theorem SoloM.below {w w' : World} {base n : Nat} {X : SLoc} {S : So} (h : SoloM w base X S) (hb : Below n w w') (hn : w.heap.size ≤ n) : SoloM w' base X S := by
  have n1 : ∀ {g A t}, Row w g A t → Row w' g A t := fun hr => hr.below hb (Nat.lt_of_lt_of_le hr.lt hn)
  refine ⟨n1 h.row, h.bs, owns_same h.log fun g hg => hb.block g (Nat.lt_of_lt_of_le (owns_lt h.log g hg).1 hn), h.ll, owns_same h.evs fun g hg => hb.block g (Nat.lt_of_lt_of_le (owns_lt h.evs g hg).1 hn), h.el, n1 h.nx, h.nl, h.nb, n1 h.fx, h.fl, h.fb, n1 h.bx, h.bl, h.bb, n1 h.hx, h.hl, h.hb, h.dis, h.q.same fun g A hr => n1 hr⟩

theorem logL_len (l : List Ent) : (logL l).length = l.length * 9 := flat_len entL 9 (fun _ => rfl) l
theorem evsL_len (l : List Ev) : (evsL l).length = l.length * 6 := flat_len evL 6 (fun _ => rfl) l

/-- The cells of a row that a value owns. -/
theorem owns_cell {w : World} {base : Nat} {e : TypeId} {size : Nat} {sa : Option Addr} {len cap n : Nat} {xs : List Value} (h : w.ownsRow base e size (.slice sa len cap) n xs) (hn : 0 < n) : ∃ g, sa = some ⟨g, 0, none⟩ ∧ len = n ∧ base ≤ g ∧ g < w.heap.size ∧ ∀ m, m < n * size → w.cell? ⟨g, m, none⟩ = xs[m]? := by
  obtain ⟨h1, h2⟩ := h
  rcases h2 with ⟨h3, h4⟩ | ⟨g, cap', cur, hv, hg, hh, hn', hm, hs, ht⟩
  · omega
  · simp only [Value.slice.injEq] at hv
    obtain ⟨e1, e2, e3⟩ := hv
    have hr : Row w g cur.toList e := by unfold Row; simpa using hh
    refine ⟨g, e1, e2, hg, hr.lt, fun m hm2 => ?_⟩
    rw [hr.cell, ← ht, List.getElem?_take, if_pos hm2]

theorem SoloM.logAt {w : World} {base : Nat} {X : SLoc} {S : So} (h : SoloM w base X S) (hm : X.ll ≤ 100000) : LogAt w X.la X.ll S.log := by
  refine ⟨h.ll.symm, hm, fun i hi => ?_⟩
  have hi2 : i < S.log.length := by rw [← h.ll]; exact hi
  obtain ⟨g, e1, e2, e3, e4, e5⟩ := owns_cell h.log (by omega)
  refine ⟨g, e1, e4, fun j hj => ?_⟩
  rw [e5 _ (by have : (i + 1) * 9 ≤ S.log.length * 9 := Nat.mul_le_mul_right _ hi2; omega)]
  unfold logL
  rw [flat_at entL 9 (fun _ => rfl) _ i j hj]
  have : i < S.log.reverse.length := by simpa using hi2
  rw [List.getElem?_eq_getElem this, List.getD_eq_getElem?_getD, List.getElem?_eq_getElem this]
  rfl

/-- An operation in a box is as it was. -/
def KeepP (w w' : World) : Prop := ∀ g A, Row w g A 69 → Row w' g A 69
theorem KeepP.below {w w' : World} {n : Nat} (hb : Below n w w') (hn : w.heap.size ≤ n) : KeepP w w' := fun _ _ h => h.below hb (Nat.lt_of_lt_of_le h.lt hn)
theorem KeepP.trans {a b c : World} (h : KeepP a b) (k : KeepP b c) : KeepP a c := fun g A hg => k g A (h g A hg)
theorem KeepP.setCell {w : World} {g : Nat} {B : List Value} {t : TypeId} (h : Row w g B t) (ht : t ≠ 69) (i : Nat) (v : Value) : KeepP w (w.setCell ⟨g, i, none⟩ v) := fun k A hA =>
  hA.setCellOther _ _ (fun e => by subst e; exact ht (row_type h hA))

theorem Tryz.infoEntry : (Tryz.prog.info? 132).map (fun i => (i.zero, i.size, i.bytes)) = some (some (.agg #[.int .i64 0, .int .i64 0, .int .i64 0, .int .i64 0, .int .i64 0, .bool false, .bool false, .int .i64 0, .int .i64 0]), 9, 64) := by kernel_rfl

/-- Behind an append to the list of what has happened, and the store. -/
theorem SoloM.grow {X0 w1 : World} {base gg cap : Nat} {X : SLoc} {S : So} {e : Ent} (h : SoloM X0 base X S) (hbase : base ≤ X0.heap.size) (hgrow : X0.grownBy w1 (Value.slice X.la X.ll X.lc).ownBlock)
    (hown : w1.ownsRow base 132 9 (.slice (some ⟨gg, 0, none⟩) (S.log.length + 1) cap) (S.log.length + 1) (logL S.log.reverse ++ entL e)) :
    SoloM (w1.setCell ⟨X.gs, 2, none⟩ (.slice (some ⟨gg, 0, none⟩) (S.log.length + 1) cap)) base { X with la := some ⟨gg, 0, none⟩, ll := S.log.length + 1, lc := cap } (S.told e) ∧ Below base X0 (w1.setCell ⟨X.gs, 2, none⟩ (.slice (some ⟨gg, 0, none⟩) (S.log.length + 1) cap)) ∧ KeepP X0 (w1.setCell ⟨X.gs, 2, none⟩ (.slice (some ⟨gg, 0, none⟩) (S.log.length + 1) cap)) := by
  have n0 : ∀ {g A t}, Row X0 g A t → t ≠ 132 → Row w1 g A t := fun hr ht => by
    unfold Row
    rw [hgrow.block _ hr.lt (fun he => own_ne h.log hr ht he.symm)]
    exact hr
  have r1 := n0 h.row (by decide)
  have n1 : ∀ {g A t}, Row X0 g A t → t ≠ 132 → t ≠ 126 → Row (w1.setCell ⟨X.gs, 2, none⟩ (.slice (some ⟨gg, 0, none⟩) (S.log.length + 1) cap)) g A t := fun hr ht hs =>
    (n0 hr ht).setCellOther _ _ (fun e => by subst e; exact hs (row_type (n0 hr ht) r1))
  have ev1 : w1.ownsRow base 58 6 (.slice X.ea X.el X.ec) S.evs.length (evsL S.evs) :=
    owns_same h.evs fun g hg => hgrow.block g (owns_lt h.evs g hg).1 (fun he => owns_apart h.evs h.log (by decide) g hg he.symm)
  refine ⟨⟨r1.setCell 2 _, h.bs, ?_, by simp [So.told], ?_, h.el, n1 h.nx (by decide) (by decide), h.nl, h.nb, n1 h.fx (by decide) (by decide), h.fl, h.fb, n1 h.bx (by decide) (by decide), h.bl, h.bb, n1 h.hx (by decide) (by decide), h.hl, h.hb, h.dis, ?_⟩, ?_, fun g A hr => n1 hr (by decide) (by decide)⟩
  · have hs : (S.told e).log.length = S.log.length + 1 := by simp [So.told]
    have hL : logL (S.told e).log.reverse = logL S.log.reverse ++ entL e := by simp [So.told, logL]
    rw [hs, hL]
    refine owns_same hown fun g hg => Below.heap_setCell _ _ _ _ ?_
    intro he
    subst he
    exact own_ne hown r1 (by decide) hg
  · refine owns_same ev1 fun g hg => Below.heap_setCell _ _ _ _ ?_
    intro he
    subst he
    exact own_ne ev1 r1 (by decide) hg
  · exact h.q.same fun g A hr => n1 hr (by decide) (by decide)
  · exact (below_grown (Below.refl base X0) hbase hgrow (fun g hg => (owns_lt h.log g hg).2)).setCell h.bs _

set_option maxRecDepth 100000 in
set_option maxHeartbeats 3200000 in
theorem rtold_any (base : Nat) (X : SLoc) (S : So) (e : Ent) (w : World) (h : SoloM w base X S) (hn : S.log.length ≤ 90000) :
    Calls Tryz.prog 127 #[.pointer (some ⟨X.gs, 0, none⟩), .agg #[.int .i64 e.t, .int .i64 e.what, .int .i64 e.core, .int .i64 e.line, .int .i64 e.way, .bool e.st, .bool e.lo, .int .i64 e.addr, .int .i64 e.val]] w fun x w' => x = .returned (.tuple #[]) ∧ ∃ la lc, SoloM w' base { X with la := la, ll := S.log.length + 1, lc := lc } (S.told e) ∧ Below base w w' ∧ KeepP w w' := by
  obtain ⟨et, ewhat, ecore, eline, eway, est, elo, eaddr, eval⟩ := e
  dsimp only
  obtain ⟨i0, hi0, hz0, hz1, hz2⟩ := info_parts Tryz.infoEntry
  have lg := h.row.lt
  have ag := own_ne h.log h.row (by decide)
  have hbase : base ≤ w.heap.size := by have := h.bs; omega
  have LM : Hid (S.log.length + 1 ≤ maxLen) := by unfold Hid maxLen; omega
  have L8 : Hid ((S.log.length + 1) * 64 ≤ 140737488355328) := by unfold Hid; omega
  clear hn
  go_enter Tryz.func127, Tryz.ntmps127
  go_wp2_with fail
  have rO : Row (w.alloc (.cells #[.int .i64 et, .int .i64 ewhat, .int .i64 ecore, .int .i64 eline, .int .i64 eway, .bool est, .bool elo, .int .i64 eaddr, .int .i64 eval] 132)) w.heap.size [.int .i64 et, .int .i64 ewhat, .int .i64 ecore, .int .i64 eline, .int .i64 eway, .bool est, .bool elo, .int .i64 eaddr, .int .i64 eval] 132 := heap_alloc_new w _
  have b1 : Below w.heap.size w (w.alloc (.cells #[.int .i64 et, .int .i64 ewhat, .int .i64 ecore, .int .i64 eline, .int .i64 eway, .bool est, .bool elo, .int .i64 eaddr, .int .i64 eval] 132)) := (Below.refl _ _).alloc (Nat.le_refl _) _
  have h1 := h.below b1 (Nat.le_refl _)
  have sz1 : (w.alloc (.cells #[.int .i64 et, .int .i64 ewhat, .int .i64 ecore, .int .i64 eline, .int .i64 eway, .bool est, .bool elo, .int .i64 eaddr, .int .i64 eval] 132)).heap.size = w.heap.size + 1 := by simp
  have SZ : Hid _ := sz1
  clear sz1
  generalize w.alloc (.cells #[.int .i64 et, .int .i64 ewhat, .int .i64 ecore, .int .i64 eline, .int .i64 eway, .bool est, .bool elo, .int .i64 eaddr, .int .i64 eval] 132) = W at *
  have c2 : W.cell? ⟨X.gs, 2, none⟩ = some (.slice X.la X.ll X.lc) := by rw [h1.row.cell]; rfl
  have f2 : W.frozen? ⟨X.gs, 2, none⟩ = false := h1.row.frozen 2
  have d0 : W.cell? ⟨w.heap.size, 0, none⟩ = some (.int .i64 et) := by rw [rO.cell]; rfl
  have d1 : W.cell? ⟨w.heap.size, 1, none⟩ = some (.int .i64 ewhat) := by rw [rO.cell]; rfl
  have d2 : W.cell? ⟨w.heap.size, 2, none⟩ = some (.int .i64 ecore) := by rw [rO.cell]; rfl
  have d3 : W.cell? ⟨w.heap.size, 3, none⟩ = some (.int .i64 eline) := by rw [rO.cell]; rfl
  have d4 : W.cell? ⟨w.heap.size, 4, none⟩ = some (.int .i64 eway) := by rw [rO.cell]; rfl
  have d5 : W.cell? ⟨w.heap.size, 5, none⟩ = some (.bool est) := by rw [rO.cell]; rfl
  have d6 : W.cell? ⟨w.heap.size, 6, none⟩ = some (.bool elo) := by rw [rO.cell]; rfl
  have d7 : W.cell? ⟨w.heap.size, 7, none⟩ = some (.int .i64 eaddr) := by rw [rO.cell]; rfl
  have d8 : W.cell? ⟨w.heap.size, 8, none⟩ = some (.int .i64 eval) := by rw [rO.cell]; rfl
  have l1 := h1.row.lt
  have l2 := rO.lt
  have row1 := h1.row
  have hown1 := h1.log
  have hbW : base ≤ W.heap.size := by have := b1.size; omega
  go_region_law
    ((refine step_append_lies _ (by rfl) _ _ _ (by rfl) base 132 i0 _ 9 64 Tryz.underlying124 hi0 hz0 hz1 hz2 rfl (by omega) (.slice X.la X.ll X.lc) S.log.length (logL S.log.reverse) (by rfl) ((hown1.alloc _).drew)
        ⟨W.heap.size, 0, none⟩ 1 1 [.int .i64 et, .int .i64 ewhat, .int .i64 ecore, .int .i64 eline, .int .i64 eway, .bool est, .bool elo, .int .i64 eaddr, .int .i64 eval] (by rfl) (by rfl) (World.news_of_block (cs := #[.int .i64 et, .int .i64 ewhat, .int .i64 ecore, .int .i64 eline, .int .i64 eway, .bool est, .bool elo, .int .i64 eaddr, .int .i64 eval]) (t := 132) (fr := (0, 0)) (heap_alloc_new W _)) (by simp [Value.oneCell'])
        (by omega) LM.out L8.out (by simp; omega) (W.heap.size + 1) (by simp) ?_; intro gg cap w1 hown2 hgrow hat hlt; have f2 : w1.frozen? ⟨X.gs, 2, none⟩ = false := (hgrow.frozen_far ⟨X.gs, 2, none⟩ (by simp; omega) (Ne.symm ag)).trans ((row1.alloc _).frozen 2); have c3 : w1.cell? ⟨X.gs, 2, none⟩ = some (.slice X.la X.ll X.lc) := (hgrow.cell_far ⟨X.gs, 2, none⟩ (by simp; omega) (Ne.symm ag)).trans ((row1.alloc _).cell 2)))
  all_goals go_wp2
  all_goals refine bodyPost_end (results_none rfl _ _ _) rfl ?_
  all_goals
    have hX : SoloM (W.alloc (.cells #[.int .i64 et, .int .i64 ewhat, .int .i64 ecore, .int .i64 eline, .int .i64 eway, .bool est, .bool elo, .int .i64 eaddr, .int .i64 eval] 132)).drew base X S := (h1.below ((Below.refl _ _).alloc (Nat.le_refl _) _) (Nat.le_refl _)).below ((Below.refl _ _).drew) (Nat.le_refl _)
    obtain ⟨g1, g2, g3⟩ := hX.grow (e := ⟨et, ewhat, ecore, eline, eway, est, elo, eaddr, eval⟩) (by have := hX.row.lt; have := h.bs; omega) hgrow hown2
    exact ⟨rfl, some ⟨gg, 0, none⟩, cap, g1, ((((b1.mono hbase).alloc hbW _)).drew).trans g2, ((KeepP.below b1 (Nat.le_refl _)).trans (KeepP.below ((Below.refl _ _).alloc (Nat.le_refl _) _) (Nat.le_refl _))).trans ((KeepP.below ((Below.refl _ _).drew) (Nat.le_refl _)).trans g3)⟩
end Go.Proofs.YtehheaedbnfidaaGreat
