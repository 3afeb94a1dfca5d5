/-
  Bound, RefM
-/
import Derived.Test.YtehheaedbnfidaaGreatClPackAU
import Derived.Test.YtehheaedbnfidaaGreatClPackJ
import Derived.Test.YtehheaedbnfidaaGreatClPackA
import Derived.Test.YtehheaedbnfidaaGreatClPackBC
namespace Go.Proofs.YtehheaedbnfidaaGreat
open Go.RowKit

def worstR (c : Cf) : Int := if chk c = 0 then worstZ c else 0



set_option maxHeartbeats 800000 in
theorem Worst_any (c : Cf) (s : Sl) (w : World) (h : CfgAt w c s) :
    Calls Tryz.prog 35 #[cfgV c s] w fun e w' => e = .returned (.tuple #[.int .i64 (worstR c), .int .i64 (chk c)]) ∧ Below w.heap.size w w' := by
  have k0 := Kept.start w (cfgA c s) 43
  by_cases hz : chk c = 0
  · have R := right_of hz
    have HR : Hid (worstR c = worstZ c) := by unfold worstR Hid; rw [if_pos hz]
    have HZ : Hid _ := hz
    have hb : (chk c != 0) = false := by simp [hz]
    clear hz
    go_enter Tryz.func35, Tryz.ntmps35
    go_wp2_with fail
    refine (check_any c s _ (h.below k0.below (Nat.le_refl _))).mono ?_; rintro e w1 ⟨rfl, hb1⟩; have k1 := k0.next hb1 rfl; have q1 := k1.box
    go_wp2_with fail
    refine (worst_any c s _ (h.below k1.below (Nat.le_refl _)) R.c1 R.c2 R.s1 R.s2 R.t2).mono ?_; rintro e w2 ⟨rfl, hb2⟩; have k2 := k1.next hb2 rfl
    clear q1
    go_wp2
    go_ret2
    exact ⟨ret_two HR.out.symm HZ.out.symm, k2.below⟩
  · have hb : (chk c != 0) = true := by simpa using hz
    have HR : Hid (worstR c = 0) := by unfold worstR Hid; rw [if_neg hz]
    clear hz
    go_enter Tryz.func35, Tryz.ntmps35
    go_wp2_with fail
    refine (check_any c s _ (h.below k0.below (Nat.le_refl _))).mono ?_; rintro e w1 ⟨rfl, hb1⟩; have k1 := k0.next hb1 rfl; have q1 := k1.box
    go_wp2
    go_ret2
    exact ⟨ret_two HR.out.symm rfl, k1.below⟩

set_option maxHeartbeats 800000 in
theorem rWorst_any (c : Cf) (s : Sl) (w : World) (h : CfgAt w c s) :
    Calls Tryz.prog 36 #[cfgV c s] w fun e w' => e = .returned (.tuple #[.int .i64 (worstR c), .int .i64 (chk c)]) ∧ Below w.heap.size w w' := by
  have k0 := Kept.start w (cfgA c s) 43
  by_cases hz : chk c = 0
  · have R := right_of hz
    have HR : Hid (worstR c = worstZ c) := by unfold worstR Hid; rw [if_pos hz]
    have HZ : Hid _ := hz
    have hb : (chk c != 0) = false := by simp [hz]
    clear hz
    go_enter Tryz.func36, Tryz.ntmps36
    go_wp2_with fail
    refine (rcheck_any c s _ (h.below k0.below (Nat.le_refl _))).mono ?_; rintro e w1 ⟨rfl, hb1⟩; have k1 := k0.next hb1 rfl; have q1 := k1.box
    go_wp2_with fail
    refine (rworst_any c s _ (h.below k1.below (Nat.le_refl _)) R.c1 R.c2 R.s1 R.s2 R.t2).mono ?_; rintro e w2 ⟨rfl, hb2⟩; have k2 := k1.next hb2 rfl
    clear q1
    go_wp2
    go_ret2
    exact ⟨ret_two HR.out.symm HZ.out.symm, k2.below⟩
  · have hb : (chk c != 0) = true := by simpa using hz
    have HR : Hid (worstR c = 0) := by unfold worstR Hid; rw [if_neg hz]
    clear hz
    go_enter Tryz.func36, Tryz.ntmps36
    go_wp2_with fail
    refine (rcheck_any c s _ (h.below k0.below (Nat.le_refl _))).mono ?_; rintro e w1 ⟨rfl, hb1⟩; have k1 := k0.next hb1 rfl; have q1 := k1.box
    go_wp2
    go_ret2
    exact ⟨ret_two HR.out.symm rfl, k1.below⟩

end Go.Proofs.YtehheaedbnfidaaGreat

namespace Go.Proofs.YtehheaedbnfidaaGreat
open Go.RowKit

/-- The cells of a machine of the reference. -/
abbrev machL (c : Cf) (s : Sl) (gp np go nd gc ns : Nat) (T : Int) : List Value := [.int .i64 c.cores, .int .i64 c.domains, .int .i64 c.line, .int .i64 c.priv, .int .i64 c.shared, .int .i64 c.near, .int .i64 c.sets, .slice s.wa s.wl s.wc, .int .i64 c.slot, .slice s.sa s.sl s.sc, .slice s.ta s.tl s.tc, .int .i64 c.quantum, .int .i64 c.flush, .slice (some ⟨gp, 0, none⟩) np np, .slice (some ⟨go, 0, none⟩) nd nd, .slice (some ⟨gc, 0, none⟩) ns ns, .int .i64 T]

/-- Where a machine of the reference lies: its own block, its programs, words, shared words; the blocks of each program and of each domain's words. -/
structure RLoc where
  gr : Nat
  gp : Nat
  np : Nat
  go : Nat
  nd : Nat
  gc : Nat
  ns : Nat
  G : Nat → Nat
  D : Nat → Nat
  PL : List Value

/-- What a machine of the reference holds. -/
structure RDat where
  c : Cf
  s : Sl
  pr : Nat → List (Int × Int × Int)
  ow : Nat → List Int
  cm : List Int
  T : Int

structure RefM (w : World) (L : RLoc) (M : RDat) : Prop where
  row : Row w L.gr (machL M.c M.s L.gp L.np L.go L.nd L.gc L.ns M.T) 103
  np : (L.np : Int) = M.c.domains * M.c.cores
  nd : (L.nd : Int) = M.c.domains
  ns : (L.ns : Int) = M.c.shared
  prow : Row w L.gp L.PL 28
  plen : L.PL.length = L.np
  pat : ∀ i, i < L.np → (M.pr i = [] ∧ L.PL[i]? = some (.slice none 0 0)) ∨ (L.PL[i]? = some (.slice (some ⟨L.G i, 0, none⟩) (M.pr i).length (M.pr i).length) ∧ Row w (L.G i) (opsL (M.pr i)) 69)
  orow : Row w L.go ((List.range L.nd).map fun d => .slice (some ⟨L.D d, 0, none⟩) M.c.priv.toNat M.c.priv.toNat) 25
  oat : ∀ d, d < L.nd → (M.ow d).length = M.c.priv.toNat ∧ Row w (L.D d) ((M.ow d).map (Value.int .i64)) 3
  odis : ∀ d e, d < L.nd → e < L.nd → L.D d = L.D e → d = e
  crow : Row w L.gc (M.cm.map (Value.int .i64)) 3
  clen : M.cm.length = L.ns
  cdis : ∀ d, d < L.nd → L.D d ≠ L.gc
  right : chk M.c = 0
  T0 : 0 ≤ M.T
  T1 : M.T ≤ 10000
  pmax : ∀ i, i < L.np → (M.pr i).length ≤ 64

/-- The blocks of a machine of the reference. -/
def RLoc.own (L : RLoc) (b : Nat) : Prop := b = L.gr ∨ b = L.gp ∨ b = L.go ∨ b = L.gc ∨ (∃ i, i < L.np ∧ b = L.G i) ∨ ∃ d, d < L.nd ∧ b = L.D d

theorem RefM.same {w w' : World} {L : RLoc} {M : RDat} (h : RefM w L M) (hs : ∀ b, L.own b → w'.heap[b]? = w.heap[b]?) : RefM w' L M := by
  refine ⟨h.row.same (hs _ (Or.inl rfl)), h.np, h.nd, h.ns, h.prow.same (hs _ (Or.inr (Or.inl rfl))), h.plen, ?_, h.orow.same (hs _ (Or.inr (Or.inr (Or.inl rfl)))), ?_, h.odis, h.crow.same (hs _ (Or.inr (Or.inr (Or.inr (Or.inl rfl))))), h.clen, h.cdis, h.right, h.T0, h.T1, h.pmax⟩
  · intro i hi
    rcases h.pat i hi with h1 | ⟨h1, h2⟩
    · exact Or.inl h1
    · exact Or.inr ⟨h1, h2.same (hs _ (Or.inr (Or.inr (Or.inr (Or.inr (Or.inl ⟨i, hi, rfl⟩))))))⟩
  · intro d hd
    exact ⟨(h.oat d hd).1, (h.oat d hd).2.same (hs _ (Or.inr (Or.inr (Or.inr (Or.inr (Or.inr ⟨d, hd, rfl⟩))))))⟩

/-- A store into a block that no other part of the machine is. -/
theorem RefM.time {w : World} {L : RLoc} {M : RDat} (h : RefM w L M) (T : Int) (t0 : 0 ≤ T) (t1 : T ≤ 10000) : RefM (w.setCell ⟨L.gr, 16, none⟩ (.int .i64 T)) L { M with T := T } := by
  have n1 : ∀ {g A t}, Row w g A t → t ≠ 103 → Row (w.setCell ⟨L.gr, 16, none⟩ (.int .i64 T)) g A t := fun hr ht =>
    hr.setCellOther _ _ (fun e => by subst e; exact ht (row_type hr h.row))
  refine ⟨h.row.setCell 16 _, h.np, h.nd, h.ns, n1 h.prow (by decide), h.plen, ?_, n1 h.orow (by decide), ?_, h.odis, n1 h.crow (by decide), h.clen, h.cdis, h.right, t0, t1, h.pmax⟩
  · intro i hi
    rcases h.pat i hi with h1 | ⟨h1, h2⟩
    · exact Or.inl h1
    · exact Or.inr ⟨h1, n1 h2 (by decide)⟩
  · intro d hd
    exact ⟨(h.oat d hd).1, n1 (h.oat d hd).2 (by decide)⟩

def runE (M : RDat) (n : Int) : Int := if n < 0 then 6 else if 10000 - M.T < n then 9 else 0
def runT (M : RDat) (n : Int) : Int := if n < 0 then M.T else if 10000 - M.T < n then M.T else M.T + n

set_option maxRecDepth 100000 in
set_option maxHeartbeats 800000 in
theorem rRun_any (L : RLoc) (M : RDat) (n : Int) (w : World) (h : RefM w L M) :
    Calls Tryz.prog 62 #[.pointer (some ⟨L.gr, 0, none⟩), .int .i64 n] w fun e w' => e = .returned (.int .i64 (runE M n)) ∧ RefM w' L { M with T := runT M n } ∧ Touch L.own w w' := by
  have T0 := h.T0
  have T1 := h.T1
  have c16 : w.cell? ⟨L.gr, 16, none⟩ = some (.int .i64 M.T) := by rw [h.row.cell]; rfl
  have f16 : w.frozen? ⟨L.gr, 16, none⟩ = false := h.row.frozen 16
  by_cases a1 : n < 0
  · have e1 : runE M n = 6 := by unfold runE; rw [if_pos a1]
    have e2 : runT M n = M.T := by unfold runT; rw [if_pos a1]
    have HE : Hid _ := e1
    have HM : Hid (RefM w L { M with T := runT M n }) := by unfold Hid; rw [e2]; exact h
    clear e1 e2
    go_enter Tryz.func62, Tryz.ntmps62
    go_wp2
    go_ret
    exact ⟨ret_int HE.out.symm, HM.out, Touch.refl _ _⟩
  by_cases a2 : 10000 - M.T < n
  · have e1 : runE M n = 9 := by unfold runE; rw [if_neg a1, if_pos a2]
    have e2 : runT M n = M.T := by unfold runT; rw [if_neg a1, if_pos a2]
    have HE : Hid _ := e1
    have HM : Hid (RefM w L { M with T := runT M n }) := by unfold Hid; rw [e2]; exact h
    clear e1 e2
    go_enter Tryz.func62, Tryz.ntmps62
    go_wp2
    go_ret
    exact ⟨ret_int HE.out.symm, HM.out, Touch.refl _ _⟩
  · have e1 : runE M n = 0 := by unfold runE; rw [if_neg a1, if_neg a2]
    have e2 : runT M n = M.T + n := by unfold runT; rw [if_neg a1, if_neg a2]
    have HE : Hid _ := e1
    have HM : Hid (RefM (w.setCell ⟨L.gr, 16, none⟩ (.int .i64 (M.T + n))) L { M with T := runT M n }) := by unfold Hid; rw [e2]; exact h.time _ (by omega) (by omega)
    clear e1 e2
    go_enter Tryz.func62, Tryz.ntmps62
    go_wp2
    go_ret
    exact ⟨ret_int HE.out.symm, HM.out, Touch.setCell _ _ _ _ (Or.inl rfl)⟩

theorem RefM.share {w : World} {L : RLoc} {M : RDat} (h : RefM w L M) (a : Nat) (v : Int) : RefM (w.setCell ⟨L.gc, a, none⟩ (.int .i64 v)) L { M with cm := M.cm.set a v } := by
  have n1 : ∀ {g A t}, Row w g A t → t ≠ 3 → Row (w.setCell ⟨L.gc, a, none⟩ (.int .i64 v)) g A t := fun hr ht =>
    hr.setCellOther _ _ (fun e => by subst e; exact ht (row_type hr h.crow))
  refine ⟨n1 h.row (by decide), h.np, h.nd, h.ns, n1 h.prow (by decide), h.plen, ?_, n1 h.orow (by decide), ?_, h.odis, ?_, by simp [h.clen], h.cdis, h.right, h.T0, h.T1, h.pmax⟩
  · intro i hi
    rcases h.pat i hi with h1 | ⟨h1, h2⟩
    · exact Or.inl h1
    · exact Or.inr ⟨h1, n1 h2 (by decide)⟩
  · intro d hd
    exact ⟨(h.oat d hd).1, (h.oat d hd).2.setCellOther _ _ (h.cdis d hd)⟩
  · have := h.crow.setCell a (.int .i64 v)
    rwa [← List.map_set] at this

theorem RefM.fill {w : World} {L : RLoc} {M : RDat} (h : RefM w L M) (d a : Nat) (v : Int) (hd : d < L.nd) : RefM (w.setCell ⟨L.D d, a, none⟩ (.int .i64 v)) L { M with ow := fun e => if e = d then (M.ow d).set a v else M.ow e } := by
  have hr0 := (h.oat d hd).2
  have n1 : ∀ {g A t}, Row w g A t → t ≠ 3 → Row (w.setCell ⟨L.D d, a, none⟩ (.int .i64 v)) g A t := fun hr ht =>
    hr.setCellOther _ _ (fun e => by subst e; exact ht (row_type hr hr0))
  refine ⟨n1 h.row (by decide), h.np, h.nd, h.ns, n1 h.prow (by decide), h.plen, ?_, n1 h.orow (by decide), ?_, h.odis, h.crow.setCellOther _ _ (Ne.symm (h.cdis d hd)), h.clen, h.cdis, h.right, h.T0, h.T1, h.pmax⟩
  · intro i hi
    rcases h.pat i hi with h1 | ⟨h1, h2⟩
    · exact Or.inl h1
    · exact Or.inr ⟨h1, n1 h2 (by decide)⟩
  · intro e he
    by_cases ed : e = d
    · subst ed
      simp only [if_true]
      refine ⟨by simp [(h.oat e he).1], ?_⟩
      have := hr0.setCell a (.int .i64 v)
      rwa [← List.map_set] at this
    · simp only [ed, if_false]
      exact ⟨(h.oat e he).1, (h.oat e he).2.setCellOther _ _ (fun eq => ed (h.odis e d he hd eq))⟩

def shareE (M : RDat) (a : Int) : Int := if a < 0 ∨ M.c.shared ≤ a then 6 else if 0 < M.T then 7 else 0
def shareM (M : RDat) (a v : Int) : RDat := if shareE M a = 0 then { M with cm := M.cm.set a.toNat v } else M
def fillE (M : RDat) (d a : Int) : Int := if d < 0 ∨ M.c.domains ≤ d ∨ a < 0 ∨ M.c.priv ≤ a then 6 else if 0 < M.T then 7 else 0
def fillM (M : RDat) (d a v : Int) : RDat := if fillE M d a = 0 then { M with ow := fun e => if e = d.toNat then (M.ow d.toNat).set a.toNat v else M.ow e } else M

theorem cell_of_row {w : World} {g : Nat} {xs : List Int} {t : TypeId} {i : Nat} (h : Row w g (xs.map (Value.int .i64)) t) (hi : i < xs.length) : w.cell? ⟨g, i, none⟩ = some (.int .i64 (xs.getD i 0)) := by
  rw [h.cell, List.getElem?_map]; simp [List.getD, hi]

set_option maxRecDepth 100000 in
set_option maxHeartbeats 1600000 in
theorem rShare_any (L : RLoc) (M : RDat) (a v : Int) (w : World) (h : RefM w L M) :
    Calls Tryz.prog 60 #[.pointer (some ⟨L.gr, 0, none⟩), .int .i64 a, .int .i64 v] w fun e w' => e = .returned (.int .i64 (shareE M a)) ∧ RefM w' L (shareM M a v) ∧ Touch L.own w w' := by
  have T0 := h.T0
  have c4 : w.cell? ⟨L.gr, 4, none⟩ = some (.int .i64 M.c.shared) := by rw [h.row.cell]; rfl
  have c15 : w.cell? ⟨L.gr, 15, none⟩ = some (.slice (some ⟨L.gc, 0, none⟩) L.ns L.ns) := by rw [h.row.cell]; rfl
  have c16 : w.cell? ⟨L.gr, 16, none⟩ = some (.int .i64 M.T) := by rw [h.row.cell]; rfl
  have hns := h.ns
  have sb := (shape_bounds (chk_zero h.right).1)
  have sb2 : M.c.shared ≤ 32 := by omega
  have HNS : Hid _ := hns
  have hnl : L.ns ≤ 32 := by omega
  clear hns sb
  by_cases a1 : a < 0
  · have e1 : shareE M a = 6 := by unfold shareE; rw [if_pos (Or.inl a1)]
    have HE : Hid _ := e1
    have HM : Hid (RefM w L (shareM M a v)) := by unfold Hid shareM; rw [if_neg (by rw [e1]; decide)]; exact h
    clear e1
    go_enter Tryz.func60, Tryz.ntmps60
    go_wp2
    go_ret
    exact ⟨ret_int HE.out.symm, HM.out, Touch.refl _ _⟩
  by_cases a2 : M.c.shared ≤ a
  · have e1 : shareE M a = 6 := by unfold shareE; rw [if_pos (Or.inr a2)]
    have HE : Hid _ := e1
    have HM : Hid (RefM w L (shareM M a v)) := by unfold Hid shareM; rw [if_neg (by rw [e1]; decide)]; exact h
    clear e1
    go_enter Tryz.func60, Tryz.ntmps60
    go_wp2
    go_ret
    exact ⟨ret_int HE.out.symm, HM.out, Touch.refl _ _⟩
  by_cases a3 : 0 < M.T
  · have e1 : shareE M a = 7 := by unfold shareE; rw [if_neg (by omega), if_pos a3]
    have HE : Hid _ := e1
    have HM : Hid (RefM w L (shareM M a v)) := by unfold Hid shareM; rw [if_neg (by rw [e1]; decide)]; exact h
    clear e1
    go_enter Tryz.func60, Tryz.ntmps60
    go_wp2
    go_ret
    exact ⟨ret_int HE.out.symm, HM.out, Touch.refl _ _⟩
  · have e1 : shareE M a = 0 := by unfold shareE; rw [if_neg (by omega), if_neg a3]
    obtain ⟨i, rfl⟩ := Int.eq_ofNat_of_zero_le (show 0 ≤ a by omega)
    have HE : Hid _ := e1
    have HM : Hid (RefM (w.setCell ⟨L.gc, i, none⟩ (.int .i64 v)) L (shareM M i v)) := by unfold Hid shareM; rw [if_pos e1, Int.toNat_natCast]; exact h.share i v
    have hi : i < L.ns := by have := HNS.out; omega
    have ci := cell_of_row h.crow (i := i) (by rw [h.clen]; exact hi)
    have fi : w.frozen? ⟨L.gc, i, none⟩ = false := h.crow.frozen i
    clear e1
    go_enter Tryz.func60, Tryz.ntmps60
    go_wp2
    go_ret
    exact ⟨ret_int HE.out.symm, HM.out, Touch.setCell _ _ _ _ (Or.inr (Or.inr (Or.inr (Or.inl rfl))))⟩

set_option maxRecDepth 100000 in
set_option maxHeartbeats 1600000 in
theorem rFill_any (L : RLoc) (M : RDat) (d a v : Int) (w : World) (h : RefM w L M) :
    Calls Tryz.prog 58 #[.pointer (some ⟨L.gr, 0, none⟩), .int .i64 d, .int .i64 a, .int .i64 v] w fun e w' => e = .returned (.int .i64 (fillE M d a)) ∧ RefM w' L (fillM M d a v) ∧ Touch L.own w w' := by
  have T0 := h.T0
  have c1 : w.cell? ⟨L.gr, 1, none⟩ = some (.int .i64 M.c.domains) := by rw [h.row.cell]; rfl
  have c3 : w.cell? ⟨L.gr, 3, none⟩ = some (.int .i64 M.c.priv) := by rw [h.row.cell]; rfl
  have c14 : w.cell? ⟨L.gr, 14, none⟩ = some (.slice (some ⟨L.go, 0, none⟩) L.nd L.nd) := by rw [h.row.cell]; rfl
  have c16 : w.cell? ⟨L.gr, 16, none⟩ = some (.int .i64 M.T) := by rw [h.row.cell]; rfl
  have sb := (shape_bounds (chk_zero h.right).1)
  have sb1 : M.c.domains ≤ 4 := by omega
  have sb2 : M.c.priv ≤ 64 := by omega
  have sb3 : 0 ≤ M.c.priv := by omega
  have HND : Hid _ := h.nd
  have hnl : L.nd ≤ 4 := by have := h.nd; omega
  clear sb
  by_cases hbad : d < 0 ∨ M.c.domains ≤ d ∨ a < 0 ∨ M.c.priv ≤ a
  · have e1 : fillE M d a = 6 := by unfold fillE; rw [if_pos hbad]
    have HE : Hid _ := e1
    have HM : Hid (RefM w L (fillM M d a v)) := by unfold Hid fillM; rw [if_neg (by rw [e1]; decide)]; exact h
    have cases : d < 0 ∨ (0 ≤ d ∧ M.c.domains ≤ d) ∨ (0 ≤ d ∧ d < M.c.domains ∧ a < 0) ∨ (0 ≤ d ∧ d < M.c.domains ∧ 0 ≤ a ∧ M.c.priv ≤ a) := by omega
    clear e1 hbad
    rcases cases with b1 | ⟨b1, b2⟩ | ⟨b1, b2, b3⟩ | ⟨b1, b2, b3, b4⟩
    all_goals
      go_enter Tryz.func58, Tryz.ntmps58
      go_wp2
      go_ret
      exact ⟨ret_int HE.out.symm, HM.out, Touch.refl _ _⟩
  · have b1 : 0 ≤ d := by omega
    have b2 : d < M.c.domains := by omega
    have b3 : 0 ≤ a := by omega
    have b4 : a < M.c.priv := by omega
    by_cases a3 : 0 < M.T
    · have e1 : fillE M d a = 7 := by unfold fillE; rw [if_neg hbad, if_pos a3]
      have HE : Hid _ := e1
      have HM : Hid (RefM w L (fillM M d a v)) := by unfold Hid fillM; rw [if_neg (by rw [e1]; decide)]; exact h
      clear e1 hbad
      go_enter Tryz.func58, Tryz.ntmps58
      go_wp2
      go_ret
      exact ⟨ret_int HE.out.symm, HM.out, Touch.refl _ _⟩
    · have e1 : fillE M d a = 0 := by unfold fillE; rw [if_neg hbad, if_neg a3]
      obtain ⟨i, rfl⟩ := Int.eq_ofNat_of_zero_le b1
      obtain ⟨j, rfl⟩ := Int.eq_ofNat_of_zero_le b3
      have hi : i < L.nd := by have := HND.out; omega
      have hj : j < M.c.priv.toNat := by omega
      have hjI : (j : Int) < ((M.c.priv.toNat : Nat) : Int) := by omega
      have HE : Hid _ := e1
      have HM : Hid (RefM (w.setCell ⟨L.D i, j, none⟩ (.int .i64 v)) L (fillM M i j v)) := by unfold Hid fillM; rw [if_pos e1, Int.toNat_natCast, Int.toNat_natCast]; exact h.fill i j v hi
      have co : w.cell? ⟨L.go, i, none⟩ = some (.slice (some ⟨L.D i, 0, none⟩) M.c.priv.toNat M.c.priv.toNat) := by rw [h.orow.cell, List.getElem?_map]; simp [hi]
      have ci := cell_of_row (h.oat i hi).2 (i := j) (by rw [(h.oat i hi).1]; exact hj)
      have fi : w.frozen? ⟨L.D i, j, none⟩ = false := (h.oat i hi).2.frozen j
      generalize M.c.priv.toNat = pn at *
      clear e1 hbad
      go_enter Tryz.func58, Tryz.ntmps58
      go_wp2
      go_ret
      exact ⟨ret_int HE.out.symm, HM.out, Touch.setCell _ _ _ _ (Or.inr (Or.inr (Or.inr (Or.inr (Or.inr ⟨i, hi, rfl⟩)))))⟩
end Go.Proofs.YtehheaedbnfidaaGreat
