/-
  One domain's play: opens.
-/
import Derived.Test.YtehheaedbnfidaaGreatClRefS9
import Derived.Test.YtehheaedbnfidaaGreatClPackB
import Derived.Test.YtehheaedbnfidaaGreatClRefT2
namespace Go.Proofs.YtehheaedbnfidaaGreat
open Go.RowKit

/-- A play, the machine that it plays, and its configuration, in memory. -/
structure Ctx (w0 w : World) (base : Nat) (X : SLoc) (L : RLoc) (M : RDat) (S : So) : Prop where
  solo : SoloM w base X S
  below : Below base w0 w
  keep : ∀ w', Below base w0 w' → RefM w' L M ∧ CfgAt w' M.c M.s
  gr : X.gr = L.gr
  d : X.d < L.nd
  n : X.n = M.c.cores.toNat

theorem Ctx.base_le {w0 w : World} {base : Nat} {X : SLoc} {L : RLoc} {M : RDat} {S : So} (h : Ctx w0 w base X L M S) : base ≤ w.heap.size := by
  have := h.solo.bs
  have := h.solo.row.lt
  omega
theorem Ctx.ref {w0 w : World} {base : Nat} {X : SLoc} {L : RLoc} {M : RDat} {S : So} (h : Ctx w0 w base X L M S) : RefM w L M := (h.keep w h.below).1
theorem Ctx.cfg {w0 w : World} {base : Nat} {X : SLoc} {L : RLoc} {M : RDat} {S : So} (h : Ctx w0 w base X L M S) : CfgAt w M.c M.s := (h.keep w h.below).2
theorem Ctx.ok {w0 w : World} {base : Nat} {X : SLoc} {L : RLoc} {M : RDat} {S : So} (h : Ctx w0 w base X L M S) : chk M.c = 0 := h.ref.right
theorem Ctx.sor {w0 w : World} {base : Nat} {X : SLoc} {L : RLoc} {M : RDat} {S : So} (h : Ctx w0 w base X L M S) : SoR w X M.c M.s L M.T :=
  ⟨h.solo.row, by rw [h.gr]; exact h.ref.row, h.ok⟩
theorem Ctx.reads {w0 w w' : World} {base : Nat} {X : SLoc} {L : RLoc} {M : RDat} {S : So} (h : Ctx w0 w base X L M S) (hb : Below w.heap.size w w') : Ctx w0 w' base X L M S :=
  ⟨h.solo.below hb (Nat.le_refl _), h.below.trans (hb.mono h.base_le), h.keep, h.gr, h.d, h.n⟩
theorem Ctx.writes {w0 w w' : World} {base : Nat} {X X' : SLoc} {L : RLoc} {M : RDat} {S S' : So} (h : Ctx w0 w base X L M S) (hs : SoloM w' base X' S') (hb : Below base w w') (h1 : X'.gr = X.gr) (h2 : X'.d = X.d) (h3 : X'.n = X.n) : Ctx w0 w' base X' L M S' :=
  ⟨hs, h.below.trans hb, h.keep, by rw [h1]; exact h.gr, by rw [h2]; exact h.d, by rw [h3]; exact h.n⟩

set_option maxRecDepth 100000 in
set_option maxHeartbeats 3200000 in
theorem ropens_any (w0 : World) (base : Nat) (X : SLoc) (L : RLoc) (M : RDat) (S : So) (k : Nat) (t : Int) (w : World) (h : Ctx w0 w base X L M S) (hk : k < M.c.cores.toNat) (t0 : 0 ≤ t) (t1 : t ≤ 20000) :
    Calls Tryz.prog 125 #[.pointer (some ⟨X.gs, 0, none⟩), .int .i64 k, .int .i64 t] w fun e w' => e = .returned (.int .i64 (opensZ M.c k X.d t)) ∧ Below w.heap.size w w' := by
  have R := right_of h.ok
  have hrow := grid_row R (i := k) (by have := R.tl; omega)
  have hg := h.cfg.turns
  obtain ⟨tb, toff, ia, il, ic, hta, hc, hints⟩ := hg.hat k (by have := hg.hlen; have := R.tl; omega)
  have hlen := hints.hlen
  have HZ : Hid (opensZ M.c k X.d t = opensF M.c k X.d (il + 1) t) := by unfold Hid opensZ rowOf; rw [hlen]
  have il4 : il ≤ 4 := by omega
  have HR : Hid _ := R
  have q1 := R.q1
  have q2 := R.q2
  have w0' := R.w0
  have f1 := R.f1
  have y1 : 0 < M.c.quantum := by omega
  have y0 : ¬ M.c.quantum = 0 := by omega
  have c0 : w.cell? ⟨X.gs, 0, none⟩ = some (.pointer (some ⟨L.gr, 0, none⟩)) := by rw [h.solo.row.cell, ← h.gr]; rfl
  have m10 : w.cell? ⟨L.gr, 10, none⟩ = some (.slice M.s.ta M.s.tl M.s.tc) := by rw [h.ref.row.cell]; rfl
  have HIL : Hid _ := hlen
  have hk2 : (k : Int) < M.c.cores := by have := R.c1; omega
  have tll : k < M.s.tl := by have := hg.hlen; have := R.tl; omega
  have tlm : M.s.tl ≤ 3 := by have := hg.hlen; have := R.tl; have := R.c2; omega
  have tle := hg.hle
  clear hlen hrow hg
  obtain ⟨mc, ms, mpr, mow, mcm, mT⟩ := M
  obtain ⟨wa, wl, wc, sa, sl, sc, ta, tl, tcp⟩ := ms
  dsimp only at *
  subst hta
  go_enter Tryz.func125, Tryz.ntmps125
  go_wp2_with fail
  go_loopw [7, 8] (fun u i wr => ∃ (j : Nat) (v : Int), j ≤ il + 1 ∧ i = .int .i64 j ∧ u = .int .i64 v ∧ 0 ≤ v ∧ v ≤ 20000 + 2000 * (j : Int) ∧ opensF mc k X.d (il + 1) t = opensF mc k X.d (il + 1 - j) v ∧ Below w.heap.size w wr) (fun _ i _ => (il + 1 - intOf i).toNat)
  case atStart => exact ⟨0, t, by omega, rfl, rfl, t0, by omega, by simp, Below.refl _ _⟩
  case round =>
    obtain ⟨j, v, hj, rfl, rfl, v0, v1, hf, hb⟩ := hrel
    have HF : Hid _ := hf
    have hx := h.reads hb
    have cr0 : wr.cell? ⟨X.gs, 0, none⟩ = some (.pointer (some ⟨L.gr, 0, none⟩)) := by rw [hx.solo.row.cell, ← hx.gr]; rfl
    have cr1 : wr.cell? ⟨X.gs, 1, none⟩ = some (.int .i64 X.d) := by rw [hx.solo.row.cell]; rfl
    have mr := row_q hx.ref.row
    have tc : wr.cell? ⟨tb, toff + k, none⟩ = some (.slice ia il ic) := by
      rw [hb.cell (p := ⟨tb, toff + k, none⟩) (cell_lt hc)]; exact hc
    clear hf
    have mr10 := mr 10
    have mr11 := mr 11
    simp only [List.size_toArray, List.length_cons, List.length_nil, Nat.reduceAdd, Nat.reduceLT, getElem?_pos, List.getElem_toArray, List.getElem_cons_succ, List.getElem_cons_zero] at mr10 mr11
    by_cases hlt : (j : Int) ≤ (il : Int)
    · have HU : Hid (opensF mc k X.d (il + 1 - j) v = if openB mc k X.d v = true then v else opensF mc k X.d (il + 1 - (j + 1)) ((v / mc.quantum + 1) * mc.quantum)) := by
        unfold Hid
        rw [show il + 1 - j = (il + 1 - (j + 1)) + 1 by omega, opensF]
      have HO := ropen_any mc ⟨wa, wl, wc, sa, sl, sc, some ⟨tb, toff, none⟩, tl, tcp⟩ k X.d v
      cases ho : openB mc k X.d v with
      | true =>
        rw [ho] at HO
        go_wp2_with fail
        go_region_with (go_at_call 81; refine (HO _ hx.cfg.drew HR.out hk2 v0 (by omega)).mono ?_; rintro e w1 ⟨rfl, hb1⟩; have hb2 := below_step hb.drew hb1 rfl)
        all_goals go_wp2
        all_goals go_ret
        all_goals exact ⟨ret_int (by rw [HZ.out, HF.out, HU.out, if_pos ho]), hb2⟩
      | false =>
        rw [ho] at HO
        have e1 := Int.mul_ediv_add_emod v mc.quantum
        have s0 := Int.emod_nonneg v (show mc.quantum ≠ 0 by omega)
        rw [Int.mul_comm] at e1
        have z0 : 0 ≤ v / mc.quantum := Int.ediv_nonneg v0 (by omega)
        have z1 : v / mc.quantum ≤ v := Int.ediv_le_self _ v0
        have z2 : 0 ≤ v / mc.quantum * mc.quantum := Int.mul_nonneg z0 (by omega)
        have z3 : (v / mc.quantum + 1) * mc.quantum = v / mc.quantum * mc.quantum + mc.quantum := by rw [Int.add_mul, Int.one_mul]
        have b0 : 0 ≤ (v / mc.quantum + 1) * mc.quantum := by omega
        have b1 : (v / mc.quantum + 1) * mc.quantum ≤ v + 2000 := by omega
        have hw1 : IntKind.i64.wrap (v / mc.quantum + 1) = v / mc.quantum + 1 := by rw [IntKind.wrap_i64]; omega
        have hw2 : IntKind.i64.wrap ((v / mc.quantum + 1) * mc.quantum) = (v / mc.quantum + 1) * mc.quantum := by rw [IntKind.wrap_i64]; omega
        clear e1 s0 z2 z3
        go_wp2_with fail
        go_region_with (go_at_call 81; refine (HO _ hx.cfg.drew HR.out hk2 v0 (by omega)).mono ?_; rintro e w1 ⟨rfl, hb1⟩; have hb2 := below_step hb.drew hb1 rfl)
        all_goals
          have hx2 := h.reads hb2
          have cs0 : w1.cell? ⟨X.gs, 0, none⟩ = some (.pointer (some ⟨L.gr, 0, none⟩)) := by rw [hx2.solo.row.cell, ← hx2.gr]; rfl
          have ms11 : w1.cell? ⟨L.gr, 11, none⟩ = some (.int .i64 mc.quantum) := by rw [hx2.ref.row.cell]; rfl
          clear cr0 cr1 mr tc mr10 mr11
        all_goals
          go_wp2_with fail
          go_quiet (fail)
          go_wp2
          go_roundw
          case rel => exact ⟨j + 1, (v / mc.quantum + 1) * mc.quantum, by omega, by go_num, by first | rfl | go_num, by omega, by omega, by rw [HF.out, HU.out, if_neg (by rw [ho]; simp)], below_drewN hb2 _⟩
          case measure => simp [intOf]; omega
    · have ej : il + 1 - j = 0 := by omega
      go_wp2
      go_ret
      exact ⟨ret_int (by rw [HZ.out, HF.out, ej]; rfl), hb⟩
end Go.Proofs.YtehheaedbnfidaaGreat
