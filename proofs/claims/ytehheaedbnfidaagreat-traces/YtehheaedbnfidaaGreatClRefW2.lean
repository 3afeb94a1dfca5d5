/-
  One domain's play: works, where an operation that fails is done.
-/
import Derived.Test.YtehheaedbnfidaaGreatClRefSC
import Derived.Test.YtehheaedbnfidaaGreatClRefSH
import Derived.Test.YtehheaedbnfidaaGreatClRefSE
import Derived.Test.YtehheaedbnfidaaGreatClPackB
import Derived.Deep.DeepCutAuto
import Derived.Deep.RegionHeld3
namespace Go.Proofs.YtehheaedbnfidaaGreat
open Go.RowKit

set_option maxRecDepth 100000 in
set_option maxHeartbeats 6400000 in
theorem rworks_fail (w0 : World) (base B : Nat) (X : SLoc) (L : RLoc) (M : RDat) (S : So) (k : Nat) (t : Int) (w : World) (h : Ctx w0 w base X L M S) (hs : SoOk M.toM X.d S B) (hB : B ≤ 89000) (hk : k < M.c.cores.toNat) (t0 : 0 ≤ t) (t1 : t ≤ 10000)
    (h2 : S.how.getD k 0 = 2) (ht : t = S.began.getD k 0 + 2) :
    Calls Tryz.prog 95 #[.pointer (some ⟨X.gs, 0, none⟩), .int .i64 k, .int .i64 t] w fun e w' => e = .returned (.tuple #[]) ∧ ∃ X', X'.gs = X.gs ∧ X'.d = X.d ∧ Ctx w0 w' base X' L M (S.done k t 0 (faultF M.c (opAt M.toM X.d k S))) := by
  have R := right_of h.ok
  have hkc : (k : Int) < M.c.cores := by have := R.c1; omega
  obtain ⟨pa, hpl, hp64, hpc⟩ := h.prog hk
  have HP := rprogD_any X L M k (.slice pa (progF M.toM X.d k).length (progF M.toM X.d k).length) w h.solo.row h.ref h.gr h.d hkc hpl
  have hz := h.reads (w' := w.drew) ((Below.refl _ _).drew)
  have hkn : k < X.n := by rw [h.n]; exact hk
  have n3 : X.n ≤ 3 := by rw [h.n]; have := R.c2; omega
  have hn0 := hs.nx k hk
  have hw0 := hs.hw k hk
  have hnl : S.next.getD k 0 < (progF M.toM X.d k).length := by rcases hw0 with e | e <;> omega
  have hb0 := hs.bg k hk
  obtain ⟨ni, hni⟩ := Int.eq_ofNat_of_zero_le hn0.1
  have hnl' : ni < (progF M.toM X.d k).length := by omega
  have HNI : Hid (S.next.getD k 0 = (ni : Int)) := hni
  have HOA : Hid (opAt M.toM X.d k S = (progF M.toM X.d k).getD ni (0, 0, 0)) := by unfold Hid opAt; rw [hni, Int.toNat_natCast]
  obtain ⟨pb, hpa, pc0, pc1, pc2⟩ := hpc w.drew hz.below ni hnl'
  have r0 : w.drew.cell? ⟨X.gs, 0, none⟩ = some (.pointer (some ⟨L.gr, 0, none⟩)) := by rw [hz.solo.row.cell, ← h.gr]; rfl
  have r4 : w.drew.cell? ⟨X.gs, 4, none⟩ = some (.slice (some ⟨X.gn, 0, none⟩) X.n X.n) := by rw [hz.solo.row.cell]; rfl
  have r6 : w.drew.cell? ⟨X.gs, 6, none⟩ = some (.slice (some ⟨X.gb, 0, none⟩) X.n X.n) := by rw [hz.solo.row.cell]; rfl
  have r7 : w.drew.cell? ⟨X.gs, 7, none⟩ = some (.slice (some ⟨X.gh, 0, none⟩) X.n X.n) := by rw [hz.solo.row.cell]; rfl
  have e4 : w.drew.cell? ⟨X.gn, k, none⟩ = some (.int .i64 ni) := by rw [← hni]; exact row_int hz.solo.nx (by rw [hz.solo.nl]; exact hkn)
  have e6 := row_int hz.solo.bx (k := k) (by rw [hz.solo.bl]; exact hkn)
  have e7 : w.drew.cell? ⟨X.gh, k, none⟩ = some (.int .i64 2) := by rw [← h2]; exact row_int hz.solo.hx (by rw [hz.solo.hl]; exact hkn)
  have mr := row_q hz.ref.row
  have lr := hz.ref.row.lt
  have lg := hz.solo.row.lt
  have lpb : pb < w.heap.size := cell_lt pc0
  obtain ⟨_, _, _, _, _, _, pl0, pv1, pv2, sh0, sh1⟩ := shape_bounds (chk_zero h.ok).1
  have pv0 : 0 ≤ M.c.priv := by omega
  clear pl0
  have HFA := fun (o : OpT) (W : World) => rfault_any M.c M.s o W pv0 pv2 sh0 sh1
  have HFL : Hid _ := HFA
  have HRX : Hid (∀ W, Below w.heap.size w W → Ctx w0 W base X L M S) := fun W hW => h.reads hW
  have EB : Hid (S.evs.length ≤ 89000) := by have := hs.eb; unfold Hid; omega
  have HNX : Hid (0 ≤ S.next.getD k 0 ∧ S.next.getD k 0 ≤ 64) := ⟨hn0.1, by omega⟩
  subst hpa
  generalize hop : (progF M.toM X.d k).getD ni (0, 0, 0) = op at *
  obtain ⟨okd, oad, ovl⟩ := op
  dsimp only at pc0 pc1 pc2
  have HFS : Hid (faultF M.c (opAt M.toM X.d k S) = faultF M.c (okd, oad, ovl)) := by unfold Hid; rw [HOA.out]
  generalize S.began.getD k 0 = bv at *
  generalize (progF M.toM X.d k).length = pl at *
  have hb1 : IntKind.i64.wrap (bv + 3) = bv + 3 := by rw [IntKind.wrap_i64]; omega
  have hb2 : IntKind.i64.wrap (bv + 3 - 1) = bv + 2 := by rw [IntKind.wrap_i64]; omega
  have hni0 : (0 : Int) ≤ (ni : Int) := by omega
  have hni1 : (ni : Int) < (pl : Int) := by omega
  subst ht
  clear h hs hz hpl hpc R hni hop hnl hn0 hw0 HFA h2
  go_enter Tryz.func95, Tryz.ntmps95
  go_wp2_with fail
  refine HP.mono ?_; rintro e w1 ⟨rfl, rfl⟩
  clear HP
  go_wp2_with fail
  go_region_with (go_at_call 131; refine (HFL.out (okd, oad, ovl) _).mono ?_; rintro e w2 ⟨rfl, hb3⟩)
  all_goals
    have hbw : Below w.heap.size w w2 := below_step (((Below.refl _ _).drew).drew) hb3 rfl
    have hx2 := HRX.out w2 hbw
    have HX2 : Hid _ := hx2
    clear r0 r4 r6 r7 e4 e6 e7 mr hb3 hbw pc0 pc1 pc2 hx2
    go_wp2_with fail
    refine (rdone_any base X S k (bv + 2) 0 (faultF M.c (okd, oad, ovl)) _ HX2.out.solo hkn n3 (by have := EB.out; omega) HNX.out.1 (by have := HNX.out.2; omega) t0 (by omega)).mono ?_; rintro e w3 ⟨rfl, ea1, ec1, hS4, hB4, hK4⟩
    have HF : Hid _ := HX2.out.writes hS4 hB4 rfl rfl rfl
    clear hS4 hB4 hK4
    go_wp2_with fail
    refine bodyPost_ret (results_none rfl _ _ _) rfl ⟨rfl, _, ?_, ?_, by rw [HFS.out]; exact HF.out⟩ <;> rfl
end Go.Proofs.YtehheaedbnfidaaGreat
