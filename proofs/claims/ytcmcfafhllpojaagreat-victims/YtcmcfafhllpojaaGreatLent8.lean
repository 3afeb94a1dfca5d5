/-
  The walk of wallslaw's wholeTurns.
-/
import Derived.Test.YtcmcfafhllpojaaGreatLent7
import Derived.Deep.QuietTactic
import Derived.BigQuiet
namespace Go.Proofs.YtcmcfafhllpojaaGreat
open Go.RowKit
attribute [local go_sem] Tryz.nilInts Tryz.nilGrid

theorem LentI.len {w w0 : World} {sa : Option Addr} {len cap : Nat} {xs : List Int} {va : Option Addr} {vl vc g : Nat} (h : LentI w sa xs va vl vc g) (h0 : Ints w0 sa len cap xs) : vl = len := by
  rcases h with ⟨rfl, rfl, rfl, rfl⟩ | ⟨_, _, h3, _, _⟩
  · exact h0.nil.1.symm
  · rw [h3, h0.hlen]

set_option maxRecDepth 100000 in
set_option maxHeartbeats 400000 in
theorem wholeTurns_none (oa : Option Addr) (ol oc : Nat) (ma : Option Addr) (ml mc : Nat) (w : World) :
    Calls Tryz.prog 134 #[.slice oa ol oc, .slice ma ml mc, .slice none 0 0] w fun e w' => e = .returned (.bool true) ∧ w' = w := by
  go_enter Tryz.func134, Tryz.ntmps134
  go_wp2
  go_ret
  exact ⟨rfl, rfl⟩

set_option maxRecDepth 100000 in
set_option maxHeartbeats 2000000 in
theorem wholeTurns_some (w0 w : World) (lo : Nat) (c : Cf) (at0 : Addr) (n tc gt gm : Nat) (T M : List Value) (G : Nat → Nat) (hr : n * 24 ≤ 140737488351232) (hc : CfR c)
    (h0 : Grid w0 (some at0) n tc c.turns) (hlo : w0.heap.size ≤ lo) (hb : Below lo w0 w) (l1 : lo ≤ gt) (l2 : gt < gm) (hg : GSt w0 w (gm + 1) (some at0) c.turns n (n + 8) gt gm T M G) (top : Nat) (htop : ∀ i, i < n + 8 → G i < top) :
    Calls Tryz.prog 134 #[.slice (some ⟨gt, 0, none⟩) n (n + 8), .slice (some ⟨gm, 0, none⟩) n n, .slice (some at0) n tc] w fun e w' => e = .returned (.bool true) ∧ Below lo w w' ∧ Shaped w w' ∧ (∀ j, top ≤ j → w'.heap[j]? = w.heap[j]?) := by
  have HG : Hid _ := hg
  have HT : Hid (c.turns.length = n) := h0.hlen
  have hle := h0.hle
  clear hg
  go_enter Tryz.func134, Tryz.ntmps134
  go_wp2
  go_loopw [9, 10] (fun ok i wr => ∃ k : Nat, k ≤ n + 8 ∧ ok = .bool true ∧ i = .int .i64 k ∧ (∀ j, k ≤ j → j < n + 8 → wr.heap[G j]? = w.heap[G j]?) ∧ wr.heap[gt]? = w.heap[gt]? ∧ wr.heap[gm]? = w.heap[gm]? ∧ Below lo w wr ∧ Shaped w wr ∧ (∀ j, top ≤ j → wr.heap[j]? = w.heap[j]?)) (fun _ i _ => n + 8 - (intOf i).toNat)
  case atStart => exact ⟨0, by omega, rfl, rfl, fun _ _ _ => rfl, rfl, rfl, Below.refl _ _, Shaped.refl _, fun _ _ => rfl⟩
  case round =>
    obtain ⟨k, hk, rfl, rfl, a1, a2, a3, a4, a5, a6⟩ := hrel
    have A1 : Hid _ := a1
    have A2 : Hid _ := a2
    have A3 : Hid _ := a3
    have A4 : Hid _ := a4
    have A5 : Hid _ := a5
    have A6 : Hid _ := a6
    have rT : Row wr gt T 25 := by unfold Row; rw [a2]; exact HG.out.rowT
    have rM : Row wr gm M 25 := by unfold Row; rw [a3]; exact HG.out.rowM
    by_cases hkn : k < n
    · obtain ⟨b, off, ia, il, ic, va, vl, vc, e1, e2, e3, e4⟩ := HG.out.src k (by omega) hkn
      simp only [Option.some.injEq] at e1
      subst e1
      obtain ⟨b', off', ia', il', ic', e5, e6, hiS⟩ := h0.hat k hkn
      simp only [Option.some.injEq, Addr.mk.injEq, and_true] at e5
      obtain ⟨rfl, rfl⟩ := e5
      rw [e2] at e6
      simp only [Option.some.injEq, Value.slice.injEq] at e6
      obtain ⟨rfl, rfl, rfl⟩ := e6
      have z2 : b < w0.heap.size := cell_lt e2
      have bw : Below lo w0 wr := hb.trans a4
      have cS : wr.cell? ⟨b, off + k, none⟩ = some (.slice ia il ic) := by rw [bw.cell (p := ⟨b, off + k, none⟩) (by simp only []; omega)]; exact e2
      have cT : wr.cell? ⟨gt, k, none⟩ = some (.slice va vl vc) := by rw [rT.cell, e3]
      have cM : wr.cell? ⟨gm, k, none⟩ = some (.slice va vl vc) := by rw [rM.cell, HG.out.mt k (by omega) hkn, e3]
      have hiR := hiS.below bw hlo
      have hlR := e4.same (a1 k (Nat.le_refl _) (by omega))
      have rk : il * 8 ≤ 140737488351232 := by
        have := hc.each k (by rw [HT.out]; exact hkn)
        rwa [hiS.hlen] at this
      have hvl := e4.len hiS
      subst hvl
      clear a1 a2 a3 a4 a5 a6
      go_wp2
      go_quiet ((go_at_call 82; exact Calls.quiet_of_same (wholeInts_any _ _ _ (c.turns.getD k []) _ _ _ (G k) _ (hiR.drewN _) rk (by exact hlR))))
      have gk := HG.out.glo k (by omega)
      have hroom : Room (wr.drewN nq) va vl vc (G k) := by exact hlR.room
      have n1 : gt ≠ G k := by omega
      have n2 : gm ≠ G k := by omega
      have n3 : b ≠ G k := by omega
      go_wp2_with fail
      refine (spoilInts_any va vl vc (G k) lo 0 _ rk hroom (by omega)).mono ?_
      rintro e w2 ⟨rfl, p1, p2, p3, p4⟩
      have P1 : Hid _ := p1
      have P2 : Hid _ := p2
      have P3 : Hid _ := p3
      have cS2 : w2.cell? ⟨b, off + k, none⟩ = some (.slice ia vl ic) := by rw [World.cell?_of_block (w := wr.drewN nq) (p3 b (fun _ => n3))]; exact cS
      have cT2 : w2.cell? ⟨gt, k, none⟩ = some (.slice va vl vc) := by rw [World.cell?_of_block (w := wr.drewN nq) (p3 gt (fun _ => n1))]; exact cT
      have cM2 : w2.cell? ⟨gm, k, none⟩ = some (.slice va vl vc) := by rw [World.cell?_of_block (w := wr.drewN nq) (p3 gm (fun _ => n2))]; exact cM
      have hroom2 : Hid (Room w2 va vl vc (G k)) := hroom.shaped p2
      clear p1 p2 p3 hroom
      go_wp2
      go_quiet ((go_at_call 165; exact Calls.quiet_of_same (shows_any _ _ _ _ _ (p4.drewN _))))
      go_wp2_with fail
      refine (spoilInts_any va vl vc (G k) lo (-1) _ rk (by exact hroom2.out) (by omega)).mono ?_
      rintro e w3 ⟨rfl, q1, q2, q3, q4⟩
      have Q1 : Hid _ := q1
      have Q2 : Hid _ := q2
      have Q3 : Hid _ := q3
      have cS3 : w3.cell? ⟨b, off + k, none⟩ = some (.slice ia vl ic) := by rw [World.cell?_of_block (w := w2.drewN _) (q3 b (fun _ => n3))]; exact cS2
      have cT3 : w3.cell? ⟨gt, k, none⟩ = some (.slice va vl vc) := by rw [World.cell?_of_block (w := w2.drewN _) (q3 gt (fun _ => n1))]; exact cT2
      have cM3 : w3.cell? ⟨gm, k, none⟩ = some (.slice va vl vc) := by rw [World.cell?_of_block (w := w2.drewN _) (q3 gm (fun _ => n2))]; exact cM2
      clear q1 q2 q3
      go_wp2
      go_quiet ((go_at_call 165; exact Calls.quiet_of_same (shows_any _ _ _ _ _ (q4.drewN _))))
      go_wp2
      go_roundw
      case rel =>
        refine ⟨k + 1, by omega, rfl, by go_num, ?_, ?_, ?_, ?_, ?_, ?_⟩
        · intro j j1 j2
          have := HG.out.ginc k j (by omega) j2
          exact ((Q3.out _ (fun _ => by omega)).trans (P3.out _ (fun _ => by omega))).trans (A1.out j (by omega) j2)
        · exact ((Q3.out _ (fun _ => n1)).trans (P3.out _ (fun _ => n1))).trans A2.out
        · exact ((Q3.out _ (fun _ => n2)).trans (P3.out _ (fun _ => n2))).trans A3.out
        · exact below_drewN (((below_drewN ((below_drewN A4.out _).trans P1.out) _)).trans Q1.out) _
        · exact Shaped.trans (b := wr) A5.out (Shaped.trans (b := w2) P2.out Q2.out)
        · intro j hj
          have := htop k (by omega)
          exact ((Q3.out _ (fun _ => by omega)).trans (P3.out _ (fun _ => by omega))).trans (A6.out j hj)
      case measure => simp [intOf]; omega
    · by_cases hk8 : k < n + 8
      · obtain ⟨e1, e2⟩ := HG.out.tail k hk8 (by omega)
        have cT : wr.cell? ⟨gt, k, none⟩ = some (.slice (some ⟨G k, 0, none⟩) 1 1) := by rw [rT.cell, e1]
        have r7 : Row wr (G k) [.int .i64 77] 3 := by unfold Row; rw [a1 k (Nat.le_refl _) hk8]; exact e2
        have hi7 : Ints wr (some ⟨G k, 0, none⟩) 1 1 (List.replicate 1 77) := by
          refine ⟨rfl, by omega, by unfold maxLen; omega, (fun h => by cases h), fun i hi => ⟨G k, 0, rfl, ?_⟩⟩
          obtain rfl : i = 0 := by omega
          rw [r7.cell]; rfl
        clear a1 a2 a3 a4 a5 a6 e1 e2
        go_wp2_with fail
        refine (shows_any (some ⟨G k, 0, none⟩) 1 1 77 _ hi7).mono ?_
        rintro e w' ⟨rfl, rfl⟩
        go_wp2
        go_roundw
        case rel => exact ⟨k + 1, by omega, rfl, by go_num, fun j j1 j2 => A1.out j (by omega) j2, A2.out, A3.out, A4.out, A5.out, A6.out⟩
        case measure => simp [intOf]; omega
      · clear a1 a2 a3 a4 a5 a6
        go_wp2
        go_ret
        exact ⟨rfl, A4.out, A5.out, A6.out⟩
end Go.Proofs.YtcmcfafhllpojaaGreat
