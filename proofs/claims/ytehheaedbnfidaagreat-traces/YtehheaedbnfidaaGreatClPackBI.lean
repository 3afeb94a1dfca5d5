/-
  PairD, RefG
-/
import Derived.Test.YtehheaedbnfidaaGreatClPackBG
import Derived.Test.YtehheaedbnfidaaGreatClPackQ
import Derived.Test.YtehheaedbnfidaaGreatClPackB
import Derived.Test.YtehheaedbnfidaaGreatClPackBH
namespace Go.Proofs.YtehheaedbnfidaaGreat
open Go.RowKit

def opsR (M : RDat) (d k : Nat) : List OpT := if d < M.c.domains.toNat ∧ k < M.c.cores.toNat then M.pr (d * M.c.cores.toNat + k) else []
def ownR (M : RDat) (d a : Nat) : Int := (M.ow d).getD a 0
def shR (M : RDat) (a : Nat) : Int := M.cm.getD a 0
/-- What the reference's machine was given, as the model has it. -/
def datR (M : RDat) : MDat := ⟨M.c, M.pr, M.ow, M.cm⟩

structure PairD (M : RDat) (m : Mh) : Prop where
  run : m = Mh.runs (cnOf M.c) M.T.toNat (mkM (opsR M) (ownR M) (shR M))
  ops : ∀ i, opsOk (M.pr i) = true

theorem opsOk_kin {os : List OpT} (h : opsOk os = true) : os.length ≤ 64 ∧ ∀ o ∈ os, o.1 = 0 ∨ o.1 = 1 := by
  unfold opsOk at h
  simp only [Bool.and_eq_true, decide_eq_true_eq, List.all_eq_true] at h
  refine ⟨h.1, fun o ho => ?_⟩
  have := h.2 o ho
  unfold kindB at this
  simp only [Bool.or_eq_true, beq_iff_eq] at this
  exact this
theorem PairD.kin {M : RDat} {m : Mh} (h : PairD M m) (d k : Nat) : (opsR M d k).length ≤ 64 ∧ ∀ o ∈ opsR M d k, o.1 = 0 ∨ o.1 = 1 := by
  unfold opsR
  split
  · exact opsOk_kin (h.ops _)
  · exact ⟨by simp, fun o ho => by simp at ho⟩
theorem PairD.ok {M : RDat} {m : Mh} (h : PairD M m) (hz : chk M.c = 0) (hT : 0 ≤ M.T) : MhOk (cnOf M.c) m ∧ m.now = M.T := by
  have := MhOk.runs (N := cnOf M.c) ⟨rfl, hz⟩ (mkM_ok (cnOf M.c) (ownR M) (shR M) (fun d k => (h.kin d k).1) (fun d k => (h.kin d k).2)) (by show (0 : Int) ≤ 0; omega) M.T.toNat
  rw [← h.run] at this
  refine ⟨this.1, this.2.trans ?_⟩
  show (0 : Int) + M.T.toNat = M.T
  omega
theorem PairD.now0 {M : RDat} {m : Mh} (h : PairD M m) (hz : chk M.c = 0) (hT : 0 ≤ M.T) : (Mh.runs (cnOf M.c) M.T.toNat (mkM (opsR M) (ownR M) (shR M))).now = (M.T.toNat : Int) := by
  rw [← h.run, (h.ok hz hT).2]
  omega

theorem PairD.fresh (c : Cf) (s : Sl) : PairD ⟨c, s, fun _ => [], fun _ => List.replicate c.priv.toNat 0, List.replicate c.shared.toNat 0, 0⟩ (mkM (fun _ _ => []) (fun _ _ => 0) (fun _ => 0)) := by
  refine ⟨?_, fun i => rfl⟩
  have e1 : opsR ⟨c, s, fun _ => [], fun _ => List.replicate c.priv.toNat 0, List.replicate c.shared.toNat 0, 0⟩ = fun _ _ => [] := by
    funext d k
    unfold opsR
    split <;> rfl
  have z : ∀ n a : Nat, (List.replicate n (0 : Int)).getD a 0 = 0 := fun n a => by
    rw [List.getD_eq_getElem?_getD, List.getElem?_replicate]
    split <;> rfl
  have e2 : ownR ⟨c, s, fun _ => [], fun _ => List.replicate c.priv.toNat 0, List.replicate c.shared.toNat 0, 0⟩ = fun _ _ => 0 := by
    funext d a
    exact z _ _
  have e3 : shR ⟨c, s, fun _ => [], fun _ => List.replicate c.priv.toNat 0, List.replicate c.shared.toNat 0, 0⟩ = fun _ => 0 := by
    funext a
    exact z _ _
  rw [e1, e2, e3]
  rfl

def giveE (M : RDat) (d k : Int) (os : List OpT) : Int := if d < 0 ∨ M.c.domains ≤ d ∨ k < 0 ∨ M.c.cores ≤ k then 6 else if 0 < M.T then 7 else if opsOk os = true then 0 else 8
def giveM (M : RDat) (d k : Int) (os : List OpT) : RDat := if giveE M d k os = 0 then { M with pr := fun i => if i = d.toNat * M.c.cores.toNat + k.toNat then os else M.pr i } else M

theorem at_mul {n d k e j : Nat} (hk : k < n) (hj : j < n) (h : d * n + k = e * n + j) : d = e ∧ k = j := by
  have h0 : 0 < n := by omega
  have q1 : (d * n + k) / n = d := by rw [Nat.mul_comm, Nat.mul_add_div h0, Nat.div_eq_of_lt hk, Nat.add_zero]
  have q2 : (e * n + j) / n = e := by rw [Nat.mul_comm, Nat.mul_add_div h0, Nat.div_eq_of_lt hj, Nat.add_zero]
  rw [h, q2] at q1
  subst q1
  exact ⟨rfl, by omega⟩

theorem PairD.give {M : RDat} {m : Mh} (h : PairD M m) (hz : chk M.c = 0) (hT : 0 ≤ M.T) (d k : Int) (os : List OpT) : giveME (cnOf M.c) m d k os = giveE M d k os ∧ PairD (giveM M d k os) (giveMM (cnOf M.c) m d k os) := by
  have hn := (h.ok hz hT).2
  have e1 : giveME (cnOf M.c) m d k os = giveE M d k os := by
    unfold giveME giveE
    rw [hn]
    rfl
  refine ⟨e1, ?_⟩
  unfold giveM
  have hg := give_mk (cnOf M.c) (opsR M) (ownR M) (shR M) M.T.toNat (h.now0 hz hT) d k os
  rw [← h.run, e1] at hg
  rw [hg]
  by_cases q : giveE M d k os = 0
  · rw [if_pos q, if_pos q]
    have hd : 0 ≤ d ∧ d < M.c.domains ∧ 0 ≤ k ∧ k < M.c.cores ∧ opsOk os = true := by
      unfold giveE at q
      split at q
      · omega
      · split at q
        · omega
        · split at q
          · next q2 => exact ⟨by omega, by omega, by omega, by omega, q2⟩
          · omega
    refine ⟨?_, fun i => ?_⟩
    · have : opsR { M with pr := fun i => if i = d.toNat * M.c.cores.toNat + k.toNat then os else M.pr i } = up2 (opsR M) d.toNat k.toNat os := by
        funext a b
        unfold opsR up2
        simp only
        by_cases r : a < M.c.domains.toNat ∧ b < M.c.cores.toNat
        · rw [if_pos r, if_pos r]
          by_cases s : a = d.toNat ∧ b = k.toNat
          · rw [if_pos s, if_pos (by rw [s.1, s.2])]
          · rw [if_neg s, if_neg (fun e => s (at_mul r.2 (by omega) e))]
        · rw [if_neg r, if_neg r, if_neg (fun s => r ⟨by omega, by omega⟩)]
      rw [this]
      rfl
    · show opsOk (if i = d.toNat * M.c.cores.toNat + k.toNat then os else M.pr i) = true
      split
      · exact hd.2.2.2.2
      · exact h.ops i
  · rw [if_neg q, if_neg q]
    exact h

theorem getD_setR {xs : List Int} {a b : Nat} {v : Int} (ha : a < xs.length) : (xs.set a v).getD b 0 = if b = a then v else xs.getD b 0 := by
  rw [List.getD_eq_getElem?_getD, List.getD_eq_getElem?_getD, List.getElem?_set]
  by_cases q : a = b
  · subst q
    simp [ha]
  · rw [if_neg q, if_neg (fun e => q e.symm)]

theorem PairD.fill {M : RDat} {m : Mh} (h : PairD M m) (hz : chk M.c = 0) (hT : 0 ≤ M.T) (hl : ∀ d, d < M.c.domains.toNat → (M.ow d).length = M.c.priv.toNat) (d a v : Int) : fillME (cnOf M.c) m d a = fillE M d a ∧ PairD (fillM M d a v) (fillMM (cnOf M.c) m d a v) := by
  have hn := (h.ok hz hT).2
  have e1 : fillME (cnOf M.c) m d a = fillE M d a := by
    unfold fillME fillE
    rw [hn]
    rfl
  refine ⟨e1, ?_⟩
  unfold fillM
  have hg := fill_mk (cnOf M.c) (opsR M) (ownR M) (shR M) M.T.toNat (h.now0 hz hT) d a v
  rw [← h.run, e1] at hg
  rw [hg]
  by_cases q : fillE M d a = 0
  · rw [if_pos q, if_pos q]
    have hd : 0 ≤ d ∧ d < M.c.domains ∧ 0 ≤ a ∧ a < M.c.priv := by
      unfold fillE at q
      split at q
      · omega
      · omega
    refine ⟨?_, h.ops⟩
    have : ownR { M with ow := fun e => if e = d.toNat then (M.ow d.toNat).set a.toNat v else M.ow e } = up1 (ownR M) d.toNat (up1 (ownR M d.toNat) a.toNat v) := by
      funext e b
      unfold ownR up1
      simp only
      by_cases r : e = d.toNat
      · rw [if_pos r, if_pos r, getD_setR (by rw [hl _ (by omega)]; omega)]
      · rw [if_neg r, if_neg r]
    rw [this]
    rfl
  · rw [if_neg q, if_neg q]
    exact h

theorem PairD.share {M : RDat} {m : Mh} (h : PairD M m) (hz : chk M.c = 0) (hT : 0 ≤ M.T) (hl : M.cm.length = M.c.shared.toNat) (a v : Int) : shareME (cnOf M.c) m a = shareE M a ∧ PairD (shareM M a v) (shareMM (cnOf M.c) m a v) := by
  have hn := (h.ok hz hT).2
  have e1 : shareME (cnOf M.c) m a = shareE M a := by
    unfold shareME shareE
    rw [hn]
    rfl
  refine ⟨e1, ?_⟩
  unfold shareM
  have hg := share_mk (cnOf M.c) (opsR M) (ownR M) (shR M) M.T.toNat (h.now0 hz hT) a v
  rw [← h.run, e1] at hg
  rw [hg]
  by_cases q : shareE M a = 0
  · rw [if_pos q, if_pos q]
    have hd : 0 ≤ a ∧ a < M.c.shared := by
      unfold shareE at q
      split at q
      · omega
      · omega
    refine ⟨?_, h.ops⟩
    have : shR { M with cm := M.cm.set a.toNat v } = up1 (shR M) a.toNat v := by
      funext b
      unfold shR up1
      simp only
      rw [getD_setR (by rw [hl]; omega)]
    rw [this]
    rfl
  · rw [if_neg q, if_neg q]
    exact h

theorem PairD.runs {M : RDat} {m : Mh} (h : PairD M m) (hz : chk M.c = 0) (hT : 0 ≤ M.T) (n : Int) : runME m n = runE M n ∧ PairD { M with T := runT M n } (runMM (cnOf M.c) m n) := by
  have hn := (h.ok hz hT).2
  have e1 : runME m n = runE M n := by
    unfold runME runE
    rw [hn]
  refine ⟨e1, ?_⟩
  have hg := run_mk (cnOf M.c) (opsR M) (ownR M) (shR M) M.T.toNat n
  rw [← h.run, e1] at hg
  rw [hg]
  by_cases q : runE M n = 0
  · rw [if_pos q]
    refine ⟨?_, h.ops⟩
    have hn0 : 0 ≤ n ∧ runT M n = M.T + n := by
      unfold runE at q
      unfold runT
      split at q
      · omega
      · split at q
        · omega
        · next q1 q2 => exact ⟨by omega, by rw [if_neg q1, if_neg q2]⟩
    show Mh.runs (cnOf M.c) (M.T.toNat + n.toNat) (mkM (opsR M) (ownR M) (shR M)) = Mh.runs (cnOf M.c) (runT M n).toNat (mkM (opsR M) (ownR M) (shR M))
    rw [hn0.2, show (M.T + n).toNat = M.T.toNat + n.toNat by omega]
  · rw [if_neg q]
    refine ⟨?_, h.ops⟩
    have : runT M n = M.T := by
      unfold runE at q
      unfold runT
      split
      · rfl
      · split
        · rfl
        · next q1 q2 => rw [if_neg q1, if_neg q2] at q; exact absurd rfl q
    show m = Mh.runs (cnOf M.c) (runT M n).toNat (mkM (opsR M) (ownR M) (shR M))
    rw [this]
    exact h.run
end Go.Proofs.YtehheaedbnfidaaGreat

namespace Go.Proofs.YtehheaedbnfidaaGreat
open Go.RowKit

def RLoc.gives (L : RLoc) (i g n : Nat) : RLoc := { L with G := fun j => if j = i then g else L.G j, PL := L.PL.set i (.slice (some ⟨g, 0, none⟩) n n) }

theorem RefM.give {w : World} {L : RLoc} {M : RDat} (h : RefM w L M) (i : Nat) (os : List OpT) (hi : i < L.np) (h64 : os.length ≤ 64) (hlt : ∀ b, L.own b → b < w.heap.size) :
    RefM ((w.alloc (.cells (opsL os).toArray 69)).setCell ⟨L.gp, i, none⟩ (.slice (some ⟨w.heap.size, 0, none⟩) os.length os.length)) (L.gives i w.heap.size os.length) { M with pr := fun j => if j = i then os else M.pr j }
    ∧ Touch L.own w ((w.alloc (.cells (opsL os).toArray 69)).setCell ⟨L.gp, i, none⟩ (.slice (some ⟨w.heap.size, 0, none⟩) os.length os.length))
    ∧ (∀ b, b < w.heap.size → (L.gives i w.heap.size os.length).own b → L.own b) ∧ ∀ b, (L.gives i w.heap.size os.length).own b → b < w.heap.size + 1 := by
  have hbA : Below w.heap.size w (w.alloc (.cells (opsL os).toArray 69)) := (Below.refl _ _).alloc (Nat.le_refl _) _
  have n1 : ∀ {g A t}, Row w g A t → t ≠ 28 → Row ((w.alloc (.cells (opsL os).toArray 69)).setCell ⟨L.gp, i, none⟩ (.slice (some ⟨w.heap.size, 0, none⟩) os.length os.length)) g A t := fun hr ht =>
    (hr.alloc _).setCellOther _ _ (fun e => by subst e; exact ht (row_type hr h.prow))
  have hgp : L.gp < w.heap.size := hlt _ (Or.inr (Or.inl rfl))
  refine ⟨⟨n1 h.row (by decide), h.np, h.nd, h.ns, (h.prow.alloc _).setCell i _, by show (L.PL.set i _).length = L.np; rw [List.length_set]; exact h.plen, fun j hj => ?_, n1 h.orow (by decide), fun d hd => ⟨(h.oat d hd).1, n1 (h.oat d hd).2 (by decide)⟩, h.odis, n1 h.crow (by decide), h.clen, h.cdis, h.right, h.T0, h.T1, fun j hj => ?_⟩, ?_, fun b hb ho => ?_, fun b ho => ?_⟩
  · by_cases e : j = i
    · subst e
      right
      simp only [RLoc.gives, if_true]
      refine ⟨by rw [List.getElem?_set_self (by rw [h.plen]; exact hi)], ?_⟩
      have : Row (w.alloc (.cells (opsL os).toArray 69)) w.heap.size (opsL os) 69 := heap_alloc_new w _
      exact this.setCellOther _ _ (by omega)
    · simp only [RLoc.gives, e, if_false]
      rw [List.getElem?_set_ne (fun q => e q.symm)]
      rcases h.pat j hj with h1 | ⟨h1, h2⟩
      · exact Or.inl h1
      · exact Or.inr ⟨h1, n1 h2 (by decide)⟩
  · show (if j = i then os else M.pr j).length ≤ 64
    split
    · exact h64
    · exact h.pmax j hj
  · exact (Touch.of_below hbA (Nat.le_refl _)).trans (Touch.setCell _ _ _ _ (Or.inr (Or.inl rfl)))
  · rcases ho with q | q | q | q | ⟨j, hj, q⟩ | q
    · exact Or.inl q
    · exact Or.inr (Or.inl q)
    · exact Or.inr (Or.inr (Or.inl q))
    · exact Or.inr (Or.inr (Or.inr (Or.inl q)))
    · have q' : b = if j = i then w.heap.size else L.G j := q
      by_cases e : j = i
      · rw [if_pos e] at q'; omega
      · rw [if_neg e] at q'
        exact Or.inr (Or.inr (Or.inr (Or.inr (Or.inl ⟨j, hj, q'⟩))))
    · exact Or.inr (Or.inr (Or.inr (Or.inr (Or.inr q))))
  · have own_lt : ∀ b, L.own b → b < w.heap.size + 1 := fun b hb => by have := hlt b hb; omega
    rcases ho with q | q | q | q | ⟨j, hj, q⟩ | q
    · exact own_lt b (Or.inl q)
    · exact own_lt b (Or.inr (Or.inl q))
    · exact own_lt b (Or.inr (Or.inr (Or.inl q)))
    · exact own_lt b (Or.inr (Or.inr (Or.inr (Or.inl q))))
    · have q' : b = if j = i then w.heap.size else L.G j := q
      by_cases e : j = i
      · rw [if_pos e] at q'; omega
      · rw [if_neg e] at q'
        exact own_lt b (Or.inr (Or.inr (Or.inr (Or.inr (Or.inl ⟨j, hj, q'⟩)))))
    · exact own_lt b (Or.inr (Or.inr (Or.inr (Or.inr (Or.inr q)))))

set_option maxRecDepth 100000 in
set_option maxHeartbeats 3200000 in
theorem rGive_any (L : RLoc) (M : RDat) (d k : Int) (sa : Option Addr) (len cap : Nat) (os : List OpT) (w : World) (h : RefM w L M) (hlt : ∀ b, L.own b → b < w.heap.size) (hO : OpsAt w sa len cap os) :
    Calls Tryz.prog 54 #[.pointer (some ⟨L.gr, 0, none⟩), .int .i64 d, .int .i64 k, .slice sa len cap] w fun e w' => e = .returned (.int .i64 (giveE M d k os)) ∧ ∃ L', L'.gr = L.gr ∧ RefM w' L' (giveM M d k os) ∧ Touch L.own w w' ∧ (∀ b, b < w.heap.size → L'.own b → L.own b) ∧ ∀ b, L'.own b → b < w'.heap.size := by
  have HLT0 : Hid _ := hlt
  obtain ⟨i0, hi0, hz0, hz1, hz2⟩ := info_parts Tryz.infoOp
  have T0 := h.T0
  have c0 : w.cell? ⟨L.gr, 0, none⟩ = some (.int .i64 M.c.cores) := by rw [h.row.cell]; rfl
  have c1 : w.cell? ⟨L.gr, 1, none⟩ = some (.int .i64 M.c.domains) := by rw [h.row.cell]; rfl
  have c13 : w.cell? ⟨L.gr, 13, none⟩ = some (.slice (some ⟨L.gp, 0, none⟩) L.np L.np) := by rw [h.row.cell]; rfl
  have c16 : w.cell? ⟨L.gr, 16, none⟩ = some (.int .i64 M.T) := by rw [h.row.cell]; rfl
  have sb := (shape_bounds (chk_zero h.right).1)
  have sb1 : M.c.domains ≤ 4 := by omega
  have sb2 : M.c.cores ≤ 3 := by omega
  have sb3 : 1 ≤ M.c.cores := by omega
  have hle := hO.hle
  have hmx := hO.hmax
  unfold maxLen at hmx
  have lgr := h.row.lt
  clear sb
  by_cases hbad : d < 0 ∨ M.c.domains ≤ d ∨ k < 0 ∨ M.c.cores ≤ k
  · have e1 : giveE M d k os = 6 := by unfold giveE; rw [if_pos hbad]
    have HE : Hid _ := e1
    have HM : Hid (RefM w L (giveM M d k os)) := by unfold Hid giveM; rw [if_neg (by rw [e1]; decide)]; exact h
    have cases : d < 0 ∨ (0 ≤ d ∧ M.c.domains ≤ d) ∨ (0 ≤ d ∧ d < M.c.domains ∧ k < 0) ∨ (0 ≤ d ∧ d < M.c.domains ∧ 0 ≤ k ∧ M.c.cores ≤ k) := by omega
    clear e1 hbad h hO hlt
    rcases cases with b1 | ⟨b1, b2⟩ | ⟨b1, b2, b3⟩ | ⟨b1, b2, b3, b4⟩
    all_goals
      go_enter Tryz.func54, Tryz.ntmps54
      go_wp2
      go_ret
      exact ⟨ret_int HE.out.symm, L, rfl, HM.out, Touch.refl _ _, fun _ _ q => q, HLT0.out⟩
  · have b1 : 0 ≤ d := by omega
    have b2 : d < M.c.domains := by omega
    have b3 : 0 ≤ k := by omega
    have b4 : k < M.c.cores := by omega
    by_cases a3 : 0 < M.T
    · have e1 : giveE M d k os = 7 := by unfold giveE; rw [if_neg hbad, if_pos a3]
      have HE : Hid _ := e1
      have HM : Hid (RefM w L (giveM M d k os)) := by unfold Hid giveM; rw [if_neg (by rw [e1]; decide)]; exact h
      clear e1 hbad h hO hlt
      go_enter Tryz.func54, Tryz.ntmps54
      go_wp2
      go_ret
      exact ⟨ret_int HE.out.symm, L, rfl, HM.out, Touch.refl _ _, fun _ _ q => q, HLT0.out⟩
    · obtain ⟨i, rfl⟩ := Int.eq_ofNat_of_zero_le b1
      obtain ⟨j, rfl⟩ := Int.eq_ofNat_of_zero_le b3
      have HEG : Hid (giveE M i j os = if opsOk os = true then 0 else 8) := by unfold Hid giveE; rw [if_neg hbad, if_neg a3]
      have HM8 : Hid (opsOk os = false → RefM w L (giveM M i j os)) := fun q => by unfold giveM; rw [if_neg (by rw [HEG.out, q]; decide)]; exact h
      have HL : Hid _ := hO.hlen
      have HO : Hid _ := hO
      have HH : Hid _ := h
      have HLT : Hid _ := hlt
      have hcp := run_copy_made (P := Tryz.prog) w 28 28 3 69 3 Tryz.underlying28 (by rw [hi0]; simp [hz1]) sa len len cap (#[.int .i64 0, .int .i64 0, .int .i64 0]) 69 (opsL os) (by rw [opsL_len, hO.hlen]) (fun h0 => hO.src h0) (opsL_one os)
      obtain ⟨nc, hnc⟩ : ∃ nc, M.c.cores.toNat = nc := ⟨_, rfl⟩
      have hcn : M.c.cores = (nc : Int) := by omega
      have HNC : Hid _ := hnc
      have hjn : j < nc := by omega
      have hnp : (L.np : Int) = M.c.domains * nc := by rw [← hcn]; exact h.np
      have hidx : i * nc + j < L.np := by
        have q : (i + 1) * nc ≤ M.c.domains.toNat * nc := Nat.mul_le_mul_right _ (by omega)
        have q2 : ((M.c.domains.toNat * nc : Nat) : Int) = M.c.domains * nc := by rw [Int.natCast_mul, show ((M.c.domains.toNat : Nat) : Int) = M.c.domains by omega]
        rw [Nat.add_mul, Nat.one_mul] at q
        omega
      have hi12 : i * nc ≤ 12 := by have := Nat.mul_le_mul (show i ≤ 4 by omega) (show nc ≤ 3 by omega); omega
      obtain ⟨im, him⟩ : ∃ im, i * nc = im := ⟨_, rfl⟩
      have hmul : (i : Int) * (nc : Int) = (im : Int) := by rw [← him]; simp
      have hwmul : IntKind.i64.wrap ((i : Int) * (nc : Int)) = (im : Int) := by rw [hmul, IntKind.wrap_i64]; omega
      rw [him] at hidx hi12
      have HIM : Hid _ := him
      rw [hcn] at c0
      have hnp12 : L.np ≤ 12 := by
        have q2 : ((M.c.domains.toNat * nc : Nat) : Int) = M.c.domains * nc := by rw [Int.natCast_mul, show ((M.c.domains.toNat : Nat) : Int) = M.c.domains by omega]
        have := Nat.mul_le_mul (show M.c.domains.toNat ≤ 4 by omega) (show nc ≤ 3 by omega)
        omega
      obtain ⟨pv, hpv⟩ : ∃ pv, L.PL[im + j]? = some pv := ⟨_, List.getElem?_eq_getElem (by rw [h.plen]; exact hidx)⟩
      have cp : w.cell? ⟨L.gp, im + j, none⟩ = some pv := (h.prow.cell _).trans hpv
      have fp := h.prow.frozen (im + j)
      have lgp := h.prow.lt
      clear hbad h hlt hnc hcn hnp hpv him hmul
      go_enter Tryz.func54, Tryz.ntmps54
      go_wp2_with fail
      go_loop [9] (fun u => ∃ q : Nat, q ≤ len ∧ u = .int .i64 q ∧ (os.take q).all kindB = true) (fun u => len - (intOf u).toNat)
      case atStart => exact ⟨0, by omega, rfl, by simp⟩
      case round =>
        obtain ⟨q, hq, rfl, hall⟩ := hrel
        have HA : Hid _ := hall
        clear hall
        by_cases hlt : q < len
        · obtain ⟨b, off, rfl, f1, _, _⟩ := hO.hat q hlt
          have HS : Hid _ := all_take (os := os) (i := q) (by rw [HL.out]; exact hlt)
          have HF : Hid (kindB (os.getD q opZ) = ((os.getD q opZ).1 == 0 || (os.getD q opZ).1 == 1)) := rfl
          have HN : Hid (kindB (os.getD q opZ) = false → os.all kindB = false) := fun hf => by
            have hm : os.getD q opZ ∈ os := by rw [List.getD_eq_getElem?_getD, List.getElem?_eq_getElem (by rw [HL.out]; exact hlt)]; exact List.getElem_mem _
            rw [List.all_eq_false]
            exact ⟨_, hm, by rw [hf]; simp⟩
          generalize (os.getD q opZ).1 = kd at *
          clear hcp
          by_cases b1 : kd = 0
          · have b1b : (kd == 0) = true := by simp [b1]
            have HK : Hid (kindB (os.getD q opZ) = true) := by unfold Hid; rw [HF.out, b1b]; rfl
            subst b1
            clear b1b
            go_wp2_with fail
            go_round
            case rel => exact ⟨q + 1, by omega, by go_num, by rw [HS.out, HA.out, HK.out]; rfl⟩
            case measure => simp [intOf]; omega
          · have b1b : (kd == 0) = false := by simp [b1]
            by_cases b2 : kd = 1
            · have b2b : (kd == 1) = true := by simp [b2]
              have HK : Hid (kindB (os.getD q opZ) = true) := by unfold Hid; rw [HF.out, b1b, b2b]; rfl
              subst b2
              clear b1 b1b b2b
              go_wp2_with fail
              go_round
              case rel => exact ⟨q + 1, by omega, by go_num, by rw [HS.out, HA.out, HK.out]; rfl⟩
              case measure => simp [intOf]; omega
            · have b2b : (kd == 1) = false := by simp [b2]
              have HK : Hid (opsOk os = false) := by
                unfold Hid opsOk
                rw [HN.out (by rw [HF.out, b1b, b2b]; rfl), Bool.and_false]
              have b1c : (kd != 0) = true := by simp [b1]
              have b2c : (kd != 1) = true := by simp [b2]
              go_wp2
              go_ret
              exact ⟨ret_int (by rw [HEG.out, HK.out]; rfl), L, rfl, HM8.out HK.out, Touch.refl _ _, fun _ _ q => q, HLT0.out⟩
        · have HK : Hid (os.all kindB = true) := by have := HA.out; rw [List.take_of_length_le (by rw [HL.out]; omega)] at this; exact this
          by_cases h64 : 64 < len
          · have HK2 : Hid (opsOk os = false) := by unfold Hid opsOk; rw [decide_eq_false (by rw [HL.out]; omega), Bool.false_and]
            clear hcp
            go_wp2
            go_ret
            exact ⟨ret_int (by rw [HEG.out, HK2.out]; rfl), L, rfl, HM8.out HK2.out, Touch.refl _ _, fun _ _ q => q, HLT0.out⟩
          · have HK2 : Hid (opsOk os = true) := by unfold Hid opsOk; rw [decide_eq_true (by rw [HL.out]; omega), HK.out]; rfl
            have hg0 := HH.out.give (im + j) os hidx (by rw [HL.out]; omega) HLT.out
            rw [World.setCell_alloc_past _ _ _ _ lgp] at hg0
            have HG : Hid _ := hg0
            clear hg0
            have HGM : Hid (giveM M i j os = { M with pr := fun q => if q = im + j then os else M.pr q }) := by unfold Hid giveM; rw [if_pos (by rw [HEG.out, HK2.out]; rfl), HNC.out, Int.toNat_natCast, Int.toNat_natCast, HIM.out]
            rw [HL.out] at HG
            have hx0 : (0 : Int) ≤ (im : Int) + (j : Int) := by omega
            have hx1 : (im : Int) + (j : Int) < (L.np : Int) := by omega
            have hwx : IntKind.i64.wrap ((im : Int) + (j : Int)) = (im : Int) + (j : Int) := by rw [IntKind.wrap_i64]; omega
            have hxt : ((im : Int) + (j : Int)).toNat = im + j := by omega
            go_wp2_with (at_make; refine wpList_make_exact _ rfl _ _ 28 rfl 69 i0 _ Tryz.underlying28 hi0 hz0 .i64 .i64 _ _ len rfl rfl (by simp) (by simp) (by rw [hz2]; omega) (by unfold maxLen; omega) ?_; rw [hz1])
            all_goals go_region_with (fail)
            all_goals go_wp2_with fail
            all_goals go_ret
            all_goals exact ⟨ret_int (by rw [HEG.out, HK2.out]; rfl), L.gives (im + j) w.heap.size len, rfl, by rw [HGM.out]; exact HG.out.1.same (fun _ _ => rfl), HG.out.2.1.trans ⟨rfl, rfl, rfl, Nat.le_refl _, fun _ _ _ => rfl⟩, HG.out.2.2.1, fun b hb => by have := HG.out.2.2.2 b hb; show b < ((w.setCell _ _).alloc _).heap.size; rw [World.size_alloc]; simp only [World.setCell]; simpa using this⟩
end Go.Proofs.YtehheaedbnfidaaGreat
