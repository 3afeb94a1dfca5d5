/-
  A machine of the program and the document's: the program's trace is the model's.
-/
import Derived.Test.YtehheaedbnfidaaGreatClPackBI
import Derived.Test.YtehheaedbnfidaaGreatClPackY
import Derived.Test.YtehheaedbnfidaaGreatClRefS5
namespace Go.Proofs.YtehheaedbnfidaaGreat

theorem laidR (M : RDat) (hz : chk M.c = 0) (ho : ∀ i, opsOk (M.pr i) = true) : Laid M.toM (cnOf M.c) (opsR M) (ownR M) (shR M) := by
  have hN := nm_of hz
  have hp := hN.pv
  have hs := hN.sn
  have e1 : (cnOf M.c).nc = M.c.cores.toNat := rfl
  have e2 : (cnOf M.c).nd = M.c.domains.toNat := rfl
  have e3 : (cnOf M.c).pv = M.c.priv.toNat := rfl
  have e4 : (cnOf M.c).sn = M.c.shared.toNat := rfl
  refine ⟨fun d k hd hk => ?_, fun d k _ _ => ?_, fun d a hd ha => ?_, fun d a hd h1 h2 => ?_⟩
  · unfold opsR
    rw [if_pos ⟨by omega, by omega⟩]
    rfl
  · unfold opsR
    split
    · exact (opsOk_kin (ho _)).2
    · exact fun o ho => by simp at ho
  · unfold firstF0
    show _ = if (a : Int) < M.c.priv then (M.ow d).getD (a : Int).toNat 0 else _
    rw [if_pos (by omega), Int.toNat_natCast]
    rfl
  · unfold firstF0
    show _ = if (a : Int) < M.c.priv then _ else M.cm.getD ((a : Int) - M.c.priv).toNat 0
    rw [if_neg (by omega), show ((a : Int) - M.c.priv).toNat = a - (cnOf M.c).pv by omega]
    rfl

theorem linksR {M : RDat} {m : Mh} (h : PairD M m) (hz : chk M.c = 0) (hT : M.T ≤ 10000) : Links M.toM (cnOf M.c) M.T.toNat m := by
  have := links_runs (M := M.toM) (nm_of hz) rfl (links_start (laidR M hz h.ops) ⟨false, 0, 0⟩ rfl) M.T.toNat (by omega)
  rw [h.run]
  exact this

theorem traceR {M : RDat} {m : Mh} (h : PairD M m) (hz : chk M.c = 0) (hT : M.T ≤ 10000) (d : Nat) (hd : (d : Int) < M.c.domains) : m.tr d = (So.upto M.toM d M.T.toNat).evs :=
  ((linksR h hz hT).core d (by have := (nm_of hz).nd; omega)).evs
end Go.Proofs.YtehheaedbnfidaaGreat
