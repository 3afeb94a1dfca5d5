/-
  MachW, MachV
-/
import Derived.Test.YtehheaedbnfidaaGreatClPackO
import Derived.Test.YtehheaedbnfidaaGreatClPackP
import Derived.Test.YtehheaedbnfidaaGreatClPackC
namespace Go.Proofs.YtehheaedbnfidaaGreat
open Go.RowKit

theorem wGive_any (N : Cn) (X : XLoc) (m : Mh) (d k : Int) (sa : Option Addr) (len cap : Nat) (os : List OpT) (w : World) (h : MachM w N X m) (hO : OpsAt w sa len cap os) :
    Calls Tryz.prog 53 #[.pointer (some ⟨X.g, 0, none⟩), .int .i64 d, .int .i64 k, .slice sa len cap] w fun e w' => e = .returned (.int .i64 (giveME N m d k os)) ∧ ∃ X', MachM w' N X' (giveMM N m d k os) ∧ Goes w w' X X' := by
  have hC := kgive_any N X m d k sa len cap os w h hO
  clear h hO
  go_enter Tryz.func53, Tryz.ntmps53
  go_wp2_with fail
  refine hC.mono ?_; rintro e w1 ⟨rfl, X', hM, hG⟩
  go_wp2
  go_ret
  exact ⟨rfl, X', hM, hG⟩

theorem wFill_any (N : Cn) (X : XLoc) (m : Mh) (d a v : Int) (w : World) (h : MachM w N X m) :
    Calls Tryz.prog 57 #[.pointer (some ⟨X.g, 0, none⟩), .int .i64 d, .int .i64 a, .int .i64 v] w fun e w' => e = .returned (.int .i64 (fillME N m d a)) ∧ MachM w' N X (fillMM N m d a v) ∧ Goes w w' X X := by
  have hC := kfill_any N X m d a v w h
  clear h
  go_enter Tryz.func57, Tryz.ntmps57
  go_wp2_with fail
  refine hC.mono ?_; rintro e w1 ⟨rfl, hM, hG⟩
  go_wp2
  go_ret
  exact ⟨rfl, hM, hG⟩

theorem wShare_any (N : Cn) (X : XLoc) (m : Mh) (a v : Int) (w : World) (h : MachM w N X m) :
    Calls Tryz.prog 59 #[.pointer (some ⟨X.g, 0, none⟩), .int .i64 a, .int .i64 v] w fun e w' => e = .returned (.int .i64 (shareME N m a)) ∧ MachM w' N X (shareMM N m a v) ∧ Goes w w' X X := by
  have hC := kshare_any N X m a v w h
  clear h
  go_enter Tryz.func59, Tryz.ntmps59
  go_wp2_with fail
  refine hC.mono ?_; rintro e w1 ⟨rfl, hM, hG⟩
  go_wp2
  go_ret
  exact ⟨rfl, hM, hG⟩

theorem wRun_any (N : Cn) (X : XLoc) (m : Mh) (n : Int) (w : World) (h : MachM w N X m) (ok : MhOk N m) :
    Calls Tryz.prog 61 #[.pointer (some ⟨X.g, 0, none⟩), .int .i64 n] w fun e w' => e = .returned (.int .i64 (runME m n)) ∧ ∃ X', MachM w' N X' (runMM N m n) ∧ Goes w w' X X' := by
  have hC := krun_any N X m n w h ok
  clear h ok
  go_enter Tryz.func61, Tryz.ntmps61
  go_wp2_with fail
  refine hC.mono ?_; rintro e w1 ⟨rfl, X', hM, hG⟩
  go_wp2
  go_ret
  exact ⟨rfl, X', hM, hG⟩

theorem wNow_any (N : Cn) (X : XLoc) (m : Mh) (w : World) (h : MachM w N X m) :
    Calls Tryz.prog 63 #[.pointer (some ⟨X.g, 0, none⟩)] w fun e w' => e = .returned (.int .i64 m.now) ∧ w' = w := by
  have hC := know_any N X m w h
  clear h
  go_enter Tryz.func63, Tryz.ntmps63
  go_wp2_with fail
  refine hC.mono ?_; rintro e w1 ⟨rfl, rfl⟩
  go_wp2
  go_ret
  exact ⟨rfl, rfl⟩

theorem wTrace_any (N : Cn) (X : XLoc) (m : Mh) (d : Int) (w : World) (h : MachM w N X m) (ok : MhOk N m) :
    Calls Tryz.prog 43 #[.pointer (some ⟨X.g, 0, none⟩), .int .i64 d] w fun e w' => e = .returned (.tuple #[traceV N m d w.heap.size, .int .i64 (traceME N d)]) ∧ w' = traceW N m d w := by
  have hC := ktrace_any N X m d w h ok
  obtain ⟨sa, len, cap, hv⟩ : ∃ sa len cap, traceV N m d w.heap.size = .slice sa len cap := by
    unfold traceV
    split
    · exact ⟨_, _, _, rfl⟩
    · exact ⟨_, _, _, rfl⟩
  rw [hv] at hC ⊢
  clear h ok hv
  go_enter Tryz.func43, Tryz.ntmps43
  go_wp2_with fail
  refine hC.mono ?_; rintro e w1 ⟨rfl, rfl⟩
  go_wp2
  go_ret2
  exact ⟨rfl, rfl⟩
end Go.Proofs.YtehheaedbnfidaaGreat

namespace Go.Proofs.YtehheaedbnfidaaGreat

/-- A machine at the time 0. -/
def mkM (ops : Nat → Nat → List OpT) (own : Nat → Nat → Int) (sh : Nat → Int) : Mh :=
  ⟨0, own, sh, fun _ _ => cpE, ops, fun _ _ => 0, fun _ _ _ => bkE, fun _ _ => [], fun _ => [], fun _ => [], fun _ => ⟨false, 0, 0⟩⟩

theorem sum_zero : ∀ n, sumN (fun _ => 0) n = 0
  | 0 => rfl
  | n + 1 => by rw [sumN, sum_zero n]

theorem mkM_ok (N : Cn) {ops : Nat → Nat → List OpT} (own : Nat → Nat → Int) (sh : Nat → Int) (h1 : ∀ d k, (ops d k).length ≤ 64) (h2 : ∀ d k o, o ∈ ops d k → o.1 = 0 ∨ o.1 = 1) : MhOk N (mkM ops own sh) := by
  refine ⟨h1, h2, fun d k => Nat.zero_le _, fun d => (sum_zero _).symm, fun k _ hb => ?_, fun d _ c hc => ?_, fun d _ => List.nodup_nil, fun k _ => ⟨Int.le_refl _, Int.le_refl _⟩, fun d s j => Or.inl rfl, fun d s j _ => rfl⟩
  · cases hb
  · cases hc

theorem runs_add (N : Cn) (m : Mh) (a : Nat) : ∀ b, Mh.runs N b (Mh.runs N a m) = Mh.runs N (a + b) m
  | 0 => rfl
  | b + 1 => by
    rw [runs_step, runs_add N m a b, Nat.add_succ, runs_step]

/-- What the calls do to a machine of which t cycles have gone by. -/
theorem give_mk (N : Cn) (ops : Nat → Nat → List OpT) (own : Nat → Nat → Int) (sh : Nat → Int) (t : Nat) (hnow : (Mh.runs N t (mkM ops own sh)).now = t) (d k : Int) (os : List OpT) :
    giveMM N (Mh.runs N t (mkM ops own sh)) d k os = if giveME N (Mh.runs N t (mkM ops own sh)) d k os = 0 then Mh.runs N t (mkM (up2 ops d.toNat k.toNat os) own sh) else Mh.runs N t (mkM ops own sh) := by
  unfold giveMM
  by_cases h : giveME N (Mh.runs N t (mkM ops own sh)) d k os = 0
  · rw [if_pos h, if_pos h]
    have ht : t = 0 := by
      unfold giveME at h
      rw [hnow] at h
      split at h
      · omega
      · split at h
        · omega
        · omega
    subst ht
    show ({ mkM ops own sh with ops := up2 ops d.toNat k.toNat os, dn := up2 (fun _ _ => 0) d.toNat k.toNat 0 } : Mh) = mkM (up2 ops d.toNat k.toNat os) own sh
    have : up2 (fun _ _ => 0) d.toNat k.toNat 0 = fun _ _ => (0 : Nat) := by funext a b; simp [up2]
    rw [this]
    rfl
  · rw [if_neg h, if_neg h]
theorem fill_mk (N : Cn) (ops : Nat → Nat → List OpT) (own : Nat → Nat → Int) (sh : Nat → Int) (t : Nat) (hnow : (Mh.runs N t (mkM ops own sh)).now = t) (d a v : Int) :
    fillMM N (Mh.runs N t (mkM ops own sh)) d a v = if fillME N (Mh.runs N t (mkM ops own sh)) d a = 0 then Mh.runs N t (mkM ops (up1 own d.toNat (up1 (own d.toNat) a.toNat v)) sh) else Mh.runs N t (mkM ops own sh) := by
  unfold fillMM
  by_cases h : fillME N (Mh.runs N t (mkM ops own sh)) d a = 0
  · rw [if_pos h, if_pos h]
    have ht : t = 0 := by
      unfold fillME at h
      rw [hnow] at h
      split at h
      · omega
      · split at h
        · omega
        · omega
    subst ht
    rfl
  · rw [if_neg h, if_neg h]
theorem share_mk (N : Cn) (ops : Nat → Nat → List OpT) (own : Nat → Nat → Int) (sh : Nat → Int) (t : Nat) (hnow : (Mh.runs N t (mkM ops own sh)).now = t) (a v : Int) :
    shareMM N (Mh.runs N t (mkM ops own sh)) a v = if shareME N (Mh.runs N t (mkM ops own sh)) a = 0 then Mh.runs N t (mkM ops own (up1 sh a.toNat v)) else Mh.runs N t (mkM ops own sh) := by
  unfold shareMM
  by_cases h : shareME N (Mh.runs N t (mkM ops own sh)) a = 0
  · rw [if_pos h, if_pos h]
    have ht : t = 0 := by
      unfold shareME at h
      rw [hnow] at h
      split at h
      · omega
      · split at h
        · omega
        · omega
    subst ht
    rfl
  · rw [if_neg h, if_neg h]
theorem run_mk (N : Cn) (ops : Nat → Nat → List OpT) (own : Nat → Nat → Int) (sh : Nat → Int) (t : Nat) (n : Int) :
    runMM N (Mh.runs N t (mkM ops own sh)) n = if runME (Mh.runs N t (mkM ops own sh)) n = 0 then Mh.runs N (t + n.toNat) (mkM ops own sh) else Mh.runs N t (mkM ops own sh) := by
  unfold runMM
  rw [runs_add]

end Go.Proofs.YtehheaedbnfidaaGreat
