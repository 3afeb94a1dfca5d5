/-
  One domain's play: works.
-/
import Derived.Test.YtehheaedbnfidaaGreatClRefW1
import Derived.Test.YtehheaedbnfidaaGreatClRefW2
import Derived.Test.YtehheaedbnfidaaGreatClRefW3
import Derived.Test.YtehheaedbnfidaaGreatClRefW4
import Derived.Test.YtehheaedbnfidaaGreatClRefW5
import Derived.Test.YtehheaedbnfidaaGreatClRefW6
namespace Go.Proofs.YtehheaedbnfidaaGreat

theorem rworks_any (w0 : World) (base B : Nat) (X : SLoc) (L : RLoc) (M : RDat) (S : So) (k : Nat) (t : Int) (w : World) (h : Ctx w0 w base X L M S) (hs : SoOk M.toM X.d S B) (hB : B ≤ 89000) (hk : k < M.c.cores.toNat) (t0 : 0 ≤ t) (t1 : t ≤ 10000) :
    Calls Tryz.prog 95 #[.pointer (some ⟨X.gs, 0, none⟩), .int .i64 k, .int .i64 t] w fun e w' => e = .returned (.tuple #[]) ∧ ∃ X', X'.gs = X.gs ∧ X'.d = X.d ∧ Ctx w0 w' base X' L M (So.works M.toM X.d k S t) := by
  unfold So.works
  by_cases c1 : S.how.getD k 0 = 2 ∧ t = S.began.getD k 0 + 2
  · rw [if_pos c1]
    exact rworks_fail w0 base B X L M S k t w h hs hB hk t0 t1 c1.1 c1.2
  · rw [if_neg c1]
    by_cases c2 : S.how.getD k 0 ≠ 0 ∨ t < S.free.getD k 0 ∨ ((progF M.toM X.d k).length : Int) ≤ S.next.getD k 0 ∨ openB M.toM.c k X.d t = false
    · rw [if_pos c2]
      refine (rworks_idle w0 base B X L M S k t w h hs hk t0 t1 ?_).mono ?_
      · by_cases c3 : S.how.getD k 0 = 0
        · refine Or.inr ⟨c3, ?_⟩
          rcases c2 with c | c
          · exact absurd c3 c
          · exact c
        · refine Or.inl ⟨c3, ?_⟩
          by_cases c4 : S.how.getD k 0 = 2
          · exact Or.inr (fun e => c1 ⟨c4, e⟩)
          · exact Or.inl c4
      · rintro e w' ⟨h1, h2⟩
        exact ⟨h1, X, rfl, rfl, h2⟩
    · rw [if_neg c2]
      have d1 : S.how.getD k 0 = 0 := Classical.byContradiction fun e => c2 (Or.inl e)
      have d2 : ¬ t < S.free.getD k 0 := fun e => c2 (Or.inr (Or.inl e))
      have d3 : S.next.getD k 0 < (progF M.toM X.d k).length := Int.not_le.1 fun e => c2 (Or.inr (Or.inr (Or.inl e)))
      have d4 : openB M.c k X.d t = true := by
        cases ho : openB M.c k X.d t with
        | true => rfl
        | false => exact absurd (Or.inr (Or.inr (Or.inr ho))) c2
      by_cases f0 : faultF M.c (opAt M.toM X.d k S) = 0
      · by_cases f1 : (stateF M.c k ((opAt M.toM X.d k S).2.1 / M.c.line) t false S.log = 0 ∨ ((opAt M.toM X.d k S).1 = 1 ∧ stateF M.c k ((opAt M.toM X.d k S).2.1 / M.c.line) t false S.log = 1))
        · exact rworks_wait w0 base B X L M S k t w h hs hB hk t0 t1 d1 d2 d3 d4 f0 f1
        · by_cases f2 : (opAt M.toM X.d k S).1 = 1
          · exact rworks_store w0 base B X L M S k t w h hs hB hk t0 t1 d1 d2 d3 d4 f0 f1 f2
          · exact rworks_load w0 base B X L M S k t w h hs hB hk t0 t1 d1 d2 d3 d4 f0 f1 f2
      · exact rworks_fault w0 base B X L M S k t w h hs hB hk t0 t1 d1 d2 d3 d4 f0
end Go.Proofs.YtehheaedbnfidaaGreat
