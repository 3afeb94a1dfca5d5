/-
  The model: how long its lists are.
-/
import Derived.Test.YtehheaedbnfidaaGreatClPackB
namespace Go.Proofs.YtehheaedbnfidaaGreat

theorem told_len (S : So) (e : Ent) : (S.told e).log.length = S.log.length + 1 ∧ (S.told e).evs.length = S.evs.length := by simp [So.told]
theorem done_len (S : So) (k : Nat) (t v f : Int) : (S.done k t v f).log.length = S.log.length ∧ (S.done k t v f).evs.length = S.evs.length + 1 := by simp [So.done]

theorem service_len (M : MDat) (d : Nat) (S : So) (t : Int) : (So.service M d S t).log.length ≤ S.log.length + 2 ∧ (So.service M d S t).evs.length ≤ S.evs.length + 2 := by
  unfold So.service So.serve
  repeat' split
  all_goals simp [So.told, So.done]
  all_goals (try (repeat' split) <;> simp <;> omega)

theorem works_len (M : MDat) (d k : Nat) (S : So) (t : Int) : (So.works M d k S t).log.length ≤ S.log.length + 1 ∧ (So.works M d k S t).evs.length ≤ S.evs.length + 1 := by
  unfold So.works So.begin
  dsimp only
  repeat' split
  all_goals simp [So.told, So.done]

theorem worksAll_len (M : MDat) (d : Nat) (t : Int) : ∀ (n j : Nat) (S : So), (So.worksAll M d t n j S).log.length ≤ S.log.length + n ∧ (So.worksAll M d t n j S).evs.length ≤ S.evs.length + n
  | 0, _, S => ⟨Nat.le_refl _, Nat.le_refl _⟩
  | n + 1, j, S => by
    have h1 := worksAll_len M d t n (j + 1) (So.works M d j S t)
    have h2 := works_len M d j S t
    unfold So.worksAll
    omega

theorem upto_len {M : MDat} {d : Nat} (hc : chk M.c = 0) : ∀ (T : Nat), (So.upto M d T).log.length ≤ 5 * T ∧ (So.upto M d T).evs.length ≤ 5 * T
  | 0 => by simp [So.upto, So.start]
  | T + 1 => by
    have ih := upto_len (d := d) hc T
    have c2 := (right_of hc).c2
    have h1 := service_len M d (So.upto M d T) T
    have h2 := worksAll_len M d T M.c.cores.toNat 0 (So.service M d (So.upto M d T) T)
    show (So.cycle M d (So.upto M d T) (T : Nat)).log.length ≤ _ ∧ (So.cycle M d (So.upto M d T) (T : Nat)).evs.length ≤ _
    unfold So.cycle
    omega

theorem SoOk.tight {M : MDat} {d : Nat} {S : So} {B B' : Nat} (h : SoOk M d S B) (h1 : S.log.length ≤ B') (h2 : S.evs.length ≤ B') : SoOk M d S B' :=
  ⟨h.hl, h.nl, h.fl, h.bl, h.log, h.nx, h.hw, h.w1, h.qu, h.nd, h.fr, h.bg, h1, h2⟩

theorem SoOk.upto5 {M : MDat} {d : Nat} (hc : chk M.c = 0) (T : Nat) (hT : T ≤ 10000) : SoOk M d (So.upto M d T) (5 * T) :=
  (SoOk.upto hc T hT).tight (upto_len hc T).1 (upto_len hc T).2
end Go.Proofs.YtehheaedbnfidaaGreat
