/-
  Pairs, MInv, MadeM, Given
-/
import Derived.Test.YtehheaedbnfidaaGreatClPackBI
import Derived.Test.YtehheaedbnfidaaGreatClPackBJ
import Derived.Test.YtehheaedbnfidaaGreatClPackR
import Derived.Deep.QuietTactic
import Derived.BigQuiet
namespace Go.Proofs.YtehheaedbnfidaaGreat
open Go.RowKit

/-- What is done outside a machine's blocks leaves it as it was. -/
theorem MachM.same {w w' : World} {N : Cn} {X : XLoc} {m : Mh} (h : MachM w N X m) (hsz : w.heap.size ≤ w'.heap.size) (hs : ∀ b, X.mine b → w'.heap[b]? = w.heap[b]?) : MachM w' N X m := by
  have k := h.kin (w' := w') (fun _ => False) (fun b l hl _ => hs b (by unfold XLoc.mine; rw [hl]; simp))
  have kc := k.cfg (fun h => h)
  exact ⟨h.nok, h.right, h.now0, h.now1, k.row (fun h => h), kc.1, k.mem (fun h => h) (fun h => h), k.near (fun h => h) (fun h => h), k.dom (fun h => h), h.dcap, fun d hd => k.prg d hd (fun h => h), k.ops (fun h => h), fun d hd => k.far d hd (fun h => h) (fun h => h), fun d hd => k.wait d hd (fun h => h), fun d hd => k.trc d hd (fun h => h), k.wks (fun h => h), h.labs.grow hsz kc.2⟩

/-- Machines of the program and the document's, each in blocks of its own: zone 2j is the program's j-th, 2j + 1 the document's. W: the world at the beginning, in which the configurations lie. -/
structure MS (W w : World) (zone : Nat → Option Nat) (n : Nat) (X : Nat → XLoc) (m : Nat → Mh) (L : Nat → RLoc) (M : Nat → RDat) : Prop where
  mach : ∀ j, j < n → MachM w (cnOf (M j).c) (X j) (m j)
  ref : ∀ j, j < n → RefM w (L j) (M j)
  cfg : ∀ j, j < n → CfgAt W (M j).c (M j).s
  pair : ∀ j, j < n → PairD (M j) (m j)
  zx : ∀ j b, j < n → (X j).mine b → zone b = some (2 * j)
  zl : ∀ j b, j < n → (L j).own b → zone b = some (2 * j + 1)
  zlt : ∀ b, zone b ≠ none → W.heap.size ≤ b ∧ b < w.heap.size

theorem MS.keep {W w w' : World} {zone : Nat → Option Nat} {n : Nat} {X : Nat → XLoc} {m : Nat → Mh} {L : Nat → RLoc} {M : Nat → RDat} (h : MS W w zone n X m L M) (hsz : w.heap.size ≤ w'.heap.size) (hk : ∀ b, zone b ≠ none → w'.heap[b]? = w.heap[b]?) : MS W w' zone n X m L M :=
  ⟨fun j hj => (h.mach j hj).same hsz (fun b hb => hk b (by rw [h.zx j b hj hb]; simp)), fun j hj => (h.ref j hj).same (fun b hb => hk b (by rw [h.zl j b hj hb]; simp)), h.cfg, h.pair, h.zx, h.zl, fun b hb => ⟨(h.zlt b hb).1, Nat.lt_of_lt_of_le (h.zlt b hb).2 hsz⟩⟩
theorem MS.below {W w w' : World} {zone : Nat → Option Nat} {n : Nat} {X : Nat → XLoc} {m : Nat → Mh} {L : Nat → RLoc} {M : Nat → RDat} (h : MS W w zone n X m L M) (hb : Below w.heap.size w w') : MS W w' zone n X m L M :=
  h.keep hb.size (fun b hz => hb.block b (h.zlt b hz).2)
theorem MS.start (W w : World) (X : Nat → XLoc) (m : Nat → Mh) (L : Nat → RLoc) (M : Nat → RDat) : MS W w (fun _ => none) 0 X m L M :=
  ⟨fun j hj => by omega, fun j hj => by omega, fun j hj => by omega, fun j hj => by omega, fun j b hj => by omega, fun j b hj => by omega, fun b hb => absurd rfl hb⟩

/-- The document's machine is as it was while the program's goes on. -/
theorem MS.aside {W w w1 : World} {zone : Nat → Option Nat} {n : Nat} {X : Nat → XLoc} {m : Nat → Mh} {L : Nat → RLoc} {M : Nat → RDat} (h : MS W w zone n X m L M) {j : Nat} (hj : j < n) {X' : XLoc} (hg : Goes w w1 (X j) X') : RefM w1 (L j) (M j) ∧ ∀ b, (L j).own b → b < w1.heap.size := by
  have hlt : ∀ b, (L j).own b → b < w.heap.size := fun b hb => (h.zlt b (by rw [h.zl j b hj hb]; simp)).2
  refine ⟨(h.ref j hj).same (fun b hb => hg.tch.block b (hlt b hb) (fun hx => ?_)), fun b hb => Nat.lt_of_lt_of_le (hlt b hb) hg.tch.size⟩
  have e1 := h.zl j b hj hb
  have e2 := h.zx j b hj hx
  rw [e1] at e2
  simp only [Option.some.injEq] at e2
  omega

def upd {α : Type} (f : Nat → α) (j : Nat) (v : α) : Nat → α := fun i => if i = j then v else f i
theorem upd_at {α : Type} (f : Nat → α) (j : Nat) (v : α) : upd f j v j = v := by simp [upd]
theorem upd_ne {α : Type} (f : Nat → α) {i j : Nat} (v : α) (h : i ≠ j) : upd f j v i = f i := by simp [upd, h]

/-- A call on the j-th machine, of the program and of the document. -/
theorem MS.both {W w w1 w2 : World} {zone : Nat → Option Nat} {n : Nat} {X : Nat → XLoc} {m : Nat → Mh} {L : Nat → RLoc} {M : Nat → RDat} (h : MS W w zone n X m L M) {j : Nat} (hj : j < n) {X' : XLoc} {m' : Mh} {L' : RLoc} {M' : RDat}
    (hM : MachM w1 (cnOf (M j).c) X' m') (hg : Goes w w1 (X j) X') (hR : RefM w2 L' M') (hT : Touch (L j).own w1 w2) (hL : ∀ b, b < w1.heap.size → L'.own b → (L j).own b) (hlt : ∀ b, L'.own b → b < w2.heap.size) (hc : M'.c = (M j).c) (hs : M'.s = (M j).s) (hp : PairD M' m') :
    ∃ zone', MS W w2 zone' n (upd X j X') (upd m j m') (upd L j L') (upd M j M') ∧ (∀ b, b < w.heap.size → zone' b = zone b) ∧ Touch (fun b => zone b ≠ none) w w2 := by
  classical
  have s1 := hg.tch.size
  have s2 := hT.size
  have xlt : ∀ b, (X j).mine b → b < w.heap.size := fun b hb => (h.zlt b (by rw [h.zx j b hj hb]; simp)).2
  have llt : ∀ b, (L j).own b → b < w.heap.size := fun b hb => (h.zlt b (by rw [h.zl j b hj hb]; simp)).2
  have x1 : ∀ b, X'.mine b → b < w1.heap.size := fun b hb => hM.labs.lt b hb
  have keepO : ∀ b, b < w.heap.size → ¬ (X j).mine b → ¬ (L j).own b → w2.heap[b]? = w.heap[b]? := fun b hb h1 h2 => (hT.block b (by omega) h2).trans (hg.tch.block b hb h1)
  refine ⟨fun b => if b < w.heap.size then zone b else if X'.mine b then some (2 * j) else if L'.own b then some (2 * j + 1) else none, ⟨fun i hi => ?_, fun i hi => ?_, fun i hi => ?_, fun i hi => ?_, fun i b hi hb => ?_, fun i b hi hb => ?_, fun b hb => ?_⟩, fun b hb => by simp [hb], ⟨hT.os.trans hg.tch.os, hT.tape.trans hg.tch.tape, hT.output.trans hg.tch.output, Nat.le_trans s1 s2, fun b hb hz => keepO b hb (fun q => hz (by rw [h.zx j b hj q]; simp)) (fun q => hz (by rw [h.zl j b hj q]; simp))⟩⟩
  · by_cases e : i = j
    · subst e
      rw [upd_at, upd_at, upd_at, hc]
      refine hM.same s2 (fun b hb => hT.block b (x1 b hb) (fun ho => ?_))
      have hbw := llt b ho
      have e1 := h.zx i b hi (hg.lab b hbw hb)
      have e2 := h.zl i b hi ho
      rw [e1] at e2
      simp only [Option.some.injEq] at e2
      omega
    · rw [upd_ne _ _ e, upd_ne _ _ e, upd_ne _ _ e]
      refine (h.mach i hi).same (Nat.le_trans s1 s2) (fun b hb => ?_)
      have ez := h.zx i b hi hb
      refine keepO b (h.zlt b (by rw [ez]; simp)).2 (fun q => ?_) (fun q => ?_)
      · have := h.zx j b hj q; rw [ez] at this; simp only [Option.some.injEq] at this; omega
      · have := h.zl j b hj q; rw [ez] at this; simp only [Option.some.injEq] at this; omega
  · by_cases e : i = j
    · subst e
      rw [upd_at, upd_at]
      exact hR
    · rw [upd_ne _ _ e, upd_ne _ _ e]
      refine (h.ref i hi).same (fun b hb => ?_)
      have ez := h.zl i b hi hb
      refine keepO b (h.zlt b (by rw [ez]; simp)).2 (fun q => ?_) (fun q => ?_)
      · have := h.zx j b hj q; rw [ez] at this; simp only [Option.some.injEq] at this; omega
      · have := h.zl j b hj q; rw [ez] at this; simp only [Option.some.injEq] at this; omega
  · by_cases e : i = j
    · subst e
      rw [upd_at, hc, hs]
      exact h.cfg i hi
    · rw [upd_ne _ _ e]
      exact h.cfg i hi
  · by_cases e : i = j
    · subst e
      rw [upd_at, upd_at]
      exact hp
    · rw [upd_ne _ _ e, upd_ne _ _ e]
      exact h.pair i hi
  · by_cases e : i = j
    · subst e
      rw [upd_at] at hb
      by_cases q : b < w.heap.size
      · rw [if_pos q]
        exact h.zx i b hi (hg.lab b q hb)
      · rw [if_neg q, if_pos hb]
    · rw [upd_ne _ _ e] at hb
      have ez := h.zx i b hi hb
      rw [if_pos (h.zlt b (by rw [ez]; simp)).2]
      exact ez
  · by_cases e : i = j
    · subst e
      rw [upd_at] at hb
      by_cases q : b < w.heap.size
      · rw [if_pos q]
        exact h.zl i b hi (hL b (by omega) hb)
      · rw [if_neg q]
        have hn : ¬ X'.mine b := fun hx => by
          have := llt b (hL b (x1 b hx) hb)
          omega
        rw [if_neg hn, if_pos hb]
    · rw [upd_ne _ _ e] at hb
      have ez := h.zl i b hi hb
      rw [if_pos (h.zlt b (by rw [ez]; simp)).2]
      exact ez
  · by_cases q : b < w.heap.size
    · simp only [q, if_true] at hb
      exact ⟨(h.zlt b hb).1, by omega⟩
    · simp only [q, if_false] at hb
      have hW : W.heap.size ≤ w.heap.size := by
        have hx := h.mach j hj
        have := h.zlt (X j).g (by rw [h.zx j (X j).g hj (by unfold XLoc.mine; rw [hx.labs.g]; simp)]; simp)
        omega
      by_cases r : X'.mine b
      · have := x1 b r
        exact ⟨by omega, by omega⟩
      · simp only [r, if_false] at hb
        by_cases t : L'.own b
        · exact ⟨by omega, hlt b t⟩
        · simp [t] at hb

/-- One machine more. -/
theorem MS.more {W w w' : World} {zone : Nat → Option Nat} {n : Nat} {X : Nat → XLoc} {m : Nat → Mh} {L : Nat → RLoc} {M : Nat → RDat} (h : MS W w zone n X m L M) {X' : XLoc} {m' : Mh} {L' : RLoc} {M' : RDat} (hW : W.heap.size ≤ w.heap.size)
    (hM : MachM w' (cnOf M'.c) X' m') (hR : RefM w' L' M') (hx : ∀ b, X'.mine b → w.heap.size ≤ b) (hl : ∀ b, L'.own b → w.heap.size ≤ b ∧ b < w'.heap.size) (hd : ∀ b, X'.mine b → ¬ L'.own b) (hc : CfgAt W M'.c M'.s) (hp : PairD M' m') (hsz : w.heap.size ≤ w'.heap.size) (hk : ∀ b, zone b ≠ none → w'.heap[b]? = w.heap[b]?) :
    ∃ zone', MS W w' zone' (n + 1) (upd X n X') (upd m n m') (upd L n L') (upd M n M') ∧ (∀ b, b < w.heap.size → zone' b = zone b) ∧ ∀ b, w.heap.size ≤ b → zone' b ≠ none → X'.mine b ∨ L'.own b := by
  classical
  have h' := h.keep hsz hk
  refine ⟨fun b => if b < w.heap.size then zone b else if X'.mine b then some (2 * n) else if L'.own b then some (2 * n + 1) else none, ⟨fun i hi => ?_, fun i hi => ?_, fun i hi => ?_, fun i hi => ?_, fun i b hi hb => ?_, fun i b hi hb => ?_, fun b hb => ?_⟩, fun b hb => by simp [hb], fun b hb hz => by
    have q : ¬ b < w.heap.size := by omega
    simp only [q, if_false] at hz
    by_cases r : X'.mine b
    · exact Or.inl r
    · by_cases t : L'.own b
      · exact Or.inr t
      · simp [r, t] at hz⟩
  · by_cases e : i = n
    · subst e; rw [upd_at, upd_at, upd_at]; exact hM
    · rw [upd_ne _ _ e, upd_ne _ _ e, upd_ne _ _ e]; exact h'.mach i (by omega)
  · by_cases e : i = n
    · subst e; rw [upd_at, upd_at]; exact hR
    · rw [upd_ne _ _ e, upd_ne _ _ e]; exact h'.ref i (by omega)
  · by_cases e : i = n
    · subst e; rw [upd_at]; exact hc
    · rw [upd_ne _ _ e]; exact h.cfg i (by omega)
  · by_cases e : i = n
    · subst e; rw [upd_at, upd_at]; exact hp
    · rw [upd_ne _ _ e, upd_ne _ _ e]; exact h.pair i (by omega)
  · by_cases e : i = n
    · subst e
      rw [upd_at] at hb
      rw [if_neg (by have := hx b hb; omega), if_pos hb]
    · rw [upd_ne _ _ e] at hb
      have ez := h.zx i b (by omega) hb
      rw [if_pos (h.zlt b (by rw [ez]; simp)).2]
      exact ez
  · by_cases e : i = n
    · subst e
      rw [upd_at] at hb
      rw [if_neg (by have := (hl b hb).1; omega), if_neg (fun q => hd b q hb), if_pos hb]
    · rw [upd_ne _ _ e] at hb
      have ez := h.zl i b (by omega) hb
      rw [if_pos (h.zlt b (by rw [ez]; simp)).2]
      exact ez
  · by_cases q : b < w.heap.size
    · simp only [q, if_true] at hb
      exact ⟨(h.zlt b hb).1, by omega⟩
    · simp only [q, if_false] at hb
      by_cases r : X'.mine b
      · exact ⟨by omega, hM.labs.lt b r⟩
      · simp only [r, if_false] at hb
        by_cases t : L'.own b
        · exact ⟨by omega, (hl b t).2⟩
        · simp [t] at hb

theorem flat_same {α β : Type} {f g : α → List β} : ∀ {l : List α}, (∀ x, x ∈ l → f x = g x) → l.flatMap f = l.flatMap g
  | [], _ => rfl
  | x :: l, h => by rw [List.flatMap_cons, List.flatMap_cons, h x (List.mem_cons_self ..), flat_same (fun y hy => h y (List.mem_cons_of_mem _ hy))]

/-- The machines' list, as it lies in memory. -/
def pairsL (X : Nat → XLoc) (L : Nat → RLoc) (n : Nat) : List Value := (List.range n).flatMap fun j => [.pointer (some ⟨(X j).g, 0, none⟩), .pointer (some ⟨(L j).gr, 0, none⟩)]
theorem pairs_more (X : Nat → XLoc) (L : Nat → RLoc) (n : Nat) (X' : XLoc) (L' : RLoc) : pairsL (upd X n X') (upd L n L') (n + 1) = pairsL X L n ++ [.pointer (some ⟨X'.g, 0, none⟩), .pointer (some ⟨L'.gr, 0, none⟩)] := by
  unfold pairsL
  rw [List.range_succ, List.flatMap_append]
  congr 1
  · apply flat_same
    intro j hj
    have : j ≠ n := by have := List.mem_range.1 hj; omega
    rw [upd_ne _ _ this, upd_ne _ _ this]
  · simp [upd_at]
theorem pairs_same (X : Nat → XLoc) (L : Nat → RLoc) (n j : Nat) (X' : XLoc) (L' : RLoc) (h1 : X'.g = (X j).g) (h2 : L'.gr = (L j).gr) : pairsL (upd X j X') (upd L j L') n = pairsL X L n := by
  unfold pairsL
  apply flat_same
  intro i _
  by_cases e : i = j
  · subst e; rw [upd_at, upd_at, h1, h2]
  · rw [upd_ne _ _ e, upd_ne _ _ e]
end Go.Proofs.YtehheaedbnfidaaGreat

namespace Go.Proofs.YtehheaedbnfidaaGreat
open Go.RowKit

theorem WSt.keepU {w w' : World} {gw base : Nat} {o : Own} {m e p b : Value} {ts : List Int} {os : List (Int × Int × Int)} (h : WSt w gw base o m e p b ts os) (hk : ∀ b, UB gw o b → w'.heap[b]? = w.heap[b]?) : WSt w' gw base o m e p b ts os :=
  ⟨h.row.same (hk gw (Or.inl rfl)), h.hb, owns_same h.tou (fun g hg => hk g (Or.inr (Or.inl hg))), owns_same h.ops (fun g hg => hk g (Or.inr (Or.inr hg)))⟩

structure MI (W wr : World) (o : Own) (e p b : Value) (ts : List Int) (os : List (Int × Int × Int)) (zone : Nat → Option Nat) (n : Nat) (X : Nat → XLoc) (m : Nat → Mh) (L : Nat → RLoc) (M : Nat → RDat) (ma : Option Addr) (mc : Nat) : Prop where
  ws : WSt wr W.heap.size W.heap.size o (.slice ma n mc) e p b ts os
  ms : MS W wr zone n X m L M
  own : wr.ownsRow W.heap.size 50 2 (.slice ma n mc) n (pairsL X L n)
  zu : ∀ b, UB W.heap.size o b → zone b = none
  zm : ∀ b, (Value.slice ma n mc).ownBlock = some b → zone b = none
  bel : Below W.heap.size W wr

/-- The blocks of the things that there are. -/
def MZ (gw : Nat) (o : Own) (zone : Nat → Option Nat) (v : Value) (b : Nat) : Prop := zone b ≠ none ∨ UB gw o b ∨ v.ownBlock = some b

theorem MI.ub_lt {W wr : World} {o : Own} {e p b : Value} {ts : List Int} {os : List (Int × Int × Int)} {zone : Nat → Option Nat} {n : Nat} {X : Nat → XLoc} {m : Nat → Mh} {L : Nat → RLoc} {M : Nat → RDat} {ma : Option Addr} {mc : Nat} (h : MI W wr o e p b ts os zone n X m L M ma mc) {g : Nat} (hu : UB W.heap.size o g) : g < wr.heap.size := by
  rcases hu with q | q | q
  · subst q; exact h.ws.row.lt
  · exact (owns_lt h.ws.tou g q).1
  · exact (owns_lt h.ws.ops g q).1
theorem MI.lt {W wr : World} {o : Own} {e p b : Value} {ts : List Int} {os : List (Int × Int × Int)} {zone : Nat → Option Nat} {n : Nat} {X : Nat → XLoc} {m : Nat → Mh} {L : Nat → RLoc} {M : Nat → RDat} {ma : Option Addr} {mc : Nat} (h : MI W wr o e p b ts os zone n X m L M ma mc) {g : Nat} (hz : MZ W.heap.size o zone (.slice ma n mc) g) : g < wr.heap.size := by
  rcases hz with q | q | q
  · exact (h.ms.zlt g q).2
  · exact h.ub_lt q
  · exact (owns_lt h.own g q).1
/-- The machines' list lies apart from what else the caller has. -/
theorem MI.apart {W wr : World} {o : Own} {e p b : Value} {ts : List Int} {os : List (Int × Int × Int)} {zone : Nat → Option Nat} {n : Nat} {X : Nat → XLoc} {m : Nat → Mh} {L : Nat → RLoc} {M : Nat → RDat} {ma : Option Addr} {mc : Nat} (h : MI W wr o e p b ts os zone n X m L M ma mc) {g : Nat} (hg : (Value.slice ma n mc).ownBlock = some g) : ¬ UB W.heap.size o g := by
  rintro (q | q | q)
  · subst q; exact own_ne h.own h.ws.row (by decide) hg
  · exact owns_apart h.own h.ws.tou (by decide) g hg q
  · exact owns_apart h.own h.ws.ops (by decide) g hg q

theorem MI.below {W wr w' : World} {o : Own} {e p b : Value} {ts : List Int} {os : List (Int × Int × Int)} {zone : Nat → Option Nat} {n : Nat} {X : Nat → XLoc} {m : Nat → Mh} {L : Nat → RLoc} {M : Nat → RDat} {ma : Option Addr} {mc : Nat} (h : MI W wr o e p b ts os zone n X m L M ma mc) (hb : Below wr.heap.size wr w') : MI W w' o e p b ts os zone n X m L M ma mc :=
  ⟨h.ws.below hb rfl, h.ms.below hb, owns_same h.own (fun g hg => hb.block g (owns_lt h.own g hg).1), h.zu, h.zm, below_step h.bel hb rfl⟩

/-- A step on what the caller has. -/
theorem MI.owner {W wr w' : World} {o o' : Own} {e p b : Value} {ts ts' : List Int} {os os' : List (Int × Int × Int)} {zone : Nat → Option Nat} {n : Nat} {X : Nat → XLoc} {m : Nat → Mh} {L : Nat → RLoc} {M : Nat → RDat} {ma : Option Addr} {mc : Nat} (h : MI W wr o e p b ts os zone n X m L M ma mc)
    (hw : WSt w' W.heap.size W.heap.size o' (.slice ma n mc) e p b ts' os') (hb : Below W.heap.size wr w') (hg : OwnGo W.heap.size o o' wr w') :
    MI W w' o' e p b ts' os' zone n X m L M ma mc ∧ Touch (MZ W.heap.size o zone (.slice ma n mc)) wr w' ∧ ∀ b, b < wr.heap.size → MZ W.heap.size o' zone (.slice ma n mc) b → MZ W.heap.size o zone (.slice ma n mc) b := by
  refine ⟨⟨hw, h.ms.keep hg.1.size (fun b hz => hg.1.block b (h.ms.zlt b hz).2 (fun hu => hz (h.zu b hu))), owns_same h.own (fun g hg' => hg.1.block g (owns_lt h.own g hg').1 (h.apart hg')), fun b hu => ?_, h.zm, h.bel.trans hb⟩, hg.1.mono (fun b hu => Or.inr (Or.inl hu)), fun b hb' hz => ?_⟩
  · refine Classical.byContradiction fun hz => ?_
    exact hz (h.zu b (hg.2 b (h.ms.zlt b hz).2 hu))
  · rcases hz with q | q | q
    · exact Or.inl q
    · exact Or.inr (Or.inl (hg.2 b hb' q))
    · exact Or.inr (Or.inr q)

/-- A call on a machine. -/
theorem MI.call {W w w2 : World} {o : Own} {e p b : Value} {ts : List Int} {os : List (Int × Int × Int)} {zone zone' : Nat → Option Nat} {n : Nat} {X X' : Nat → XLoc} {m m' : Nat → Mh} {L L' : Nat → RLoc} {M M' : Nat → RDat} {ma : Option Addr} {mc : Nat} (h : MI W w o e p b ts os zone n X m L M ma mc)
    (hms : MS W w2 zone' n X' m' L' M') (hz : ∀ b, b < w.heap.size → zone' b = zone b) (hT : Touch (fun b => zone b ≠ none) w w2) (hp : pairsL X' L' n = pairsL X L n) :
    MI W w2 o e p b ts os zone' n X' m' L' M' ma mc ∧ Touch (MZ W.heap.size o zone (.slice ma n mc)) w w2 ∧ ∀ b, b < w.heap.size → MZ W.heap.size o zone' (.slice ma n mc) b → MZ W.heap.size o zone (.slice ma n mc) b := by
  refine ⟨⟨h.ws.keepU (fun b hu => hT.block b (h.ub_lt hu) (fun q => q (h.zu b hu))), hms, by rw [hp]; exact owns_same h.own (fun g hg => hT.block g (owns_lt h.own g hg).1 (fun q => q (h.zm g hg))), fun b hu => by rw [hz b (h.ub_lt hu)]; exact h.zu b hu, fun b hg => by rw [hz b (owns_lt h.own b hg).1]; exact h.zm b hg, ?_⟩, hT.mono (fun b q => Or.inl q), fun b hb hq => ?_⟩
  · exact h.bel.trans (hT.below _ h.bel.size (fun b q => (h.ms.zlt b q).1))
  · rcases hq with q | q | q
    · rw [hz b hb] at q; exact Or.inl q
    · exact Or.inr (Or.inl q)
    · exact Or.inr (Or.inr q)

theorem flatP (f : Nat → List Value) (z : Nat) (hf : ∀ i, (f i).length = z) : ∀ n : Nat, ((List.range n).flatMap f).length = n * z ∧ ∀ i j, i < n → j < z → ((List.range n).flatMap f)[i * z + j]? = (f i)[j]?
  | 0 => ⟨by simp, fun i j hi => by omega⟩
  | n + 1 => by
    obtain ⟨h1, h2⟩ := flatP f z hf n
    rw [List.range_succ, List.flatMap_append]
    have e : [n].flatMap f = f n := by simp
    rw [e]
    refine ⟨by rw [List.length_append, h1, hf, Nat.succ_mul], fun i j hi hj => ?_⟩
    by_cases c : i < n
    · have hlt : i * z + j < n * z := by
        have : (i + 1) * z ≤ n * z := Nat.mul_le_mul_right _ c
        rw [Nat.succ_mul] at this
        omega
      rw [List.getElem?_append_left (by rw [h1]; exact hlt), h2 i j c hj]
    · have ei : i = n := by omega
      subst ei
      rw [List.getElem?_append_right (by rw [h1]; omega), h1, show i * z + j - i * z = j by omega]

/-- A pair of the machines' list. -/
theorem pairs_at {X : Nat → XLoc} {L : Nat → RLoc} {n j : Nat} (hj : j < n) : (pairsL X L n)[j * 2]? = some (.pointer (some ⟨(X j).g, 0, none⟩)) ∧ (pairsL X L n)[j * 2 + 1]? = some (.pointer (some ⟨(L j).gr, 0, none⟩)) := by
  have h := flatP (fun j => [Value.pointer (some ⟨(X j).g, 0, none⟩), .pointer (some ⟨(L j).gr, 0, none⟩)]) 2 (fun _ => rfl) n
  exact ⟨h.2 j 0 hj (by omega), h.2 j 1 hj (by omega)⟩
theorem MI.pair {W wr : World} {o : Own} {e p b : Value} {ts : List Int} {os : List (Int × Int × Int)} {zone : Nat → Option Nat} {n : Nat} {X : Nat → XLoc} {m : Nat → Mh} {L : Nat → RLoc} {M : Nat → RDat} {ma : Option Addr} {mc : Nat} (h : MI W wr o e p b ts os zone n X m L M ma mc) {j : Nat} (hj : j < n) :
    ∃ g, ma = some ⟨g, 0, none⟩ ∧ n ≤ mc ∧ mc ≤ maxLen ∧ g < wr.heap.size ∧ wr.cell? ⟨g, j * 2, none⟩ = some (.pointer (some ⟨(X j).g, 0, none⟩)) ∧ wr.cell? ⟨g, j * 2 + 1, none⟩ = some (.pointer (some ⟨(L j).gr, 0, none⟩)) := by
  obtain ⟨g, cap, hv, _, _⟩ := World.ownsRow.form h.own (by omega)
  simp only [Value.slice.injEq] at hv
  obtain ⟨e1, _, e2⟩ := hv
  subst e1
  have hc := owns_cells h.own (fun i => if i % 2 = 0 then .pointer (some ⟨(X (i / 2)).g, 0, none⟩) else .pointer (some ⟨(L (i / 2)).gr, 0, none⟩)) (fun i hi => by
    have hp := pairs_at (X := X) (L := L) (n := n) (j := i / 2) (by omega)
    by_cases q : i % 2 = 0
    · rw [if_pos q]
      have : i = i / 2 * 2 := by omega
      rw [← hp.1, ← this]
    · rw [if_neg q]
      have : i = i / 2 * 2 + 1 := by omega
      rw [← hp.2, ← this])
  refine ⟨g, rfl, hc.2.1, hc.2.2.1, hc.2.2.2.2, ?_, ?_⟩
  · rw [hc.1.cell (by omega), if_pos (by omega), show j * 2 / 2 = j by omega]
  · rw [hc.1.cell (by omega), if_neg (by omega), show (j * 2 + 1) / 2 = j by omega]
end Go.Proofs.YtehheaedbnfidaaGreat

namespace Go.Proofs.YtehheaedbnfidaaGreat
open Go.RowKit

theorem MI.made {W w w6 wX w8 : World} {o : Own} {e p b : Value} {ts : List Int} {os : List (Int × Int × Int)} {zone : Nat → Option Nat} {n : Nat} {X : Nat → XLoc} {m : Nat → Mh} {L : Nat → RLoc} {M : Nat → RDat} {ma : Option Addr} {mc gg cap : Nat} {X' : XLoc} {m' : Mh} {L' : RLoc} {M' : RDat} (h : MI W w o e p b ts os zone n X m L M ma mc) (hb6 : Below w.heap.size w w6)
    (hM : MachM w6 (cnOf M'.c) X' m') (hR : RefM w6 L' M') (hx : ∀ b, X'.mine b → w.heap.size ≤ b) (hl : ∀ b, L'.own b → w.heap.size ≤ b ∧ b < w6.heap.size) (hd : ∀ b, X'.mine b → ¬ L'.own b) (hc : CfgAt W M'.c M'.s) (hp : PairD M' m') (hbX : Below w6.heap.size w6 wX)
    (hgrow : wX.grownBy w8 (Value.slice ma n mc).ownBlock) (hown : w8.ownsRow W.heap.size 50 2 (.slice (some ⟨gg, 0, none⟩) (n + 1) cap) (n + 1) (pairsL X L n ++ [.pointer (some ⟨X'.g, 0, none⟩), .pointer (some ⟨L'.gr, 0, none⟩)])) (hat : (Value.slice ma n mc).ownBlock = some gg ∨ w6.heap.size ≤ gg) :
    ∃ zone' X2 m2 L2 M2, MI W (w8.setCell ⟨W.heap.size, 3, none⟩ (.slice (some ⟨gg, 0, none⟩) (n + 1) cap)) o e p b ts os zone' (n + 1) X2 m2 L2 M2 (some ⟨gg, 0, none⟩) cap ∧ Touch (MZ W.heap.size o zone (.slice ma n mc)) w (w8.setCell ⟨W.heap.size, 3, none⟩ (.slice (some ⟨gg, 0, none⟩) (n + 1) cap)) ∧
      ∀ b, b < w.heap.size → MZ W.heap.size o zone' (.slice (some ⟨gg, 0, none⟩) (n + 1) cap) b → MZ W.heap.size o zone (.slice ma n mc) b := by
  have IX := (h.below hb6).below hbX
  have s6 := hb6.size
  have sX := hbX.size
  have s8 := hgrow.size
  have hWw := h.bel.size
  have gwlt := h.ws.row.lt
  have olt : ∀ g, (Value.slice ma n mc).ownBlock = some g → g < w.heap.size := fun g hg => (owns_lt h.own g hg).1
  have ag : (Value.slice ma n mc).ownBlock ≠ some W.heap.size := own_ne IX.own IX.ws.row (by decide)
  have sF : (w8.setCell ⟨W.heap.size, 3, none⟩ (.slice (some ⟨gg, 0, none⟩) (n + 1) cap)).heap.size = w8.heap.size := by simp [World.setCell]
  -- blocks that are neither the caller's box nor the machines' list
  have bF : ∀ g, g < w6.heap.size → g ≠ W.heap.size → (Value.slice ma n mc).ownBlock ≠ some g → (w8.setCell ⟨W.heap.size, 3, none⟩ (.slice (some ⟨gg, 0, none⟩) (n + 1) cap)).heap[g]? = w6.heap[g]? := fun g h1 h2 h3 => by
    rw [Below.heap_setCell _ _ _ _ (by exact h2), hgrow.block g (by omega) (fun q => h3 q.symm)]
    exact hbX.block g h1
  have bW : ∀ g, g < w.heap.size → g ≠ W.heap.size → (Value.slice ma n mc).ownBlock ≠ some g → (w8.setCell ⟨W.heap.size, 3, none⟩ (.slice (some ⟨gg, 0, none⟩) (n + 1) cap)).heap[g]? = w.heap[g]? := fun g h1 h2 h3 => (bF g (by omega) h2 h3).trans (hb6.block g h1)
  have hk : ∀ g, zone g ≠ none → (w8.setCell ⟨W.heap.size, 3, none⟩ (.slice (some ⟨gg, 0, none⟩) (n + 1) cap)).heap[g]? = w.heap[g]? := fun g hz => bW g (h.ms.zlt g hz).2 (fun q => hz (h.zu g (Or.inl q))) (fun q => hz (h.zm g q))
  have hMF := hM.same (w' := w8.setCell ⟨W.heap.size, 3, none⟩ (.slice (some ⟨gg, 0, none⟩) (n + 1) cap)) (by omega) (fun g hg => bF g (hM.labs.lt g hg) (by have := hx g hg; omega) (fun q => by have := hx g hg; have := olt g q; omega))
  have hRF := hR.same (w' := w8.setCell ⟨W.heap.size, 3, none⟩ (.slice (some ⟨gg, 0, none⟩) (n + 1) cap)) (fun g hg => bF g (hl g hg).2 (by have := (hl g hg).1; omega) (fun q => by have := (hl g hg).1; have := olt g q; omega))
  obtain ⟨zone', hms, hz, hnew⟩ := h.ms.more hWw hMF hRF hx (fun g hg => ⟨(hl g hg).1, by have := (hl g hg).2; omega⟩) hd hc hp (by omega) hk
  have hgg : zone' gg = none := by
    rcases hat with q | q
    · rw [hz gg (olt gg q)]
      exact h.zm gg q
    · refine Classical.byContradiction fun hne => ?_
      rcases hnew gg (by omega) hne with r | r
      · have := hM.labs.lt gg r
        omega
      · have := (hl gg r).2
        omega
  have r8 : Row w8 W.heap.size (ownL o (.slice ma n mc) e p b) 34 := IX.ws.row.same (hgrow.block _ IX.ws.row.lt (Ne.symm ag))
  have rF := r8.setCell 3 (.slice (some ⟨gg, 0, none⟩) (n + 1) cap)
  have gne : gg ≠ W.heap.size := fun q => own_ne hown r8 (by decide) (by rw [q]; rfl)
  refine ⟨zone', _, _, _, _, ⟨⟨rF, h.ws.hb, owns_same h.ws.tou (fun g hg => bW g (owns_lt h.ws.tou g hg).1 (fun q => by subst q; exact own_ne h.ws.tou h.ws.row (by decide) hg) (fun q => h.apart q (Or.inr (Or.inl hg)))), owns_same h.ws.ops (fun g hg => bW g (owns_lt h.ws.ops g hg).1 (fun q => by subst q; exact own_ne h.ws.ops h.ws.row (by decide) hg) (fun q => h.apart q (Or.inr (Or.inr hg))))⟩, hms, ?_, fun g hu => ?_, fun g hg => ?_, ?_⟩, ⟨?_, ?_, ?_, by omega, fun g hg hf => bW g hg (fun q => hf (Or.inr (Or.inl (Or.inl q)))) (fun q => hf (Or.inr (Or.inr q)))⟩, fun g hg hq => ?_⟩
  · rw [pairs_more]
    refine owns_same hown (fun g hg => Below.heap_setCell _ _ _ _ ?_)
    have : gg = g := by simpa [Value.ownBlock] using hg
    subst this
    exact gne
  · rw [hz g (h.ub_lt hu)]
    exact h.zu g hu
  · have : gg = g := by simpa [Value.ownBlock] using hg
    subst this
    exact hgg
  · refine (below_grown IX.bel (by have := IX.bel.size; omega) hgrow (fun g hg => (owns_lt h.own g hg).2)).setCell (p := ⟨W.heap.size, 3, none⟩) (Nat.le_refl _) _
  · exact hgrow.os.trans (hbX.os.trans hb6.os)
  · exact hgrow.tape.trans (hbX.tape.trans hb6.tape)
  · exact hgrow.output.trans (hbX.output.trans hb6.output)
  · rcases hq with q | q | q
    · rw [hz g hg] at q
      exact Or.inl q
    · exact Or.inr (Or.inl q)
    · have : gg = g := by simpa [Value.ownBlock] using q
      subst this
      rcases hat with r | r
      · exact Or.inr (Or.inr r)
      · omega
end Go.Proofs.YtehheaedbnfidaaGreat

namespace Go.Proofs.YtehheaedbnfidaaGreat
open Go.RowKit

abbrev prA (x l : Nat) : Array Value := #[.pointer (some ⟨x, 0, none⟩), .pointer (some ⟨l, 0, none⟩)]

/-- The boxes of given: the pair at g0, the step at g0 + 1. -/
structure GB (w wx : World) (x l : Nat) (st : St) : Prop where
  pr : Row wx w.heap.size [.pointer (some ⟨x, 0, none⟩), .pointer (some ⟨l, 0, none⟩)] 50
  op : Row wx (w.heap.size + 1) [.int .i64 st.k, .int .i64 st.a, .int .i64 st.b, .int .i64 st.c, .int .i64 st.d] 36
theorem GB.start (w : World) (x l : Nat) (st : St) : GB w ((w.alloc (.cells (prA x l) 50)).alloc (.cells (opA st) 36)) x l st := by
  have r1 : Row (w.alloc (.cells (prA x l) 50)) w.heap.size [.pointer (some ⟨x, 0, none⟩), .pointer (some ⟨l, 0, none⟩)] 50 := heap_alloc_new w _
  have r2 : Row ((w.alloc (.cells (prA x l) 50)).alloc (.cells (opA st) 36)) (w.alloc (.cells (prA x l) 50)).heap.size [.int .i64 st.k, .int .i64 st.a, .int .i64 st.b, .int .i64 st.c, .int .i64 st.d] 36 := heap_alloc_new _ _
  rw [World.size_alloc] at r2
  exact ⟨Row.alloc r1 _, r2⟩
theorem GB.touch {w wx wy : World} {x l : Nat} {st : St} {F : Nat → Prop} (h : GB w wx x l st) (hT : Touch F wx wy) (h0 : ¬ F w.heap.size) (h1 : ¬ F (w.heap.size + 1)) : GB w wy x l st :=
  ⟨h.pr.same (hT.block _ h.pr.lt h0), h.op.same (hT.block _ h.op.lt h1)⟩

/-- What a call leaves. -/
def After (W w w' : World) (o : Own) (e p b : Value) (ts : List Int) (os : List (Int × Int × Int)) (zone : Nat → Option Nat) (n : Nat) (ma : Option Addr) (mc : Nat) : Prop :=
  ∃ zone' X' m' L' M', MI W w' o e p b ts os zone' n X' m' L' M' ma mc ∧ Touch (MZ W.heap.size o zone (.slice ma n mc)) w w' ∧ ∀ b, b < w.heap.size → MZ W.heap.size o zone' (.slice ma n mc) b → MZ W.heap.size o zone (.slice ma n mc) b

/-- From the call's own world (with its boxes) to the caller's. -/
theorem MI.after {W w wb w2 : World} {o : Own} {e p b : Value} {ts : List Int} {os : List (Int × Int × Int)} {zone zone' : Nat → Option Nat} {n : Nat} {X X' : Nat → XLoc} {m m' : Nat → Mh} {L L' : Nat → RLoc} {M M' : Nat → RDat} {ma : Option Addr} {mc : Nat} (h : MI W w o e p b ts os zone n X m L M ma mc) (hb : Below w.heap.size w wb)
    (hms : MS W w2 zone' n X' m' L' M') (hz : ∀ b, b < wb.heap.size → zone' b = zone b) (hT : Touch (fun b => zone b ≠ none) wb w2) (hp : pairsL X' L' n = pairsL X L n) : After W w w2 o e p b ts os zone n ma mc := by
  obtain ⟨h1, h2, h3⟩ := (h.below hb).call hms hz hT hp
  refine ⟨zone', X', m', L', M', h1, ?_, fun g hg hq => h3 g (by have := hb.size; omega) hq⟩
  refine ⟨h2.os.trans hb.os, h2.tape.trans hb.tape, h2.output.trans hb.output, Nat.le_trans hb.size h2.size, fun g hg hf => (h2.block g (by have := hb.size; omega) hf).trans (hb.block g hg)⟩

set_option maxRecDepth 100000 in
set_option maxHeartbeats 3200000 in
theorem given_fill (W w : World) (o : Own) (e p b : Value) (ts : List Int) (os : List (Int × Int × Int)) (zone : Nat → Option Nat) (n : Nat) (X : Nat → XLoc) (m : Nat → Mh) (L : Nat → RLoc) (M : Nat → RDat) (ma : Option Addr) (mc : Nat) (h : MI W w o e p b ts os zone n X m L M ma mc) (j : Nat) (hj : j < n) (st : St) (hk : st.k = 13) :
    Calls Tryz.prog 21 #[.pointer (some ⟨W.heap.size, 0, none⟩), .agg (prA (X j).g (L j).gr), opV st] w fun x w' => x = .returned (.bool true) ∧ After W w w' o e p b ts os zone n ma mc := by
  obtain ⟨k, a, bb, cc, dd⟩ := st
  simp only at hk
  subst hk
  have hb0 : Below w.heap.size w ((w.alloc (.cells (prA (X j).g (L j).gr) 50)).alloc (.cells (opA ⟨13, a, bb, cc, dd⟩) 36)) := ((Below.refl _ _).alloc (Nat.le_refl _) _).alloc (by simp) _
  have G0 := GB.start w (X j).g (L j).gr ⟨13, a, bb, cc, dd⟩
  obtain ⟨wb, hwb⟩ : ∃ wb, (w.alloc (.cells (prA (X j).g (L j).gr) 50)).alloc (.cells (opA ⟨13, a, bb, cc, dd⟩) 36) = wb := ⟨_, rfl⟩
  rw [hwb] at hb0 G0
  have HWB : Hid _ := hwb
  have H1 := (h.below hb0).ms
  have hF := wFill_any (cnOf (M j).c) (X j) (m j) bb cc dd wb (H1.mach j hj)
  have hz := (h.ms.ref j hj).right
  have hT0 := (h.ms.ref j hj).T0
  have hl : ∀ d, d < (M j).c.domains.toNat → ((M j).ow d).length = (M j).c.priv.toNat := fun d hd => ((h.ms.ref j hj).oat d (by have := (h.ms.ref j hj).nd; omega)).1
  obtain ⟨pe, pp⟩ := (h.ms.pair j hj).fill hz hT0 hl bb cc dd
  rw [pe] at hF
  have p0 : wb.cell? ⟨w.heap.size, 0, none⟩ = some (.pointer (some ⟨(X j).g, 0, none⟩)) := G0.pr.cell 0
  have k0 : wb.cell? ⟨w.heap.size + 1, 0, none⟩ = some (.int .i64 13) := G0.op.cell 0
  have k2 : wb.cell? ⟨w.heap.size + 1, 2, none⟩ = some (.int .i64 bb) := G0.op.cell 2
  have k3 : wb.cell? ⟨w.heap.size + 1, 3, none⟩ = some (.int .i64 cc) := G0.op.cell 3
  have k4 : wb.cell? ⟨w.heap.size + 1, 4, none⟩ = some (.int .i64 dd) := G0.op.cell 4
  have l0 := G0.pr.lt
  have l1 := G0.op.lt
  have nx : ∀ g, w.heap.size ≤ g → ¬ (X j).mine g ∧ ¬ (L j).own g := fun g hg => ⟨fun q => by have := (h.ms.zlt g (by rw [h.ms.zx j g hj q]; simp)).2; omega, fun q => by have := (h.ms.zlt g (by rw [h.ms.zl j g hj q]; simp)).2; omega⟩
  have HH : Hid _ := h
  have HG0 : Hid _ := G0
  have HB0 : Hid _ := hb0
  have HPP : Hid _ := pp
  have HNX : Hid _ := nx
  have H1' : Hid _ := H1
  clear h hb0 G0 H1 hz hT0 hl pe pp nx hwb
  go_enter Tryz.func21, Tryz.ntmps21
  go_wp2_with fail
  rw [HWB.out]
  refine hF.mono ?_; rintro x w1 ⟨rfl, hM1, hG1⟩
  have G1 := HG0.out.touch hG1.tch (HNX.out _ (Nat.le_refl _)).1 (HNX.out _ (by omega)).1
  obtain ⟨hR1, hlt1⟩ := H1'.out.aside hj hG1
  have hR := rFill_any (L j) (M j) bb cc dd w1 hR1
  have p1 : w1.cell? ⟨w.heap.size, 1, none⟩ = some (.pointer (some ⟨(L j).gr, 0, none⟩)) := G1.pr.cell 1
  have q2 : w1.cell? ⟨w.heap.size + 1, 2, none⟩ = some (.int .i64 bb) := G1.op.cell 2
  have q3 : w1.cell? ⟨w.heap.size + 1, 3, none⟩ = some (.int .i64 cc) := G1.op.cell 3
  have q4 : w1.cell? ⟨w.heap.size + 1, 4, none⟩ = some (.int .i64 dd) := G1.op.cell 4
  have l0 := G1.pr.lt
  have l1 := G1.op.lt
  have HM1 : Hid _ := hM1
  have HG1 : Hid _ := hG1
  have HLT : Hid _ := hlt1
  clear hF p0 k0 k2 k3 k4 hM1 hG1 hR1 hlt1 G1
  go_wp2_with fail
  refine hR.mono ?_; rintro x w2 ⟨rfl, hR2, hT2⟩
  obtain ⟨zone', hms, hz', hT'⟩ := H1'.out.both hj HM1.out HG1.out hR2 hT2 (fun _ _ q => q) (fun b hb => Nat.lt_of_lt_of_le (HLT.out b hb) hT2.size) (by unfold fillM; split <;> rfl) (by unfold fillM; split <;> rfl) HPP.out
  have HA : Hid _ := HH.out.after HB0.out hms hz' hT' (pairs_same X L n j _ _ rfl rfl)
  clear hR hR2 hT2 hms hz' hT' p1 q2 q3 q4
  generalize fillE (M j) bb cc = ev
  go_wp2_with fail
  try go_quiet (fail)
  try go_wp2
  go_ret
  exact ⟨ret_bool (by simp), HA.out⟩

set_option maxRecDepth 100000 in
set_option maxHeartbeats 3200000 in
theorem given_share (W w : World) (o : Own) (e p b : Value) (ts : List Int) (os : List (Int × Int × Int)) (zone : Nat → Option Nat) (n : Nat) (X : Nat → XLoc) (m : Nat → Mh) (L : Nat → RLoc) (M : Nat → RDat) (ma : Option Addr) (mc : Nat) (h : MI W w o e p b ts os zone n X m L M ma mc) (j : Nat) (hj : j < n) (st : St) (hk : st.k = 14) :
    Calls Tryz.prog 21 #[.pointer (some ⟨W.heap.size, 0, none⟩), .agg (prA (X j).g (L j).gr), opV st] w fun x w' => x = .returned (.bool true) ∧ After W w w' o e p b ts os zone n ma mc := by
  obtain ⟨k, a, bb, cc, dd⟩ := st
  simp only at hk
  subst hk
  have hb0 : Below w.heap.size w ((w.alloc (.cells (prA (X j).g (L j).gr) 50)).alloc (.cells (opA ⟨14, a, bb, cc, dd⟩) 36)) := ((Below.refl _ _).alloc (Nat.le_refl _) _).alloc (by simp) _
  have G0 := GB.start w (X j).g (L j).gr ⟨14, a, bb, cc, dd⟩
  obtain ⟨wb, hwb⟩ : ∃ wb, (w.alloc (.cells (prA (X j).g (L j).gr) 50)).alloc (.cells (opA ⟨14, a, bb, cc, dd⟩) 36) = wb := ⟨_, rfl⟩
  rw [hwb] at hb0 G0
  have HWB : Hid _ := hwb
  have H1 := (h.below hb0).ms
  have hF := wShare_any (cnOf (M j).c) (X j) (m j) bb cc wb (H1.mach j hj)
  have hz := (h.ms.ref j hj).right
  have hT0 := (h.ms.ref j hj).T0
  have hl : (M j).cm.length = (M j).c.shared.toNat := by have := (h.ms.ref j hj).clen; have := (h.ms.ref j hj).ns; omega
  obtain ⟨pe, pp⟩ := (h.ms.pair j hj).share hz hT0 hl bb cc
  rw [pe] at hF
  have p0 : wb.cell? ⟨w.heap.size, 0, none⟩ = some (.pointer (some ⟨(X j).g, 0, none⟩)) := G0.pr.cell 0
  have k0 : wb.cell? ⟨w.heap.size + 1, 0, none⟩ = some (.int .i64 14) := G0.op.cell 0
  have k2 : wb.cell? ⟨w.heap.size + 1, 2, none⟩ = some (.int .i64 bb) := G0.op.cell 2
  have k3 : wb.cell? ⟨w.heap.size + 1, 3, none⟩ = some (.int .i64 cc) := G0.op.cell 3
  have l0 := G0.pr.lt
  have l1 := G0.op.lt
  have nx : ∀ g, w.heap.size ≤ g → ¬ (X j).mine g ∧ ¬ (L j).own g := fun g hg => ⟨fun q => by have := (h.ms.zlt g (by rw [h.ms.zx j g hj q]; simp)).2; omega, fun q => by have := (h.ms.zlt g (by rw [h.ms.zl j g hj q]; simp)).2; omega⟩
  have HH : Hid _ := h
  have HG0 : Hid _ := G0
  have HB0 : Hid _ := hb0
  have HPP : Hid _ := pp
  have HNX : Hid _ := nx
  have H1' : Hid _ := H1
  clear h hb0 G0 H1 hz hT0 hl pe pp nx hwb
  go_enter Tryz.func21, Tryz.ntmps21
  go_wp2_with fail
  rw [HWB.out]
  refine hF.mono ?_; rintro x w1 ⟨rfl, hM1, hG1⟩
  have G1 := HG0.out.touch hG1.tch (HNX.out _ (Nat.le_refl _)).1 (HNX.out _ (by omega)).1
  obtain ⟨hR1, hlt1⟩ := H1'.out.aside hj hG1
  have hR := rShare_any (L j) (M j) bb cc w1 hR1
  have p1 : w1.cell? ⟨w.heap.size, 1, none⟩ = some (.pointer (some ⟨(L j).gr, 0, none⟩)) := G1.pr.cell 1
  have q2 : w1.cell? ⟨w.heap.size + 1, 2, none⟩ = some (.int .i64 bb) := G1.op.cell 2
  have q3 : w1.cell? ⟨w.heap.size + 1, 3, none⟩ = some (.int .i64 cc) := G1.op.cell 3
  have l0 := G1.pr.lt
  have l1 := G1.op.lt
  have HM1 : Hid _ := hM1
  have HG1 : Hid _ := hG1
  have HLT : Hid _ := hlt1
  clear hF p0 k0 k2 k3 hM1 hG1 hR1 hlt1 G1
  go_wp2_with fail
  refine hR.mono ?_; rintro x w2 ⟨rfl, hR2, hT2⟩
  obtain ⟨zone', hms, hz', hT'⟩ := H1'.out.both hj HM1.out HG1.out hR2 hT2 (fun _ _ q => q) (fun b hb => Nat.lt_of_lt_of_le (HLT.out b hb) hT2.size) (by unfold shareM; split <;> rfl) (by unfold shareM; split <;> rfl) HPP.out
  have HA : Hid _ := HH.out.after HB0.out hms hz' hT' (pairs_same X L n j _ _ rfl rfl)
  clear hR hR2 hT2 hms hz' hT' p1 q2 q3
  generalize shareE (M j) bb = ev
  go_wp2_with fail
  try go_quiet (fail)
  try go_wp2
  go_ret
  exact ⟨ret_bool (by simp), HA.out⟩

set_option maxRecDepth 100000 in
set_option maxHeartbeats 3200000 in
theorem given_run (W w : World) (o : Own) (e p b : Value) (ts : List Int) (os : List (Int × Int × Int)) (zone : Nat → Option Nat) (n : Nat) (X : Nat → XLoc) (m : Nat → Mh) (L : Nat → RLoc) (M : Nat → RDat) (ma : Option Addr) (mc : Nat) (h : MI W w o e p b ts os zone n X m L M ma mc) (j : Nat) (hj : j < n) (st : St) (hk : st.k = 15) :
    Calls Tryz.prog 21 #[.pointer (some ⟨W.heap.size, 0, none⟩), .agg (prA (X j).g (L j).gr), opV st] w fun x w' => x = .returned (.bool true) ∧ After W w w' o e p b ts os zone n ma mc := by
  obtain ⟨k, a, bb, cc, dd⟩ := st
  simp only at hk
  subst hk
  have hb0 : Below w.heap.size w ((w.alloc (.cells (prA (X j).g (L j).gr) 50)).alloc (.cells (opA ⟨15, a, bb, cc, dd⟩) 36)) := ((Below.refl _ _).alloc (Nat.le_refl _) _).alloc (by simp) _
  have G0 := GB.start w (X j).g (L j).gr ⟨15, a, bb, cc, dd⟩
  obtain ⟨wb, hwb⟩ : ∃ wb, (w.alloc (.cells (prA (X j).g (L j).gr) 50)).alloc (.cells (opA ⟨15, a, bb, cc, dd⟩) 36) = wb := ⟨_, rfl⟩
  rw [hwb] at hb0 G0
  have HWB : Hid _ := hwb
  have H1 := (h.below hb0).ms
  have hF := wRun_any (cnOf (M j).c) (X j) (m j) bb wb (H1.mach j hj) ((h.ms.pair j hj).ok (h.ms.ref j hj).right (h.ms.ref j hj).T0).1
  have hz := (h.ms.ref j hj).right
  have hT0 := (h.ms.ref j hj).T0
  obtain ⟨pe, pp⟩ := (h.ms.pair j hj).runs hz hT0 bb
  rw [pe] at hF
  have p0 : wb.cell? ⟨w.heap.size, 0, none⟩ = some (.pointer (some ⟨(X j).g, 0, none⟩)) := G0.pr.cell 0
  have k0 : wb.cell? ⟨w.heap.size + 1, 0, none⟩ = some (.int .i64 15) := G0.op.cell 0
  have k2 : wb.cell? ⟨w.heap.size + 1, 2, none⟩ = some (.int .i64 bb) := G0.op.cell 2
  have l0 := G0.pr.lt
  have l1 := G0.op.lt
  have nx : ∀ g, w.heap.size ≤ g → ¬ (X j).mine g ∧ ¬ (L j).own g := fun g hg => ⟨fun q => by have := (h.ms.zlt g (by rw [h.ms.zx j g hj q]; simp)).2; omega, fun q => by have := (h.ms.zlt g (by rw [h.ms.zl j g hj q]; simp)).2; omega⟩
  have HH : Hid _ := h
  have HG0 : Hid _ := G0
  have HB0 : Hid _ := hb0
  have HPP : Hid _ := pp
  have HNX : Hid _ := nx
  have H1' : Hid _ := H1
  clear h hb0 G0 H1 hz hT0 pe pp nx hwb
  go_enter Tryz.func21, Tryz.ntmps21
  go_wp2_with fail
  rw [HWB.out]
  refine hF.mono ?_; rintro x w1 ⟨rfl, X', hM1, hG1⟩
  have G1 := HG0.out.touch hG1.tch (HNX.out _ (Nat.le_refl _)).1 (HNX.out _ (by omega)).1
  obtain ⟨hR1, hlt1⟩ := H1'.out.aside hj hG1
  have hR := rRun_any (L j) (M j) bb w1 hR1
  have p1 : w1.cell? ⟨w.heap.size, 1, none⟩ = some (.pointer (some ⟨(L j).gr, 0, none⟩)) := G1.pr.cell 1
  have q2 : w1.cell? ⟨w.heap.size + 1, 2, none⟩ = some (.int .i64 bb) := G1.op.cell 2
  have l0 := G1.pr.lt
  have l1 := G1.op.lt
  have HM1 : Hid _ := hM1
  have HG1 : Hid _ := hG1
  have HLT : Hid _ := hlt1
  clear hF p0 k0 k2 hM1 hG1 hR1 hlt1 G1
  go_wp2_with fail
  refine hR.mono ?_; rintro x w2 ⟨rfl, hR2, hT2⟩
  obtain ⟨zone', hms, hz', hT'⟩ := H1'.out.both hj HM1.out HG1.out hR2 hT2 (fun _ _ q => q) (fun b hb => Nat.lt_of_lt_of_le (HLT.out b hb) hT2.size) rfl rfl HPP.out
  have HA : Hid _ := HH.out.after HB0.out hms hz' hT' (pairs_same X L n j _ _ HG1.out.g rfl)
  clear hR hR2 hT2 hms hz' hT' p1 q2
  generalize runE (M j) bb = ev
  go_wp2_with fail
  try go_quiet (fail)
  try go_wp2
  go_ret
  exact ⟨ret_bool (by simp), HA.out⟩

set_option maxRecDepth 100000 in
set_option maxHeartbeats 3200000 in
theorem given_now (W w : World) (o : Own) (e p b : Value) (ts : List Int) (os : List (Int × Int × Int)) (zone : Nat → Option Nat) (n : Nat) (X : Nat → XLoc) (m : Nat → Mh) (L : Nat → RLoc) (M : Nat → RDat) (ma : Option Addr) (mc : Nat) (h : MI W w o e p b ts os zone n X m L M ma mc) (j : Nat) (hj : j < n) (st : St) (hk : st.k = 16) :
    Calls Tryz.prog 21 #[.pointer (some ⟨W.heap.size, 0, none⟩), .agg (prA (X j).g (L j).gr), opV st] w fun x w' => x = .returned (.bool true) ∧ After W w w' o e p b ts os zone n ma mc := by
  obtain ⟨k, a, bb, cc, dd⟩ := st
  simp only at hk
  subst hk
  have hb0 : Below w.heap.size w ((w.alloc (.cells (prA (X j).g (L j).gr) 50)).alloc (.cells (opA ⟨16, a, bb, cc, dd⟩) 36)) := ((Below.refl _ _).alloc (Nat.le_refl _) _).alloc (by simp) _
  have G0 := GB.start w (X j).g (L j).gr ⟨16, a, bb, cc, dd⟩
  obtain ⟨wb, hwb⟩ : ∃ wb, (w.alloc (.cells (prA (X j).g (L j).gr) 50)).alloc (.cells (opA ⟨16, a, bb, cc, dd⟩) 36) = wb := ⟨_, rfl⟩
  rw [hwb] at hb0 G0
  have HWB : Hid _ := hwb
  have H1 := (h.below hb0).ms
  have hF := wNow_any (cnOf (M j).c) (X j) (m j) wb (H1.mach j hj)
  have hn := ((h.ms.pair j hj).ok (h.ms.ref j hj).right (h.ms.ref j hj).T0).2
  rw [hn] at hF
  have p0 : wb.cell? ⟨w.heap.size, 0, none⟩ = some (.pointer (some ⟨(X j).g, 0, none⟩)) := G0.pr.cell 0
  have p1 : wb.cell? ⟨w.heap.size, 1, none⟩ = some (.pointer (some ⟨(L j).gr, 0, none⟩)) := G0.pr.cell 1
  have k0 : wb.cell? ⟨w.heap.size + 1, 0, none⟩ = some (.int .i64 16) := G0.op.cell 0
  have c16 : wb.cell? ⟨(L j).gr, 16, none⟩ = some (.int .i64 (M j).T) := by rw [(H1.ref j hj).row.cell]; rfl
  have l0 := G0.pr.lt
  have l1 := G0.op.lt
  have l2 := (H1.ref j hj).row.lt
  have HA : Hid (∀ w2, Below wb.heap.size wb w2 → After W w w2 o e p b ts os zone n ma mc) := fun w2 hb2 => ⟨zone, X, m, L, M, (h.below hb0).below hb2, Touch.of_below (below_step hb0 hb2 rfl) (Nat.le_refl _), fun _ _ q => q⟩
  clear h hb0 G0 H1 hn hwb
  generalize (M j).T = tv at *
  go_enter Tryz.func21, Tryz.ntmps21
  go_wp2_with fail
  rw [HWB.out]
  refine hF.mono ?_; rintro x w1 ⟨rfl, rfl⟩
  clear hF
  go_wp2_with fail
  try go_quiet (fail)
  try go_wp2
  go_ret
  exact ⟨ret_bool (by simp), HA.out _ (by first | exact Below.refl _ _ | exact ⟨rfl, rfl, rfl, Nat.le_refl _, fun _ _ => rfl⟩)⟩
end Go.Proofs.YtehheaedbnfidaaGreat
