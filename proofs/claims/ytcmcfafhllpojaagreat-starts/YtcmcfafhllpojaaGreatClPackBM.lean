/-
  StartI, StartsK, StartsP
-/
import Derived.Test.YtcmcfafhllpojaaGreatClMade
import Derived.Test.YtcmcfafhllpojaaGreatClGivenG
import Derived.Test.YtcmcfafhllpojaaGreatClStepM
import Derived.Test.YtcmcfafhllpojaaGreatClPackBD
import Derived.Test.YtcmcfafhllpojaaGreatClPackBJ
import Derived.Test.YtcmcfafhllpojaaGreatRows
import Derived.Test.YtcmcfafhllpojaaGreatClPackX
namespace Go.Proofs.YtcmcfafhllpojaaGreat
open Go.RowKit

abbrev nilV : Value := .slice none 0 0

def IZ (W : World) (ca : Option Addr) (cl cc : Nat) (Z : Nat → Prop) (k : Nat) (wr : World) : Prop :=
  ∃ o ts os zone n X m L M ma mc, o.ca = ca ∧ o.cl = cl ∧ o.cc = cc ∧ MI W wr o nilV nilV nilV ts os zone n X m L M ma mc ∧ ts.length ≤ k ∧ os.length ≤ k ∧ n ≤ k ∧ Z = MZ W.heap.size o zone (.slice ma n mc)

theorem IZ.start (W : World) (ca : Option Addr) (cl cc : Nat) (X : Nat → XLoc) (m : Nat → Mh) (L : Nat → RLoc) (M : Nat → RDat) : ∃ Z, IZ W ca cl cc Z 0 (W.alloc (.cells #[.slice ca cl cc, .slice none 0 0, .slice none 0 0, .slice none 0 0, .slice none 0 0, .slice none 0 0, .slice none 0 0] 59)) :=
  ⟨_, ⟨ca, cl, cc, none, 0, 0, none, 0, 0⟩, [], [], fun _ => none, 0, X, m, L, M, none, 0, rfl, rfl, rfl, ⟨⟨heap_alloc_new W _, Nat.le_refl _, World.ownsRow_nil _ _ _ _, World.ownsRow_nil _ _ _ _⟩, MS.start _ _ _ _ _ _, World.ownsRow_nil _ _ _ _, fun _ _ => rfl, fun _ _ => rfl, (Below.refl _ _).alloc (Nat.le_refl _) _⟩, Nat.le_refl _, Nat.le_refl _, Nat.le_refl _, rfl⟩

theorem IZ.bel {W : World} {ca : Option Addr} {cl cc : Nat} {Z : Nat → Prop} {k : Nat} {wr : World} (h : IZ W ca cl cc Z k wr) : Below W.heap.size W wr := by
  obtain ⟨o, ts, os, zone, n, X, m, L, M, ma, mc, _, _, _, h4, _⟩ := h
  exact h4.bel
theorem IZ.lt {W : World} {ca : Option Addr} {cl cc : Nat} {Z : Nat → Prop} {k : Nat} {wr : World} (h : IZ W ca cl cc Z k wr) : ∀ b, Z b → b < wr.heap.size := by
  obtain ⟨o, ts, os, zone, n, X, m, L, M, ma, mc, _, _, _, h4, _, _, _, rfl⟩ := h
  exact fun b hb => h4.lt hb
theorem IZ.below {W : World} {ca : Option Addr} {cl cc : Nat} {Z : Nat → Prop} {k : Nat} {wr w' : World} (h : IZ W ca cl cc Z k wr) (hb : Below wr.heap.size wr w') : IZ W ca cl cc Z k w' := by
  obtain ⟨o, ts, os, zone, n, X, m, L, M, ma, mc, h1, h2, h3, h4, h5, h6, h7, h8⟩ := h
  exact ⟨o, ts, os, zone, n, X, m, L, M, ma, mc, h1, h2, h3, h4.below hb, h5, h6, h7, h8⟩
theorem IZ.succ {W : World} {ca : Option Addr} {cl cc : Nat} {Z : Nat → Prop} {k : Nat} {wr : World} (h : IZ W ca cl cc Z k wr) : IZ W ca cl cc Z (k + 1) wr := by
  obtain ⟨o, ts, os, zone, n, X, m, L, M, ma, mc, h1, h2, h3, h4, h5, h6, h7, h8⟩ := h
  exact ⟨o, ts, os, zone, n, X, m, L, M, ma, mc, h1, h2, h3, h4, by omega, by omega, by omega, h8⟩

/-- What a step leaves. -/
def StepZ (W : World) (ca : Option Addr) (cl cc : Nat) (Z : Nat → Prop) (k : Nat) (wr w' : World) : Prop := ∃ Z', IZ W ca cl cc Z' (k + 1) w' ∧ Touch Z wr w' ∧ ∀ b, b < wr.heap.size → Z' b → Z b
theorem IZ.same {W : World} {ca : Option Addr} {cl cc : Nat} {Z : Nat → Prop} {k : Nat} {wr w' : World} (h : IZ W ca cl cc Z k wr) (hb : Below wr.heap.size wr w') : StepZ W ca cl cc Z k wr w' := ⟨Z, (h.below hb).succ, Touch.of_below hb (Nat.le_refl _), fun _ _ q => q⟩
theorem StepZ.low {W : World} {ca : Option Addr} {cl cc : Nat} {Z : Nat → Prop} {k : Nat} {wr w2 w' : World} (h : StepZ W ca cl cc Z k w2 w') (hb : Below wr.heap.size wr w2) : StepZ W ca cl cc Z k wr w' := by
  obtain ⟨Z', h1, h2, h3⟩ := h
  have := hb.size
  exact ⟨Z', h1, ⟨h2.os.trans hb.os, h2.tape.trans hb.tape, h2.output.trans hb.output, Nat.le_trans hb.size h2.size, fun g hg hf => (h2.block g (by omega) hf).trans (hb.block g hg)⟩, fun b hb' hz => h3 b (by omega) hz⟩

/-- A step that is no call. -/
theorem IZ.own {W : World} {ca : Option Addr} {cl cc : Nat} {Z : Nat → Prop} {k : Nat} {wr : World} (h : IZ W ca cl cc Z k wr) (st : St) (hk : st.k < 5) (hz : k * 40 ≤ 140737488351232) :
    Calls Tryz.prog 23 #[.pointer (some ⟨W.heap.size, 0, none⟩), opV st] wr fun x w' => x = .returned (.bool true) ∧ StepZ W ca cl cc Z k wr w' := by
  have hI := h
  obtain ⟨o, ts, os, zone, n, X, m, L, M, ma, mc, h1, h2, h3, h4, h5, h6, h7, rfl⟩ := h
  have bW : Below wr.heap.size wr (wr.alloc (.cells (opA st) 61)) := (Below.refl _ _).alloc (Nat.le_refl _) _
  have h4' := h4.below bW
  by_cases k1 : st.k < 1
  · refine (step_out W.heap.size st wr (Or.inl k1)).mono ?_
    rintro x w' ⟨rfl, b⟩
    exact ⟨rfl, hI.same b⟩
  · have cases : st.k = 1 ∨ st.k = 2 ∨ st.k = 3 ∨ st.k = 4 := by omega
    rcases cases with e | e | e | e
    · refine step_own W.heap.size st wr (fun w' => StepZ W ca cl cc _ k wr w') ?_
      refine (owner_touchT W.heap.size W.heap.size o _ _ _ _ ts os st _ h4'.ws e (by omega)).mono ?_
      rintro x w' ⟨rfl, o', a1, a2, a3, a4, a5, _, a7⟩
      obtain ⟨g1, g2, g3⟩ := h4'.owner a4 a5 a7
      exact ⟨rfl, StepZ.low ⟨_, ⟨o', _, _, zone, n, X, m, L, M, ma, mc, a1.trans h1, a2.trans h2, a3.trans h3, g1, by simp; omega, by omega, by omega, rfl⟩, g2, g3⟩ bW⟩
    · refine step_own W.heap.size st wr (fun w' => StepZ W ca cl cc _ k wr w') ?_
      refine (owner_freshT W.heap.size W.heap.size o _ _ _ _ ts os st _ h4'.ws e).mono ?_
      rintro x w' ⟨rfl, o', a1, a2, a3, a4, a5, _, a7⟩
      obtain ⟨g1, g2, g3⟩ := h4'.owner a4 a5 a7
      exact ⟨rfl, StepZ.low ⟨_, ⟨o', _, _, zone, n, X, m, L, M, ma, mc, a1.trans h1, a2.trans h2, a3.trans h3, g1, by simp, by omega, by omega, rfl⟩, g2, g3⟩ bW⟩
    · refine step_own W.heap.size st wr (fun w' => StepZ W ca cl cc _ k wr w') ?_
      refine (owner_opT W.heap.size W.heap.size o _ _ _ _ ts os st _ h4'.ws e (by omega)).mono ?_
      rintro x w' ⟨rfl, o', a1, a2, a3, a4, a5, _, a7⟩
      obtain ⟨g1, g2, g3⟩ := h4'.owner a4 a5 a7
      exact ⟨rfl, StepZ.low ⟨_, ⟨o', _, _, zone, n, X, m, L, M, ma, mc, a1.trans h1, a2.trans h2, a3.trans h3, g1, by omega, by simp; omega, by omega, rfl⟩, g2, g3⟩ bW⟩
    · refine step_own W.heap.size st wr (fun w' => StepZ W ca cl cc _ k wr w') ?_
      refine (owner_noneT W.heap.size W.heap.size o _ _ _ _ ts os st _ h4'.ws e).mono ?_
      rintro x w' ⟨rfl, o', a1, a2, a3, a4, a5, _, a7⟩
      obtain ⟨g1, g2, g3⟩ := h4'.owner a4 a5 a7
      exact ⟨rfl, StepZ.low ⟨_, ⟨o', _, _, zone, n, X, m, L, M, ma, mc, a1.trans h1, a2.trans h2, a3.trans h3, g1, by omega, by simp, by omega, rfl⟩, g2, g3⟩ bW⟩

/-- New. -/
theorem IZ.made {W : World} {ca : Option Addr} {cl cc : Nat} {Z : Nat → Prop} {k : Nat} {wr : World} {cfs : Nat → Cf} (h : IZ W ca cl cc Z k wr) (hcs : CsAt W ca cl cc cfs) (st : St) (hr : StR st) (hk : st.k = 11) (hz : k * 40 ≤ 140737488351232) :
    Calls Tryz.prog 23 #[.pointer (some ⟨W.heap.size, 0, none⟩), opV st] wr fun x w' => x = .returned (.bool true) ∧ StepZ W ca cl cc Z k wr w' := by
  have hI := h
  obtain ⟨o, ts, os, zone, n, X, m, L, M, ma, mc, h1, h2, h3, h4, h5, h6, h7, rfl⟩ := h
  subst h1 h2 h3
  by_cases hp : o.cl = 0
  · refine (step_nocs W.heap.size W.heap.size o _ _ _ _ ts os st wr h4.ws (by omega) (by omega) (by omega) hp).mono ?_
    rintro x w' ⟨rfl, b⟩
    exact ⟨rfl, hI.same b⟩
  · refine step_made W W.heap.size W.heap.size o _ _ _ _ ts os st wr h4.ws hr cfs hcs h4.bel hk (by omega) (fun w' => StepZ W o.ca o.cl o.cc _ k wr w') (fun c s w2 hC hc hb => ?_)
    have up : ∀ w', AfterN W w2 w' o nilV nilV nilV ts os zone n ma mc → StepZ W o.ca o.cl o.cc (MZ W.heap.size o zone (.slice ma n mc)) k wr w' := fun w' hA => by
      obtain ⟨n', ma', mc', zone', X', m', L', M', hn, g1, g2, g3⟩ := hA
      exact StepZ.low ⟨_, ⟨o, ts, os, zone', n', X', m', L', M', ma', mc', rfl, rfl, rfl, g1, by omega, by omega, by omega, rfl⟩, g2, g3⟩ hb
    by_cases hz0 : chk c = 0
    · refine (made_good W w2 o _ _ _ ts os zone n X m L M ma mc (h4.below hb) c s hC hc hz0 (by omega)).mono ?_
      rintro x w' ⟨rfl, hA⟩
      exact ⟨rfl, up w' hA⟩
    · refine (made_bad W w2 o _ _ _ ts os zone n X m L M ma mc (h4.below hb) c s hC hc hz0).mono ?_
      rintro x w' ⟨rfl, hA⟩
      exact ⟨rfl, up w' hA⟩

/-- Give, Fill, Share, Run, Now. -/
theorem IZ.given {W : World} {ca : Option Addr} {cl cc : Nat} {Z : Nat → Prop} {k : Nat} {wr : World} (h : IZ W ca cl cc Z k wr) (st : St) (hr : StR st) (hk1 : 12 ≤ st.k) (hk2 : st.k ≤ 16) (hz : k * 40 ≤ 140737488351232) :
    Calls Tryz.prog 23 #[.pointer (some ⟨W.heap.size, 0, none⟩), opV st] wr fun x w' => x = .returned (.bool true) ∧ StepZ W ca cl cc Z k wr w' := by
  have hI := h
  obtain ⟨o, ts, os, zone, n, X, m, L, M, ma, mc, h1, h2, h3, h4, h5, h6, h7, rfl⟩ := h
  by_cases hp : n = 0
  · subst hp
    refine (step_noms W.heap.size W.heap.size o mc ma _ _ _ ts os st wr h4.ws hk1 (by omega)).mono ?_
    rintro x w' ⟨rfl, b⟩
    exact ⟨rfl, hI.same b⟩
  · obtain ⟨g, e1, e2, e3, e4, _⟩ := h4.pair (j := 0) (by omega)
    subst e1
    refine step_given W.heap.size W.heap.size o n mc g _ _ _ ts os st wr h4.ws hr hk1 hk2 (by omega) e2 e3 e4 (fun j => (X j).g) (fun j => (L j).gr) (fun j hj => ?_) (fun w' => StepZ W ca cl cc _ k wr w') (fun j w2 hj hb => ?_)
    · obtain ⟨g', q1, _, _, _, q5, q6⟩ := h4.pair hj
      simp only [Option.some.injEq, Addr.mk.injEq, and_true] at q1
      subst q1
      exact ⟨q5, q6⟩
    · have up : ∀ w', After W w2 w' o nilV nilV nilV ts os zone n (some ⟨g, 0, none⟩) mc → StepZ W ca cl cc (MZ W.heap.size o zone (.slice (some ⟨g, 0, none⟩) n mc)) k wr w' := fun w' hA => by
        obtain ⟨zone', X', m', L', M', g1, g2, g3⟩ := hA
        exact StepZ.low ⟨_, ⟨o, ts, os, zone', n, X', m', L', M', _, mc, h1, h2, h3, g1, by omega, by omega, by omega, rfl⟩, g2, g3⟩ hb
      have I2 := h4.below hb
      have cases : st.k = 12 ∨ st.k = 13 ∨ st.k = 14 ∨ st.k = 15 ∨ st.k = 16 := by omega
      rcases cases with e | e | e | e | e
      · refine (given_give W w2 o _ _ _ ts os zone n X m L M _ mc I2 j hj st e (by omega)).mono ?_
        rintro x w' ⟨rfl, hA⟩
        exact ⟨rfl, up w' hA⟩
      · refine (given_fill W w2 o _ _ _ ts os zone n X m L M _ mc I2 j hj st e).mono ?_
        rintro x w' ⟨rfl, hA⟩
        exact ⟨rfl, up w' hA⟩
      · refine (given_share W w2 o _ _ _ ts os zone n X m L M _ mc I2 j hj st e).mono ?_
        rintro x w' ⟨rfl, hA⟩
        exact ⟨rfl, up w' hA⟩
      · refine (given_run W w2 o _ _ _ ts os zone n X m L M _ mc I2 j hj st e).mono ?_
        rintro x w' ⟨rfl, hA⟩
        exact ⟨rfl, up w' hA⟩
      · refine (given_now W w2 o _ _ _ ts os zone n X m L M _ mc I2 j hj st e).mono ?_
        rintro x w' ⟨rfl, hA⟩
        exact ⟨rfl, up w' hA⟩

theorem IZ.looks {W : World} {ca : Option Addr} {cl cc : Nat} {Z : Nat → Prop} {k : Nat} {wr : World} (h : IZ W ca cl cc Z k wr) :
    Calls Tryz.prog 24 #[.pointer (some ⟨W.heap.size, 0, none⟩)] wr fun x w' => x = .returned (.bool true) ∧ IZ W ca cl cc Z k w' ∧ Below wr.heap.size wr w' := by
  have hI := h
  obtain ⟨o, ts, os, zone, n, X, m, L, M, ma, mc, h1, h2, h3, h4, h5, h6, h7, rfl⟩ := h
  refine (looks_none W.heap.size W.heap.size o _ ts os wr h4.ws).mono ?_
  rintro x w' ⟨rfl, rfl⟩
  exact ⟨rfl, hI, Below.refl _ _⟩

theorem ints_litZ {w : World} {g : Nat} {A : List Int} {t : TypeId} (h : Row w g (A.map (Value.int .i64)) t) (hA : A.length ≤ 100) : Ints w (some ⟨g, 0, none⟩) A.length A.length A := by
  refine ⟨rfl, Nat.le_refl _, by unfold maxLen; omega, (fun h => by cases h), fun i hi => ⟨g, 0, rfl, ?_⟩⟩
  rw [Nat.zero_add, h.cell, List.getElem?_map]
  simp [List.getD, hi]
end Go.Proofs.YtcmcfafhllpojaaGreat

namespace Go.Proofs.YtcmcfafhllpojaaGreat
open Go.RowKit

def locX : XLoc := ⟨0, sl0, ⟨0, 0, fun _ => 0, fun _ => 0, none, 0, 0⟩, ⟨0, 0, fun _ => 0, fun _ => 0⟩, 0, 0, 0, fun _ => 0, fun _ _ => none, fun _ => ⟨0, 0, fun _ => 0, fun _ => 0, fun _ => none, fun _ => 0, fun _ => 0⟩, fun _ => none, fun _ => 0, fun _ => 0, fun _ => none, fun _ => 0, fun _ => 0, fun _ => none⟩
def locL : RLoc := ⟨0, 0, 0, 0, 0, 0, 0, fun _ => 0, fun _ => 0, []⟩
def datL : RDat := ⟨cf0, sl0, fun _ => [], fun _ => [], [], 0⟩

set_option maxRecDepth 100000 in
set_option maxHeartbeats 1600000 in
theorem starts_any (w : World) (ca : Option Addr) (cl cc : Nat) (cfs : Nat → Cf) (sa : Option Addr) (sl sc : Nat) (sts : Nat → St) (h1 : CsAt w ca cl cc cfs) (h2 : ScAt w sa sl sc sts) :
    Calls Tryz.prog 7 #[.slice ca cl cc, .slice sa sl sc] w fun x w' => x = .returned (.bool true) ∧ Below w.heap.size w w' := by
  have b0 : Below w.heap.size w (w.alloc (.cells #[.int .i64 11, .int .i64 12, .int .i64 13, .int .i64 14, .int .i64 15, .int .i64 16] 3)) := (Below.refl _ _).alloc (Nat.le_refl _) _
  have r1 : Row (w.alloc (.cells #[.int .i64 11, .int .i64 12, .int .i64 13, .int .i64 14, .int .i64 15, .int .i64 16] 3)) w.heap.size [.int .i64 11, .int .i64 12, .int .i64 13, .int .i64 14, .int .i64 15, .int .i64 16] 3 := heap_alloc_new w _
  go_enter Tryz.func7, Tryz.ntmps7
  go_wp2_with fail
  generalize w.alloc (.cells #[.int .i64 11, .int .i64 12, .int .i64 13, .int .i64 14, .int .i64 15, .int .i64 16] 3) = W at *
  have hcs := h1.below b0 (Nat.le_refl _)
  have hsc := h2.below b0 (Nat.le_refl _)
  refine (playsZ_any W ca cl cc sa sl sc sts _ 6 6 [11, 12, 13, 14, 15, 16] _ 6 6 [11, 12, 13, 14, 15, 16] hsc (ints_litZ (A := [11, 12, 13, 14, 15, 16]) r1 (by decide)) (ints_litZ (A := [11, 12, 13, 14, 15, 16]) r1 (by decide)) (IZ W ca cl cc) (IZ.start W ca cl cc (fun _ => locX) (fun _ => mkM (fun _ _ => []) (fun _ _ => 0) (fun _ => 0)) (fun _ => locL) (fun _ => datL)) (fun Z i wr h => h.bel) (fun Z i wr h => h.lt) (fun Z i wr w' h b => h.below b) (fun Z i wr h => h.succ) ?_ (fun Z i wr h => h.looks)).mono ?_
  · intro Z i wr hi hk hI
    have hz := hsc.hmax
    have hzl := hsc.hle
    obtain ⟨_, _, _, _, hr⟩ := hsc.hat i hi
    by_cases h5 : (sts i).k < 5
    · exact hI.own (sts i) h5 (by omega)
    · have e : (sts i).k = 11 ∨ (12 ≤ (sts i).k ∧ (sts i).k ≤ 16) := by
        rcases hk with hk | hk
        · exact absurd hk h5
        · have : (sts i).k = 11 ∨ (sts i).k = 12 ∨ (sts i).k = 13 ∨ (sts i).k = 14 ∨ (sts i).k = 15 ∨ (sts i).k = 16 := by simpa using hk
          omega
      rcases e with e | ⟨e1, e2⟩
      · exact hI.made hcs (sts i) hr e (by omega)
      · exact hI.given (sts i) hr e1 e2 (by omega)
  · rintro x w' ⟨rfl, b⟩
    go_wp2
    go_ret
    exact ⟨rfl, below_step b0 b rfl⟩
end Go.Proofs.YtcmcfafhllpojaaGreat

namespace Go.Proofs.YtcmcfafhllpojaaGreat
open Go.ChangeShapes Go.WideShapes Go.ChangeAt Go.RowKit

theorem Tryz.own : ownKnob Tryz.prog.godebug = none := by kernel_rfl
theorem Tryz.laidOut : laidOutB Tryz.prog = true := by kernel_rfl

set_option maxRecDepth 100000 in
theorem starts_lifted (os : Os) (started : os.Started) (H : Type) (enc : TypeId × Value → H) :
    ReturnsInHanded {} Tryz.checked os 7 .any (Rows.startsSpec.pre6 enc Tryz.prog Tryz.f7 Rows.startsRow.domain false) (Rows.startsSpec.post enc Tryz.prog Tryz.f7 false true false false) := by
  refine returnsInHanded_of_change_sized (C := Tryz.checked) Tryz.own started (by kernel_rfl) Tryz.func7
    (ChangeSpec.witness6 (enc := enc) (C := Tryz.checked) false ⟨#[], #[.slice none 0 0, .slice none 0 0], []⟩ 8 (by kernel_rfl) (by kernel_rfl) (by kernel_rfl) (by kernel_rfl)) ?_
  intro W base args ds gs before hval0 hW _ hsz0 _
  have hsz : (DataW.weightsEach Tryz.prog (Tryz.f7.params.toList ++ Rows.startsSpec.plain.varTypes Tryz.prog) (ds ++ gs)).all (· ≤ reachBytes) = true := hsz0
  clear hsz0
  have hval : ∀ (j : Nat) t v, Tryz.f7.params[j]? = some t → args[j]? = some v → Value.okWide Tryz.prog W .any base t v := hval0
  have hW' := hW
  obtain ⟨p, q, hA0, hV, rfl, _, _⟩ := hW
  have hA : DataW.TrodAll enc Tryz.prog W 0 (fun _ => true) true Tryz.f7.params.toList args.toList ds p := hA0
  rw [Tryz.params7] at hA hval hsz
  obtain ⟨v0, v1, d0, d1, p0, p1, rfl, rfl, rfl, h0, h1⟩ := trodAll_two hA
  obtain ⟨rfl, rfl⟩ := trodVars_none hV
  clear hA0 hval0
  simp only [List.append_nil] at hW'
  have lt0 : ∀ x ∈ p0, x.block < W.heap.size := fun x hx => hW'.lt x (by simp [hx])
  have lt1 : ∀ x ∈ p1, x.block < W.heap.size := fun x hx => hW'.lt x (by simp [hx])
  have z0 : Sized Tryz.prog 22 d0 := fun n hn => by
    have := List.all_eq_true.1 hsz _ (DataW.weights_mem_each (j := 0) (t := 22) rfl rfl n hn)
    simpa using this
  have z1 : Sized Tryz.prog 23 d1 := fun n hn => by
    have := List.all_eq_true.1 hsz _ (DataW.weights_mem_each (j := 1) (t := 23) rfl rfl n hn)
    simpa using this
  obtain ⟨a0, l0, c0, rfl⟩ := okWide_slice Tryz.underlying22 (hval 0 22 v0 rfl rfl)
  obtain ⟨a1, l1, c1, rfl⟩ := okWide_slice Tryz.underlying23 (hval 1 23 v1 rfl rfl)
  have h0k := h0
  have h1k := h1
  obtain ⟨f0, hf0⟩ := h0
  obtain ⟨f1, hf1⟩ := h1
  obtain ⟨ca, cl, cc, cfs, e0, hcs⟩ := read_cs (n := f0) (v := .slice a0 l0 c0) (by simpa [Value.cells] using hf0) z0
  obtain ⟨sa, sl, sc, sts, e1, hsc⟩ := read_sc (n := f1) (v := .slice a1 l1 c1) (by simpa [Value.cells] using hf1) z1
  simp only [Value.slice.injEq] at e0 e1
  obtain ⟨rfl, rfl, rfl⟩ := e0
  obtain ⟨rfl, rfl, rfl⟩ := e1
  refine (starts_any W _ _ _ cfs _ _ _ sts hcs hsc).mono fun e W' ⟨he, hb⟩ => ?_
  subst he
  have ar0 := Below.trod Tryz.laidOut (by kernel_rfl) (of_decide_eq_true (by kernel_rfl)) h0k hb lt0
  have ar1 := Below.trod Tryz.laidOut (by kernel_rfl) (of_decide_eq_true (by kernel_rfl)) h1k hb lt1
  refine ⟨_, rfl, _, _, _, [], p0 ++ p1, [], hW', ?_, trodAll_mk2 ar0 ar1, rfl, hb.frame _, fun h => by cases h⟩
  exact trodAll_mk1 (shut_bool Tryz.underlying4 true)

theorem starts_holds : Rows.StartsSaid :=
  OpenClaim.holds_of_wide 7 Tryz.f7 rfl rfl rfl rfl rfl rfl rfl ⟨rfl, rfl, rfl, rfl, rfl⟩ rfl rfl rfl rfl rfl (by kernel_rfl) Tryz.func7 (by kernel_rfl)
    (of_decide_eq_true (by kernel_rfl)) (by unfold Func.isWrapper; first | (rw [if_pos (by decide +kernel)]; kernel_rfl) | (rw [if_neg (by decide +kernel)]; exact ⟨rfl, rfl⟩))
    (fun os started H enc _ => starts_lifted os started H enc)

#print axioms starts_holds
end Go.Proofs.YtcmcfafhllpojaaGreat
