/-
  The walk of wallslaw's Checks.
-/
import Derived.Test.YtcmcfafhllpojaaGreatPlays
import Derived.Test.YtcmcfafhllpojaaGreatStep3
namespace Go.Proofs.YtcmcfafhllpojaaGreat
open Go.RowKit

/-- What a script keeps where it makes no machine. -/
def Inv (W : World) (ca : Option Addr) (cl cc : Nat) (k : Nat) (wr : World) : Prop :=
  Below W.heap.size W wr ∧ ∃ o ts os, o.ca = ca ∧ o.cl = cl ∧ o.cc = cc ∧ WSt wr W.heap.size W.heap.size o (.slice none 0 0) (.slice none 0 0) (.slice none 0 0) (.slice none 0 0) ts os ∧ ts.length ≤ k ∧ os.length ≤ k

theorem Inv.start (W : World) (ca : Option Addr) (cl cc : Nat) : Inv W ca cl cc 0 (W.alloc (.cells #[.slice ca cl cc, .slice none 0 0, .slice none 0 0, .slice none 0 0, .slice none 0 0, .slice none 0 0, .slice none 0 0] 59)) :=
  ⟨(Below.refl _ _).alloc (Nat.le_refl _) _, ⟨ca, cl, cc, none, 0, 0, none, 0, 0⟩, [], [], rfl, rfl, rfl, ⟨heap_alloc_new W _, Nat.le_refl _, World.ownsRow_nil _ _ _ _, World.ownsRow_nil _ _ _ _⟩, Nat.le_refl _, Nat.le_refl _⟩

theorem Inv.below {W : World} {ca : Option Addr} {cl cc : Nat} {k : Nat} {wr w' : World} (h : Inv W ca cl cc k wr) (hb : Below wr.heap.size wr w') : Inv W ca cl cc k w' := by
  obtain ⟨h0, o, ts, os, h1, h2, h3, h4, h5, h6⟩ := h
  exact ⟨below_step h0 hb rfl, o, ts, os, h1, h2, h3, h4.below hb rfl, h5, h6⟩

theorem Inv.succ {W : World} {ca : Option Addr} {cl cc : Nat} {k : Nat} {wr : World} (h : Inv W ca cl cc k wr) : Inv W ca cl cc (k + 1) wr := by
  obtain ⟨h0, o, ts, os, h1, h2, h3, h4, h5, h6⟩ := h
  exact ⟨h0, o, ts, os, h1, h2, h3, h4, Nat.le_succ_of_le h5, Nat.le_succ_of_le h6⟩

/-- A step that is no call. -/
theorem Inv.own {W : World} {ca : Option Addr} {cl cc : Nat} {k : Nat} {wr : World} (h : Inv W ca cl cc k wr) (st : St) (hk : st.k < 5) (hz : k * 40 ≤ 140737488351232) :
    Calls Tryz.prog 23 #[.pointer (some ⟨W.heap.size, 0, none⟩), opV st] wr fun x w' => x = .returned (.bool true) ∧ Inv W ca cl cc (k + 1) w' ∧ KeepO wr w' := by
  have hI := h
  obtain ⟨h0, o, ts, os, h1, h2, h3, h4, h5, h6⟩ := h
  have bW : Below wr.heap.size wr (wr.alloc (.cells (opA st) 61)) := (Below.refl _ _).alloc (Nat.le_refl _) _
  have h4' := h4.below bW rfl
  have hb' : Below W.heap.size wr (wr.alloc (.cells (opA st) 61)) := bW.mono h0.size
  by_cases k1 : st.k < 1
  · refine (step_out W.heap.size st wr (Or.inl k1)).mono ?_
    rintro x w' ⟨rfl, b⟩
    exact ⟨rfl, (hI.below b).succ, KeepO.below b rfl⟩
  · have cases : st.k = 1 ∨ st.k = 2 ∨ st.k = 3 ∨ st.k = 4 := by omega
    rcases cases with e | e | e | e
    · refine (step_own W.heap.size st wr (fun w' => Inv W ca cl cc (k + 1) w' ∧ KeepO wr w') ?_)
      refine (owner_touch W.heap.size W.heap.size o _ _ _ _ ts os st _ h4' e (by omega)).mono ?_
      rintro x w' ⟨rfl, o', a1, a2, a3, a4, a5, a6⟩
      exact ⟨rfl, ⟨(h0.trans hb').trans a5, o', _, _, a1.trans h1, a2.trans h2, a3.trans h3, a4, by simp; omega, by omega⟩, (KeepO.below bW rfl).trans a6⟩
    · refine (step_own W.heap.size st wr (fun w' => Inv W ca cl cc (k + 1) w' ∧ KeepO wr w') ?_)
      refine (owner_fresh W.heap.size W.heap.size o _ _ _ _ ts os st _ h4' e).mono ?_
      rintro x w' ⟨rfl, o', a1, a2, a3, a4, a5, a6⟩
      exact ⟨rfl, ⟨(h0.trans hb').trans a5, o', _, _, a1.trans h1, a2.trans h2, a3.trans h3, a4, by simp, by omega⟩, (KeepO.below bW rfl).trans a6⟩
    · refine (step_own W.heap.size st wr (fun w' => Inv W ca cl cc (k + 1) w' ∧ KeepO wr w') ?_)
      refine (owner_op W.heap.size W.heap.size o _ _ _ _ ts os st _ h4' e (by omega)).mono ?_
      rintro x w' ⟨rfl, o', a1, a2, a3, a4, a5, a6⟩
      exact ⟨rfl, ⟨(h0.trans hb').trans a5, o', _, _, a1.trans h1, a2.trans h2, a3.trans h3, a4, by omega, by simp; omega⟩, (KeepO.below bW rfl).trans a6⟩
    · refine (step_own W.heap.size st wr (fun w' => Inv W ca cl cc (k + 1) w' ∧ KeepO wr w') ?_)
      refine (owner_none W.heap.size W.heap.size o _ _ _ _ ts os st _ h4' e).mono ?_
      rintro x w' ⟨rfl, o', a1, a2, a3, a4, a5, a6⟩
      exact ⟨rfl, ⟨(h0.trans hb').trans a5, o', _, _, a1.trans h1, a2.trans h2, a3.trans h3, a4, by omega, by simp⟩, (KeepO.below bW rfl).trans a6⟩

/-- A call on a configuration, by its plan's contract. -/
theorem Inv.plan {W : World} {ca : Option Addr} {cl cc : Nat} {k : Nat} {wr : World} {cfs : Nat → Cf} (h : Inv W ca cl cc k wr) (hcs : CsAt W ca cl cc cfs) (st : St) (hr : StR st) (hk1 : 5 ≤ st.k) (hk2 : st.k ≤ 9)
    (hplan : ∀ (c : Cf) (s : Sl) (w : World), CfgAt w c s → CfR c → Calls Tryz.prog 46 #[cfgV c s, opV st] w fun e w' => e = .returned (.bool true) ∧ Below w.heap.size w w') :
    Calls Tryz.prog 23 #[.pointer (some ⟨W.heap.size, 0, none⟩), opV st] wr fun x w' => x = .returned (.bool true) ∧ Inv W ca cl cc (k + 1) w' ∧ KeepO wr w' := by
  have hI := h
  obtain ⟨h0, o, ts, os, h1, h2, h3, h4, h5, h6⟩ := h
  subst h1 h2 h3
  by_cases hp : o.cl = 0
  · refine (step_nocs W.heap.size W.heap.size o _ _ _ _ ts os st wr h4 hk1 (by omega) (by omega) hp).mono ?_
    rintro x w' ⟨rfl, b⟩
    exact ⟨rfl, (hI.below b).succ, KeepO.below b rfl⟩
  · refine (step_plan W.heap.size W.heap.size o _ _ _ _ ts os st wr h4 hr cfs (hcs.below h0 (Nat.le_refl _)) hk1 hk2 (by omega) hplan).mono ?_
    rintro x w' ⟨rfl, b⟩
    exact ⟨rfl, (hI.below b).succ, KeepO.below b rfl⟩

theorem Inv.looks {W : World} {ca : Option Addr} {cl cc : Nat} {k : Nat} {wr : World} (h : Inv W ca cl cc k wr) :
    Calls Tryz.prog 24 #[.pointer (some ⟨W.heap.size, 0, none⟩)] wr fun x w' => x = .returned (.bool true) ∧ Inv W ca cl cc k w' ∧ KeepO wr w' := by
  have hI := h
  obtain ⟨h0, o, ts, os, h1, h2, h3, h4, h5, h6⟩ := h
  refine (looks_none W.heap.size W.heap.size o _ ts os wr h4).mono ?_
  rintro x w' ⟨rfl, rfl⟩
  exact ⟨rfl, hI, KeepO.refl _⟩

theorem ints_lit {w : World} {g : Nat} {A : List Int} {t : TypeId} (h : Row w g (A.map (Value.int .i64)) t) (hA : A.length ≤ 100) : Ints w (some ⟨g, 0, none⟩) A.length A.length A := by
  refine ⟨rfl, Nat.le_refl _, by unfold maxLen; omega, (fun h => by cases h), fun i hi => ⟨g, 0, rfl, ?_⟩⟩
  rw [Nat.zero_add, h.cell, List.getElem?_map]
  simp [List.getD, hi]

set_option maxRecDepth 100000 in
set_option maxHeartbeats 800000 in
theorem checks_any (w : World) (ca : Option Addr) (cl cc : Nat) (cfs : Nat → Cf) (sa : Option Addr) (sl sc : Nat) (sts : Nat → St) (h1 : CsAt w ca cl cc cfs) (h2 : ScAt w sa sl sc sts) :
    Calls Tryz.prog 3 #[.slice ca cl cc, .slice sa sl sc] w fun x w' => x = .returned (.bool true) ∧ Below w.heap.size w w' := by
  have b0 : Below w.heap.size w ((w.alloc (.cells #[.int .i64 5] 3)).alloc (.cells #[.int .i64 5] 3)) := ((Below.refl _ _).alloc (Nat.le_refl _) _).alloc (by simp) _
  have r1 : Row ((w.alloc (.cells #[.int .i64 5] 3)).alloc (.cells #[.int .i64 5] 3)) w.heap.size [.int .i64 5] 3 := by
    have : Row (w.alloc (.cells #[.int .i64 5] 3)) w.heap.size [.int .i64 5] 3 := heap_alloc_new w _
    exact this.alloc _
  have r2 : Row ((w.alloc (.cells #[.int .i64 5] 3)).alloc (.cells #[.int .i64 5] 3)) (w.heap.size + 1) [.int .i64 5] 3 := by
    have := heap_alloc_new (w.alloc (.cells #[.int .i64 5] 3)) (.cells #[.int .i64 5] 3)
    rw [World.size_alloc] at this
    exact this
  go_enter Tryz.func3, Tryz.ntmps3
  go_wp2_with fail
  generalize (w.alloc (.cells #[.int .i64 5] 3)).alloc (.cells #[.int .i64 5] 3) = W at *
  have hcs := h1.below b0 (Nat.le_refl _)
  have hsc := h2.below b0 (Nat.le_refl _)
  refine (plays_any W ca cl cc sa sl sc sts _ 1 1 [5] _ 1 1 [5] hsc (ints_lit (A := [5]) r1 (by decide)) (ints_lit (A := [5]) r2 (by decide)) (Inv W ca cl cc) (Inv.start W ca cl cc) (fun i wr h => h.1) (fun i wr w' h b => h.below b) (fun i wr h => h.succ) ?_ (fun i wr h => h.looks)).mono ?_
  · intro i wr hi hk hI
    have hz := hsc.hmax
    have hzl := hsc.hle
    obtain ⟨_, _, _, _, hr⟩ := hsc.hat i hi
    by_cases h5 : (sts i).k < 5
    · exact hI.own (sts i) h5 (by omega)
    · have e : (sts i).k = 5 := by
        rcases hk with hk | hk
        · exact absurd hk h5
        · simpa using hk
      exact hI.plan hcs (sts i) hr (by omega) (by omega) (fun c s w hc hr => plan_check c s (sts i) w hc hr e)
  · rintro x w' ⟨rfl, b⟩
    go_wp2
    go_ret
    exact ⟨rfl, below_step b0 b rfl⟩
end Go.Proofs.YtcmcfafhllpojaaGreat
