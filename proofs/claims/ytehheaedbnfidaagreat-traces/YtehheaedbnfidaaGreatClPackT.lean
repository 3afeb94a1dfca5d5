/-
  NewG, NewH, NewJ
-/
import Derived.Test.YtehheaedbnfidaaGreatClPackQ
import Derived.Test.YtehheaedbnfidaaGreatClPackR
import Derived.Test.YtehheaedbnfidaaGreatClPackAW
import Derived.Test.YtehheaedbnfidaaGreatClPackS
import Derived.Deep.WholeRow
import Derived.Great.Walk
namespace Go.Proofs.YtehheaedbnfidaaGreat
open Go.RowKit

/-- Where a machine that was just made lies. -/
structure YLoc where
  s : Sl
  e : ELoc
  n : NLoc
  dm : Nat
  dc : Nat
  P : Nat → Nat
  f : Nat → FLoc

def YLoc.loc (Y : YLoc) (g ck : Nat) (lab : Nat → Option (Nat × Nat)) : XLoc :=
  ⟨g, Y.s, Y.e, Y.n, Y.dm, Y.dc, ck, Y.P, fun _ _ => none, Y.f, fun _ => none, fun _ => 0, fun _ => 0, fun _ => none, fun _ => 0, fun _ => 0, lab⟩

structure Parts (w : World) (N : Cn) (Y : YLoc) (a0 a1 a2 a3 : Nat) (lo hi : Nat → Nat) : Prop where
  cfg : CfgAt w N.c Y.s
  cfgr : ∀ b, CfgB Y.s w b → a0 ≤ b ∧ b < a1
  mem : MemM w N.nd N.pv N.sn Y.e (fun _ _ => 0) (fun _ => 0)
  memr : a1 ≤ Y.e.r ∧ Y.e.r < a2 ∧ ∀ b, Y.e.own N.nd b → a1 ≤ b ∧ b < a2 ∧ b ≠ Y.e.r
  near : NearM w N.nc N.nn Y.n (fun _ _ => cpE)
  nearr : a2 ≤ Y.n.r ∧ Y.n.r < a3 ∧ ∀ b, Y.n.own N.nc b → a2 ≤ b ∧ b < a3 ∧ b ≠ Y.n.r
  wks : Cells w a3 (N.nc * 3) 182 (fun i => wkV ⟨false, 0, 0⟩ (i % 3))
  dom : Cells w Y.dm (N.nd * 4) 144 (fun i => domV N (Y.loc 0 a3 fun _ => none) (i / 4) (i % 4))
  dcap : N.nd ≤ Y.dc ∧ Y.dc ≤ maxLen
  dmr : a3 < Y.dm ∧ ∀ d, d < N.nd → ¬ (lo d ≤ Y.dm ∧ Y.dm < hi d)
  prg : ∀ d, d < N.nd → Cells w (Y.P d) (N.nc * 2) 161 (fun i => if i % 2 = 0 then .slice none 0 0 else .int .i64 0)
  far : ∀ d, d < N.nd → FarM w N.ns (N.wn d) (Y.f d) (fun _ _ => bkE) (fun _ => [])
  fta : ∀ d, d < N.nd → ∀ s, (Y.f d).ta s = none
  rng : ∀ d, d < N.nd → a3 < lo d ∧ hi d ≤ w.heap.size ∧ lo d ≤ Y.P d ∧ Y.P d < hi d ∧ ∀ b, (Y.f d).own N.ns b → lo d ≤ b ∧ b < hi d ∧ b ≠ Y.P d
  inc : ∀ d e, d < e → e < N.nd → hi d ≤ lo e
  ord : a0 ≤ a1 ∧ a1 ≤ a2 ∧ a2 ≤ a3

def domLab (P lo hi : Nat → Nat) (b : Nat) : Nat → Option (Nat × Nat)
  | 0 => none
  | n + 1 => if b = P n then some (8, n) else if lo n ≤ b ∧ b < hi n then some (10, n) else domLab P lo hi b n

def labOf (N : Cn) (Y : YLoc) (g a0 a1 a2 a3 : Nat) (lo hi : Nat → Nat) (b : Nat) : Option (Nat × Nat) :=
  if b = g then some (0, 0) else if a0 ≤ b ∧ b < a1 then some (1, 0) else if b = Y.e.r then some (2, 0) else if a1 ≤ b ∧ b < a2 then some (3, 0)
  else if b = Y.n.r then some (4, 0) else if a2 ≤ b ∧ b < a3 then some (5, 0) else if b = a3 then some (7, 0) else if b = Y.dm then some (6, 0) else domLab Y.P lo hi b N.nd

theorem domLab_at {P lo hi : Nat → Nat} {b d : Nat} : ∀ {n : Nat}, d < n → (∀ e, e < n → lo e ≤ P e ∧ P e < hi e) → (∀ e f, e < f → f < n → hi e ≤ lo f) → lo d ≤ b → b < hi d → domLab P lo hi b n = if b = P d then some (8, d) else some (10, d)
  | 0, h, _, _, _, _ => by omega
  | n + 1, h, hP, hi', h1, h2 => by
    unfold domLab
    by_cases e : d = n
    · subst e
      by_cases c : b = P d
      · rw [if_pos c, if_pos c]
      · rw [if_neg c, if_neg c, if_pos ⟨h1, h2⟩]
    · have hdn := hi' d n (by omega) (by omega)
      have hPn := hP n (by omega)
      rw [if_neg (by omega), if_neg (by omega)]
      exact domLab_at (by omega) (fun e he => hP e (by omega)) (fun e f h3 h4 => hi' e f h3 (by omega)) h1 h2
theorem domLab_lt {P lo hi : Nat → Nat} {b m : Nat} : ∀ {n : Nat}, (∀ e, e < n → P e < hi e ∧ hi e ≤ m) → domLab P lo hi b n ≠ none → b < m
  | 0, _, h => by simp [domLab] at h
  | n + 1, hP, h => by
    have h1 := hP n (by omega)
    unfold domLab at h
    split at h
    · omega
    · split at h
      · omega
      · exact domLab_lt (fun e he => hP e (by omega)) h

theorem Parts.mach {w : World} {N : Cn} {Y : YLoc} {a0 a1 a2 a3 : Nat} {lo hi : Nat → Nat} (h : Parts w N Y a0 a1 a2 a3 lo hi) (hN : CnOk N) :
    ∃ X, X.g = w.heap.size ∧ MachM (w.alloc (.cells (mchL N (Y.loc w.heap.size a3 fun _ => none) 0).toArray 100)) N X (mkM (fun _ _ => []) (fun _ _ => 0) (fun _ => 0)) ∧ ∀ b, X.mine b → a0 ≤ b := by
  have hb : Below w.heap.size w (w.alloc (.cells (mchL N (Y.loc w.heap.size a3 fun _ => none) 0).toArray 100)) := (Below.refl _ _).alloc (Nat.le_refl _) _
  have hck := h.wks.lt
  have hdm := h.dom.lt
  obtain ⟨o1, o2, o3⟩ := h.ord
  have hrow : Row (w.alloc (.cells (mchL N (Y.loc w.heap.size a3 fun _ => none) 0).toArray 100)) w.heap.size (mchL N (Y.loc w.heap.size a3 fun _ => none) 0) 100 := heap_alloc_new w _
  have hcf := h.cfg.same (w' := w.alloc (.cells (mchL N (Y.loc w.heap.size a3 fun _ => none) 0).toArray 100)) (fun b hb' => hb.block b (by have := (h.cfgr b hb').2; omega))
  have hlt : ∀ b, labOf N Y w.heap.size a0 a1 a2 a3 lo hi b ≠ none → b ≤ w.heap.size ∧ a0 ≤ b := fun b hl => by
    have m1 := h.memr
    have m2 := h.nearr
    have m3 := h.dmr.1
    unfold labOf at hl
    split at hl
    · omega
    split at hl
    · omega
    split at hl
    · omega
    split at hl
    · omega
    split at hl
    · omega
    split at hl
    · omega
    split at hl
    · omega
    split at hl
    · omega
    · have h1 := domLab_lt (m := w.heap.size) (fun e he => ⟨(h.rng e he).2.2.2.1, (h.rng e he).2.1⟩) hl
      refine ⟨by omega, ?_⟩
      have : ∀ n, n ≤ N.nd → domLab Y.P lo hi b n ≠ none → a0 ≤ b := fun n => by
        induction n with
        | zero => intro _ hh; simp [domLab] at hh
        | succ n ih =>
          intro hn hh
          have h2 := h.rng n (by omega)
          unfold domLab at hh
          split at hh
          · omega
          · split at hh
            · omega
            · exact ih (by omega) hh
      exact this N.nd (Nat.le_refl _) hl
  have hlab : ∀ d, d < N.nd → ∀ b, lo d ≤ b → b < hi d → labOf N Y w.heap.size a0 a1 a2 a3 lo hi b = if b = Y.P d then some (8, d) else some (10, d) := fun d hd b h1 h2 => by
    have h3 := h.rng d hd
    have m1 := h.memr
    have m2 := h.nearr
    have m3 := h.dmr.2 d hd
    unfold labOf
    rw [if_neg (by omega), if_neg (by omega), if_neg (by omega), if_neg (by omega), if_neg (by omega), if_neg (by omega), if_neg (by omega), if_neg (by omega)]
    exact domLab_at hd (fun e he => ⟨(h.rng e he).2.2.1, (h.rng e he).2.2.2.1⟩) h.inc h1 h2
  refine ⟨Y.loc w.heap.size a3 (labOf N Y w.heap.size a0 a1 a2 a3 lo hi), rfl, ⟨hN.nok, hN.right, Int.le_refl _, by show (0 : Int) ≤ 10000; omega, hrow, hcf.1, h.mem.below hb (Nat.le_refl _), h.near.below hb (Nat.le_refl _), h.dom.below hb (Nat.le_refl _), h.dcap, fun d hd => ?_, fun d k _ _ => Or.inl ⟨rfl, rfl⟩, fun d hd => (h.far d hd).below hb (Nat.le_refl _), fun d hd => ⟨rfl, Or.inl ⟨rfl, rfl, rfl⟩⟩, fun d hd => ⟨rfl, by simp [World.ownsRow, YLoc.loc, mkM]⟩, h.wks.below hb (Nat.le_refl _), ?_⟩, fun b hb' => (hlt b hb').2⟩
  · refine ((h.prg d hd).below hb (Nat.le_refl _)).congr fun i _ => ?_
    unfold prgV
    by_cases e : i % 2 = 0 <;> simp [e, YLoc.loc, mkM]
  · have m1 := h.memr
    have m2 := h.nearr
    have m3 := h.dmr.1
    refine ⟨fun b hl => ?_, ?_, fun b hb' => ?_, ?_, fun b hb' => ?_, ?_, fun b hb' => ?_, ?_, ?_, fun d hd => ?_, fun d k _ _ b off e => ?_, fun d hd b hb' => ?_, fun d hd b hb' => ?_, fun d _ b off e => ?_, fun d _ b off e => ?_⟩
    · rw [World.size_alloc]
      have := (hlt b hl).1
      omega
    · show labOf N Y w.heap.size a0 a1 a2 a3 lo hi w.heap.size = _
      unfold labOf; rw [if_pos rfl]
    · have h1 := h.cfgr b (hcf.2 b hb')
      show labOf N Y w.heap.size a0 a1 a2 a3 lo hi b = _
      unfold labOf; rw [if_neg (by omega), if_pos h1]
    · show labOf N Y w.heap.size a0 a1 a2 a3 lo hi Y.e.r = _
      unfold labOf; rw [if_neg (by omega), if_neg (by omega), if_pos rfl]
    · have h1 := m1.2.2 b hb'
      show labOf N Y w.heap.size a0 a1 a2 a3 lo hi b = _
      unfold labOf; rw [if_neg (by omega), if_neg (by omega), if_neg h1.2.2, if_pos ⟨h1.1, h1.2.1⟩]
    · show labOf N Y w.heap.size a0 a1 a2 a3 lo hi Y.n.r = _
      unfold labOf; rw [if_neg (by omega), if_neg (by omega), if_neg (by omega), if_neg (by omega), if_pos rfl]
    · have h1 := m2.2.2 b hb'
      show labOf N Y w.heap.size a0 a1 a2 a3 lo hi b = _
      unfold labOf; rw [if_neg (by omega), if_neg (by omega), if_neg (by omega), if_neg (by omega), if_neg h1.2.2, if_pos ⟨h1.1, h1.2.1⟩]
    · show labOf N Y w.heap.size a0 a1 a2 a3 lo hi Y.dm = _
      unfold labOf; rw [if_neg (by omega), if_neg (by omega), if_neg (by omega), if_neg (by omega), if_neg (by omega), if_neg (by omega), if_neg (by omega), if_pos rfl]
    · show labOf N Y w.heap.size a0 a1 a2 a3 lo hi a3 = _
      unfold labOf; rw [if_neg (by omega), if_neg (by omega), if_neg (by omega), if_neg (by omega), if_neg (by omega), if_neg (by omega), if_pos rfl]
    · have h1 := h.rng d hd
      show labOf N Y w.heap.size a0 a1 a2 a3 lo hi (Y.P d) = _
      rw [hlab d hd _ h1.2.2.1 h1.2.2.2.1, if_pos rfl]
    · cases e
    · have h1 := (h.rng d hd).2.2.2.2 b hb'
      show labOf N Y w.heap.size a0 a1 a2 a3 lo hi b = _
      rw [hlab d hd _ h1.1 h1.2.1, if_neg h1.2.2]
    · obtain ⟨s', off, _, h2⟩ := hb'
      have h3 := h.fta d hd s'
      have h4 : (Y.f d).ta s' = some ⟨b, off, none⟩ := h2
      rw [h3] at h4
      cases h4
    · cases e
    · cases e
end Go.Proofs.YtehheaedbnfidaaGreat

namespace Go.Proofs.YtehheaedbnfidaaGreat
open Go.RowKit

abbrev domL (N : Cn) (P : Nat → Nat) (f : Nat → FLoc) (d : Nat) : List Value := [.slice (some ⟨P d, 0, none⟩) N.nc N.nc, .slice (some ⟨(f d).r, 0, none⟩) N.ns (f d).rc, .slice none 0 0, .slice none 0 0]
/-- The cells of the machine while it is made. -/
abbrev mbL (N : Cn) (s : Sl) (e : ELoc) (n : NLoc) (a3 : Nat) (v : Value) : List Value :=
  [.int .i64 N.c.cores, .int .i64 N.c.domains, .int .i64 N.c.line, .int .i64 N.c.priv, .int .i64 N.c.shared, .int .i64 N.c.near, .int .i64 N.c.sets, .slice s.wa s.wl s.wc, .int .i64 N.c.slot, .slice s.sa s.sl s.sc, .slice s.ta s.tl s.tc, .int .i64 N.c.quantum, .int .i64 N.c.flush,
   .int .i64 0, .int .i64 N.ln, .slice (some ⟨e.r, 0, none⟩) N.nd e.rc, .slice e.sa N.sn e.sc, .slice (some ⟨n.r, 0, none⟩) N.nc n.rc, v, .slice (some ⟨a3, 0, none⟩) N.nc N.nc]

abbrev zero20 : List Value := [.int .i64 0, .int .i64 0, .int .i64 0, .int .i64 0, .int .i64 0, .int .i64 0, .int .i64 0, .slice none 0 0, .int .i64 0, .slice none 0 0, .slice none 0 0, .int .i64 0, .int .i64 0, .int .i64 0, .int .i64 0, .slice none 0 0, .slice none 0 0, .slice none 0 0, .slice none 0 0, .slice none 0 0]

structure LoopP (w wr : World) (N : Cn) (c0 : Sl) (s : Sl) (e : ELoc) (n : NLoc) (G a2 a3 j : Nat) (va : Option Addr) (vc : Nat) (P : Nat → Nat) (f : Nat → FLoc) (lo hi : Nat → Nat) : Prop where
  cbox : Row wr w.heap.size (cfgL N.c c0) 43
  mbox : Row wr G (mbL N s e n a3 (.slice va j vc)) 98
  cfg : CfgAt wr N.c s
  cfgr : ∀ b, CfgB s wr b → w.heap.size + 2 ≤ b ∧ b < G
  mem : MemM wr N.nd N.pv N.sn e (fun _ _ => 0) (fun _ => 0)
  memr : G < e.r ∧ e.r < a2 ∧ ∀ b, e.own N.nd b → G < b ∧ b < a2 ∧ b ≠ e.r
  near : NearM wr N.nc N.nn n (fun _ _ => cpE)
  nearr : a2 ≤ n.r ∧ n.r < a3 ∧ ∀ b, n.own N.nc b → a2 ≤ b ∧ b < a3 ∧ b ≠ n.r
  wks : Cells wr a3 (N.nc * 3) 182 (fun i => wkV ⟨false, 0, 0⟩ (i % 3))
  row : wr.ownsRow (a3 + 1) 144 4 (.slice va j vc) j ((List.range j).flatMap (domL N P f))
  nin : ∀ b, (Value.slice va j vc).ownBlock = some b → ∀ d, d < j → ¬ (lo d ≤ b ∧ b < hi d)
  prg : ∀ d, d < j → Cells wr (P d) (N.nc * 2) 161 (fun i => if i % 2 = 0 then .slice none 0 0 else .int .i64 0)
  far : ∀ d, d < j → FarM wr N.ns (N.wn d) (f d) (fun _ _ => bkE) (fun _ => [])
  fta : ∀ d, d < j → ∀ k, (f d).ta k = none
  rng : ∀ d, d < j → a3 < lo d ∧ hi d ≤ wr.heap.size ∧ lo d ≤ P d ∧ P d < hi d ∧ ∀ b, (f d).own N.ns b → lo d ≤ b ∧ b < hi d ∧ b ≠ P d
  inc : ∀ d k, d < k → k < j → hi d ≤ lo k
  ord : w.heap.size + 2 ≤ G ∧ G < a2 ∧ a2 ≤ a3 ∧ a3 < wr.heap.size
  bel : Below w.heap.size w wr
  rbox : Row wr (w.heap.size + 1) zero20 98

theorem LoopP.below {w wr w' : World} {N : Cn} {c0 s : Sl} {e : ELoc} {n : NLoc} {G a2 a3 j : Nat} {va : Option Addr} {vc : Nat} {P : Nat → Nat} {f : Nat → FLoc} {lo hi : Nat → Nat} (h : LoopP w wr N c0 s e n G a2 a3 j va vc P f lo hi) (hb : Below wr.heap.size wr w') : LoopP w w' N c0 s e n G a2 a3 j va vc P f lo hi := by
  have hs := hb.size
  have hG := h.mbox.lt
  have hcf := h.cfg.same (w' := w') (fun b hb' => hb.block b (by have := (h.cfgr b hb').2; omega))
  exact ⟨h.cbox.below hb h.cbox.lt, h.mbox.below hb h.mbox.lt, hcf.1, fun b hb' => h.cfgr b (hcf.2 b hb'), h.mem.below hb (Nat.le_refl _), h.memr, h.near.below hb (Nat.le_refl _), h.nearr, h.wks.below hb (Nat.le_refl _), owns_same h.row fun g hg => hb.block g (owns_lt h.row g hg).1, h.nin, fun d hd => (h.prg d hd).below hb (Nat.le_refl _), fun d hd => (h.far d hd).below hb (Nat.le_refl _), h.fta, fun d hd => ⟨(h.rng d hd).1, Nat.le_trans (h.rng d hd).2.1 hs, (h.rng d hd).2.2⟩, h.inc, ⟨h.ord.1, h.ord.2.1, h.ord.2.2.1, Nat.lt_of_lt_of_le h.ord.2.2.2 hs⟩, h.bel.trans (hb.mono h.bel.size), h.rbox.below hb h.rbox.lt⟩

theorem LoopP.parts {w wr : World} {N : Cn} {c0 s : Sl} {e : ELoc} {n : NLoc} {G a2 a3 : Nat} {g vc : Nat} {P : Nat → Nat} {f : Nat → FLoc} {lo hi : Nat → Nat} (h : LoopP w wr N c0 s e n G a2 a3 N.nd (some ⟨g, 0, none⟩) vc P f lo hi) : Parts wr N ⟨s, e, n, g, vc, P, f⟩ (w.heap.size + 2) G a2 a3 lo hi := by
  have flat : ∀ m i, i < m * 4 → ((List.range m).flatMap (domL N P f))[i]? = some (domV N ((⟨s, e, n, g, vc, P, f⟩ : YLoc).loc 0 a3 fun _ => none) (i / 4) (i % 4)) := fun m => by
    have hlen : ∀ m, ((List.range m).flatMap (domL N P f)).length = m * 4 := fun m => by
      induction m with
      | zero => rfl
      | succ m ihm => rw [List.range_succ, List.flatMap_append, List.length_append, ihm]; simp [domL]; omega
    induction m with
    | zero => intro i hi; omega
    | succ m ih =>
      intro i hi
      rw [List.range_succ, List.flatMap_append]
      by_cases c : i < m * 4
      · rw [List.getElem?_append_left (by rw [hlen]; exact c)]
        exact ih i c
      · rw [List.getElem?_append_right (by rw [hlen]; omega), hlen]
        have : i = m * 4 ∨ i = m * 4 + 1 ∨ i = m * 4 + 2 ∨ i = m * 4 + 3 := by omega
        rcases this with q | q | q | q
        · subst q; simp [domL, domV, YLoc.loc, show m * 4 / 4 = m by omega]
        · subst q; simp [domL, domV, YLoc.loc, show (m * 4 + 1) / 4 = m by omega, show (m * 4 + 1) % 4 = 1 by omega, show m * 4 + 1 - m * 4 = 1 by omega]
        · subst q; simp [domL, domV, YLoc.loc, show (m * 4 + 2) / 4 = m by omega, show (m * 4 + 2) % 4 = 2 by omega, show m * 4 + 2 - m * 4 = 2 by omega]
        · subst q; simp [domL, domV, YLoc.loc, show (m * 4 + 3) / 4 = m by omega, show (m * 4 + 3) % 4 = 3 by omega, show m * 4 + 3 - m * 4 = 3 by omega]
  have hr := owns_cells h.row _ (flat N.nd)
  exact ⟨h.cfg, h.cfgr, h.mem, ⟨Nat.le_of_lt h.memr.1, h.memr.2.1, fun b hb => ⟨Nat.le_of_lt (h.memr.2.2 b hb).1, (h.memr.2.2 b hb).2⟩⟩, h.near, h.nearr, h.wks, hr.1, ⟨hr.2.1, hr.2.2.1⟩, ⟨by have := hr.2.2.2.1; show a3 < g; omega, fun d hd => h.nin g rfl d hd⟩, h.prg, h.far, h.fta, h.rng, h.inc, ⟨h.ord.1, Nat.le_of_lt h.ord.2.1, h.ord.2.2.1⟩⟩

/-- One domain more. -/
theorem LoopP.more {w wr w1 w2 : World} {N : Cn} {c0 s : Sl} {e : ELoc} {n : NLoc} {G a2 a3 j : Nat} {va : Option Addr} {vc gg cap p l0 : Nat} {P : Nat → Nat} {f : Nat → FLoc} {lo hi : Nat → Nat} {F : FLoc} (h : LoopP w wr N c0 s e n G a2 a3 j va vc P f lo hi) (hb1 : Below wr.heap.size wr w1) (hl0 : wr.heap.size ≤ l0) (hp : l0 ≤ p ∧ p < w1.heap.size)
    (hprg : Cells w1 p (N.nc * 2) 161 (fun i => if i % 2 = 0 then .slice none 0 0 else .int .i64 0))
    (hfar : FarM w1 N.ns (N.wn j) F (fun _ _ => bkE) (fun _ => [])) (hfo : ∀ b, F.own N.ns b → l0 ≤ b ∧ b < p) (hta : ∀ k, F.ta k = none)
    (hg : w1.grownBy w2 (Value.slice va j vc).ownBlock) (hat : (Value.slice va j vc).ownBlock = some gg ∨ p < gg)
    (ho : w2.ownsRow (a3 + 1) 144 4 (.slice (some ⟨gg, 0, none⟩) (j + 1) cap) (j + 1) (((List.range j).flatMap (domL N P f)) ++ [.slice (some ⟨p, 0, none⟩) N.nc N.nc, .slice (some ⟨F.r, 0, none⟩) N.ns F.rc, .slice none 0 0, .slice none 0 0])) :
    LoopP w (w2.setCell ⟨G, 18, none⟩ (.slice (some ⟨gg, 0, none⟩) (j + 1) cap)) N c0 s e n G a2 a3 (j + 1) (some ⟨gg, 0, none⟩) cap (up1 P j p) (up1 f j F) (up1 lo j l0) (up1 hi j (p + 1)) := by
  have h1 := h.below hb1
  have hs1 := hb1.size
  have hsz2 := hg.size
  obtain ⟨o1, o2, o3, o4⟩ := h.ord
  have hW : (w2.setCell ⟨G, 18, none⟩ (.slice (some ⟨gg, 0, none⟩) (j + 1) cap)).heap.size = w2.heap.size := by simp [World.setCell]
  have keep : ∀ b, b < w1.heap.size → b ≠ G → (Value.slice va j vc).ownBlock ≠ some b → (w2.setCell ⟨G, 18, none⟩ (.slice (some ⟨gg, 0, none⟩) (j + 1) cap)).heap[b]? = w1.heap[b]? := fun b hb hbG hbo => by
    rw [Below.heap_setCell _ _ _ _ hbG]
    exact hg.block b hb (fun e => hbo e.symm)
  have old : ∀ b, (Value.slice va j vc).ownBlock = some b → a3 + 1 ≤ b ∧ b < wr.heap.size := fun b hb => ⟨(owns_lt h.row b hb).2, (owns_lt h.row b hb).1⟩
  have low : ∀ b, b ≤ a3 → (Value.slice va j vc).ownBlock ≠ some b := fun b hb hh => by have := (old b hh).1; omega
  have hcf := h1.cfg.same (w' := w2.setCell ⟨G, 18, none⟩ (.slice (some ⟨gg, 0, none⟩) (j + 1) cap)) (fun b hb' => keep b (by have := h1.cfgr b hb'; omega) (by have := h1.cfgr b hb'; omega) (low b (by have := h1.cfgr b hb'; omega)))
  have hmb : Row w2 G (mbL N s e n a3 (.slice va j vc)) 98 := h1.mbox.same (hg.block G h1.mbox.lt (fun e => low G (by omega) e.symm))
  have kin : ∀ d, d < j → ∀ b, lo d ≤ b → b < hi d → (w2.setCell ⟨G, 18, none⟩ (.slice (some ⟨gg, 0, none⟩) (j + 1) cap)).heap[b]? = w1.heap[b]? := fun d hd b hb1' hb2 => by
    have hr := h.rng d hd
    exact keep b (by omega) (by omega) (fun hh => h.nin b hh d hd ⟨hb1', hb2⟩)
  have knew : ∀ b, l0 ≤ b → b ≤ p → (w2.setCell ⟨G, 18, none⟩ (.slice (some ⟨gg, 0, none⟩) (j + 1) cap)).heap[b]? = w1.heap[b]? := fun b hb1' hb2 => keep b (by omega) (by omega) (fun hh => by have := (old b hh).2; omega)
  refine ⟨h1.cbox.same (keep _ h1.cbox.lt (by omega) (low _ (by omega))), hmb.setCell 18 _, hcf.1, fun b hb' => h1.cfgr b (hcf.2 b hb'), ?_, h.memr, ?_, h.nearr, h1.wks.same (keep _ h1.wks.lt (by omega) (low _ (Nat.le_refl _))), ?_, fun b hb' d hd => ?_, fun d hd => ?_, fun d hd => ?_, fun d hd k => ?_, fun d hd => ?_, fun d k hdk hk => ?_, ⟨o1, o2, o3, by rw [hW]; omega⟩, ?_, h1.rbox.same (keep _ h1.rbox.lt (by omega) (low _ (by omega)))⟩
  · exact h1.mem.same (keep _ (by have := h.memr; omega) (by have := h.memr; omega) (low _ (by have := h.memr; omega))) (fun b hb hb' => keep b hb (by have := h.memr.2.2 b hb'; omega) (low b (by have := h.memr.2.2 b hb'; omega)))
  · exact h1.near.same (keep _ (by have := h.nearr; omega) (by have := h.nearr; omega) (low _ (by have := h.nearr; omega))) (fun k hk => keep _ (h1.near.cel k hk).lt (by have := h.nearr.2.2 _ ⟨k, hk, rfl⟩; omega) (low _ (by have := h.nearr.2.2 _ ⟨k, hk, rfl⟩; omega)))
  · have hL : (List.range (j + 1)).flatMap (domL N (up1 P j p) (up1 f j F)) = ((List.range j).flatMap (domL N P f)) ++ [.slice (some ⟨p, 0, none⟩) N.nc N.nc, .slice (some ⟨F.r, 0, none⟩) N.ns F.rc, .slice none 0 0, .slice none 0 0] := by
      rw [List.range_succ, List.flatMap_append]
      congr 1
      · have : ∀ l : List Nat, (∀ k ∈ l, k ≠ j) → l.flatMap (domL N (up1 P j p) (up1 f j F)) = l.flatMap (domL N P f) := fun l => by
          induction l with
          | nil => intro _; rfl
          | cons x l ih =>
            intro hx
            rw [List.flatMap_cons, List.flatMap_cons, ih (fun k hk => hx k (List.mem_cons_of_mem _ hk))]
            have : x ≠ j := hx x (by simp)
            simp [domL, up1, this]
        exact this _ (fun k hk => by have := List.mem_range.1 hk; omega)
      · simp [domL, up1]
    rw [hL]
    exact owns_same ho fun b hb' => Below.heap_setCell _ _ _ _ (by have := (owns_lt ho b hb').2; intro e; have : b = G := e; omega)
  · simp [Value.ownBlock] at hb'
    subst hb'
    rintro ⟨q1, q2⟩
    by_cases e2 : d = j
    · subst e2
      simp only [up1, if_true] at q1 q2
      rcases hat with hh | hh
      · have := (old _ hh).2; omega
      · omega
    · simp only [up1, e2, if_false] at q1 q2
      have hr := h.rng d (by omega)
      rcases hat with hh | hh
      · exact h.nin _ hh d (by omega) ⟨q1, q2⟩
      · omega
  · by_cases e2 : d = j
    · subst e2
      simp only [up1, if_true]
      exact hprg.same (knew p hp.1 (Nat.le_refl _))
    · have hr := h.rng d (by omega)
      simp only [up1, e2, if_false]
      exact (h1.prg d (by omega)).same (kin d (by omega) _ hr.2.2.1 hr.2.2.2.1)
  · by_cases e2 : d = j
    · subst e2
      simp only [up1, if_true]
      refine hfar.same (fun b hb' => knew b (hfo b hb').1 (by have := (hfo b hb').2; omega)) (fun b hb' => ?_)
      obtain ⟨k, off, _, q⟩ := hb'
      rw [hta k] at q; cases q
    · have hr := h.rng d (by omega)
      simp only [up1, e2, if_false]
      refine (h1.far d (by omega)).same (fun b hb' => kin d (by omega) b (hr.2.2.2.2 b hb').1 (hr.2.2.2.2 b hb').2.1) (fun b hb' => ?_)
      obtain ⟨k, off, _, q⟩ := hb'
      rw [h.fta d (by omega) k] at q; cases q
  · by_cases e2 : d = j
    · subst e2; simp only [up1, if_true]; exact hta k
    · simp only [up1, e2, if_false]; exact h.fta d (by omega) k
  · rw [hW]
    by_cases e2 : d = j
    · subst e2
      simp only [up1, if_true]
      exact ⟨by omega, by omega, hp.1, by omega, fun b hb' => ⟨(hfo b hb').1, by have := (hfo b hb').2; omega, by have := (hfo b hb').2; omega⟩⟩
    · have hr := h.rng d (by omega)
      simp only [up1, e2, if_false]
      exact ⟨hr.1, by omega, hr.2.2⟩
  · by_cases e1 : d = j
    · omega
    · by_cases e2 : k = j
      · subst e2
        have hr := h.rng d (by omega)
        simp only [up1, e1, if_false, if_true]
        omega
      · simp only [up1, e1, e2, if_false]
        exact h.inc d k hdk (by omega)
  · exact (below_grown h1.bel (by have := h1.bel.size; omega) hg (fun b hb' => by have := (old b hb').1; omega)).setCell (show w.heap.size ≤ G by omega) _
end Go.Proofs.YtehheaedbnfidaaGreat

namespace Go.Proofs.YtehheaedbnfidaaGreat
open Go.RowKit

abbrev made20 (c : Cf) (s : Sl) : List Value := [.int .i64 c.cores, .int .i64 c.domains, .int .i64 c.line, .int .i64 c.priv, .int .i64 c.shared, .int .i64 c.near, .int .i64 c.sets, .slice s.wa s.wl s.wc, .int .i64 c.slot, .slice s.sa s.sl s.sc, .slice s.ta s.tl s.tc, .int .i64 c.quantum, .int .i64 c.flush, .int .i64 0, .int .i64 0, .slice none 0 0, .slice none 0 0, .slice none 0 0, .slice none 0 0, .slice none 0 0]

theorem Tryz.sizeMachine : (Tryz.prog.info? 98).map (fun i => i.size) = some 20 := by kernel_rfl
theorem built20 (c : Cf) (s : Sl) : Tryz.prog.built 98 [(0, cfgV c s)] = some (made20 c s).toArray := by kernel_rfl
theorem alloc20 (ev : Operand → Value) (o : Oper) (ho : o.op = .alloc 98) (w : World) : (execOp ev o).run Tryz.prog w = .ok (.value (.pointer (some ⟨w.heap.size, 0, none⟩))) (w.alloc (.cells zero20.toArray 98)) := by
  unfold execOp
  rw [ho]
  simp [go_sem]
theorem one20 (c : Cf) (s : Sl) : (made20 c s).toArray.all (·.oneCell') = true := by simp [Value.oneCell']
theorem size20 (c : Cf) (s : Sl) : zero20.toArray.size = (made20 c s).toArray.size := by simp
theorem sizeM20 (c : Cf) (s : Sl) : (Tryz.prog.info? 98).map (·.size) = some (made20 c s).toArray.size := by rw [show (made20 c s).toArray.size = 20 by simp]; exact Tryz.sizeMachine

/-- While the machine is made: its box at G, the configuration's copy, the caller's configuration. -/
structure Mk (w wx : World) (c : Cf) (s s2 : Sl) (G : Nat) (L : List Value) : Prop where
  row : Row wx G L 98
  cfg : CfgAt wx c s2
  cfgr : ∀ b, CfgB s2 wx b → w.heap.size + 2 ≤ b ∧ b < G
  box : Row wx w.heap.size (cfgL c s) 43
  bel : Below w.heap.size w wx
  ord : w.heap.size + 2 ≤ G
  rbox : Row wx (w.heap.size + 1) zero20 98

theorem Mk.below {w wx wy : World} {c : Cf} {s s2 : Sl} {G : Nat} {L : List Value} (h : Mk w wx c s s2 G L) (hb : Below wx.heap.size wx wy) : Mk w wy c s s2 G L := by
  have hl := h.row.lt
  have hcf := h.cfg.same (w' := wy) (fun b hb' => hb.block b (by have := (h.cfgr b hb').2; omega))
  exact ⟨h.row.below hb hl, hcf.1, fun b hb' => h.cfgr b (hcf.2 b hb'), h.box.below hb h.box.lt, below_step h.bel hb rfl, h.ord, h.rbox.below hb h.rbox.lt⟩
theorem Mk.set {w wx : World} {c : Cf} {s s2 : Sl} {G : Nat} {L : List Value} (h : Mk w wx c s s2 G L) (i : Nat) (v : Value) : Mk w (wx.setCell ⟨G, i, none⟩ v) c s s2 G (L.set i v) := by
  have hcf := h.cfg.same (w' := wx.setCell ⟨G, i, none⟩ v) (fun b hb' => Below.heap_setCell _ _ _ _ (by have := (h.cfgr b hb').2; show b ≠ G; omega))
  exact ⟨h.row.setCell i v, hcf.1, fun b hb' => h.cfgr b (hcf.2 b hb'), h.box.setCellOther i v (by have := h.ord; omega), h.bel.setCell (show w.heap.size ≤ G by have := h.ord; omega) v, h.ord, h.rbox.setCellOther i v (by have := h.ord; omega)⟩
theorem mem_set {wx : World} {nd pv sn G : Nat} {e : ELoc} {own : Nat → Nat → Int} {sh : Nat → Int} (h : MemM wx nd pv sn e own sh) (hr : e.r ≠ G) (ho : ∀ b, e.own nd b → b ≠ G) (i : Nat) (v : Value) : MemM (wx.setCell ⟨G, i, none⟩ v) nd pv sn e own sh :=
  h.same (Below.heap_setCell _ _ _ _ hr) (fun b _ hb => Below.heap_setCell _ _ _ _ (ho b hb))
theorem near_set {wx : World} {nc nn G : Nat} {n : NLoc} {nr : Nat → Nat → Cp} (h : NearM wx nc nn n nr) (hr : n.r ≠ G) (ho : ∀ k, k < nc → n.b k ≠ G) (i : Nat) (v : Value) : NearM (wx.setCell ⟨G, i, none⟩ v) nc nn n nr :=
  h.same (Below.heap_setCell _ _ _ _ hr) (fun k hk => Below.heap_setCell _ _ _ _ (ho k hk))
theorem near_apart {w : World} {nc nn : Nat} {n : NLoc} {nr : Nat → Nat → Cp} (h : NearM w nc nn n nr) {k : Nat} (hk : k < nc) : n.b k ≠ n.r := fun e => by
  have h1 := h.cel k hk
  rw [e] at h1
  have := h1.type h.row
  exact absurd this (by decide)

abbrev mem20 (c : Cf) (s : Sl) (N : Cn) (e : ELoc) : List Value := [.int .i64 c.cores, .int .i64 c.domains, .int .i64 c.line, .int .i64 c.priv, .int .i64 c.shared, .int .i64 c.near, .int .i64 c.sets, .slice s.wa s.wl s.wc, .int .i64 c.slot, .slice s.sa s.sl s.sc, .slice s.ta s.tl s.tc, .int .i64 c.quantum, .int .i64 c.flush, .int .i64 0, .int .i64 N.ln, .slice (some ⟨e.r, 0, none⟩) N.nd e.rc, .slice e.sa N.sn e.sc, .slice none 0 0, .slice none 0 0, .slice none 0 0]
abbrev near20 (c : Cf) (s : Sl) (N : Cn) (e : ELoc) (n : NLoc) : List Value := [.int .i64 c.cores, .int .i64 c.domains, .int .i64 c.line, .int .i64 c.priv, .int .i64 c.shared, .int .i64 c.near, .int .i64 c.sets, .slice s.wa s.wl s.wc, .int .i64 c.slot, .slice s.sa s.sl s.sc, .slice s.ta s.tl s.tc, .int .i64 c.quantum, .int .i64 c.flush, .int .i64 0, .int .i64 N.ln, .slice (some ⟨e.r, 0, none⟩) N.nd e.rc, .slice e.sa N.sn e.sc, .slice (some ⟨n.r, 0, none⟩) N.nc n.rc, .slice none 0 0, .slice none 0 0]

structure MkMem (w wx : World) (c : Cf) (s s2 : Sl) (N : Cn) (G a2 : Nat) (e : ELoc) (L : List Value) : Prop where
  mk0 : Mk w wx c s s2 G L
  mem : MemM wx N.nd N.pv N.sn e (fun _ _ => 0) (fun _ => 0)
  memr : G < e.r ∧ e.r < a2 ∧ ∀ b, e.own N.nd b → G < b ∧ b < a2 ∧ b ≠ e.r
  a2 : G < a2 ∧ a2 ≤ wx.heap.size
structure MkNear (w wx : World) (c : Cf) (s s2 : Sl) (N : Cn) (G a2 a3 : Nat) (e : ELoc) (n : NLoc) (L : List Value) : Prop where
  mm : MkMem w wx c s s2 N G a2 e L
  near : NearM wx N.nc N.nn n (fun _ _ => cpE)
  nearr : a2 ≤ n.r ∧ n.r < a3 ∧ ∀ b, n.own N.nc b → a2 ≤ b ∧ b < a3 ∧ b ≠ n.r
  a3 : a2 ≤ a3 ∧ a3 ≤ wx.heap.size
theorem MkMem.below {w wx wy : World} {c : Cf} {s s2 : Sl} {N : Cn} {G a2 : Nat} {e : ELoc} {L : List Value} (h : MkMem w wx c s s2 N G a2 e L) (hb : Below wx.heap.size wx wy) : MkMem w wy c s s2 N G a2 e L :=
  ⟨h.mk0.below hb, h.mem.below hb (Nat.le_refl _), h.memr, h.a2.1, Nat.le_trans h.a2.2 hb.size⟩
theorem MkMem.set {w wx : World} {c : Cf} {s s2 : Sl} {N : Cn} {G a2 : Nat} {e : ELoc} {L : List Value} (h : MkMem w wx c s s2 N G a2 e L) (i : Nat) (v : Value) : MkMem w (wx.setCell ⟨G, i, none⟩ v) c s s2 N G a2 e (L.set i v) :=
  ⟨h.mk0.set i v, mem_set h.mem (by have := h.memr; omega) (fun b hb => by have := h.memr.2.2 b hb; omega) i v, h.memr, h.a2.1, by simp [World.setCell]; exact h.a2.2⟩
theorem MkNear.below {w wx wy : World} {c : Cf} {s s2 : Sl} {N : Cn} {G a2 a3 : Nat} {e : ELoc} {n : NLoc} {L : List Value} (h : MkNear w wx c s s2 N G a2 a3 e n L) (hb : Below wx.heap.size wx wy) : MkNear w wy c s s2 N G a2 a3 e n L :=
  ⟨h.mm.below hb, h.near.below hb (Nat.le_refl _), h.nearr, h.a3.1, Nat.le_trans h.a3.2 hb.size⟩
theorem MkNear.set {w wx : World} {c : Cf} {s s2 : Sl} {N : Cn} {G a2 a3 : Nat} {e : ELoc} {n : NLoc} {L : List Value} (h : MkNear w wx c s s2 N G a2 a3 e n L) (i : Nat) (v : Value) : MkNear w (wx.setCell ⟨G, i, none⟩ v) c s s2 N G a2 a3 e n (L.set i v) :=
  ⟨h.mm.set i v, near_set h.near (by have := h.nearr; have := h.mm.a2; omega) (fun k hk => by have := h.nearr.2.2 _ ⟨k, hk, rfl⟩; have := h.mm.a2; omega) i v, h.nearr, h.a3.1, by simp [World.setCell]; exact h.a3.2⟩

theorem made_cells (w : World) (z : List Value) (h0 : 0 < z.length) (n : Nat) (t : TypeId) : Cells (w.alloc (.cells (madeCells z.toArray n) t)) w.heap.size n t (fun i => z.getD (i % z.length) undef) :=
  ⟨(madeCells z.toArray n).toList, by unfold Row; rw [Array.toArray_toList]; exact heap_alloc_new _ _, fun i hi => by
    have hm : i % z.length < z.length := Nat.mod_lt _ h0
    simp [madeCells, hi, hm, List.getD_eq_getElem?_getD]⟩

def fz0 : FLoc := ⟨0, 0, fun _ => 0, fun _ => 0, fun _ => none, fun _ => 0, fun _ => 0⟩

theorem MkNear.loop {w wx : World} {c : Cf} {s s2 : Sl} {N : Cn} {G a2 a3 : Nat} {e : ELoc} {n : NLoc} (h : MkNear w wx c s s2 N G a2 a3 e n (near20 c s2 N e n)) (eN : N.c = c) :
    LoopP w ((wx.setCell ⟨G, 19, none⟩ (.slice (some ⟨wx.heap.size, 0, none⟩) N.nc N.nc)).alloc (.cells (madeCells #[.bool false, .int .i64 0, .int .i64 0] (N.nc * 3)) 182)) N s s2 e n G a2 wx.heap.size 0 none 0 (fun _ => 0) (fun _ => fz0) (fun _ => 0) (fun _ => 0) := by
  subst eN
  have hsz : (wx.setCell ⟨G, 19, none⟩ (.slice (some ⟨wx.heap.size, 0, none⟩) N.nc N.nc)).heap.size = wx.heap.size := by simp [World.setCell]
  have h1 := h.set 19 (.slice (some ⟨wx.heap.size, 0, none⟩) N.nc N.nc)
  have hb := (Below.refl (wx.setCell ⟨G, 19, none⟩ (.slice (some ⟨wx.heap.size, 0, none⟩) N.nc N.nc)).heap.size (wx.setCell ⟨G, 19, none⟩ (.slice (some ⟨wx.heap.size, 0, none⟩) N.nc N.nc))).alloc (Nat.le_refl _) (.cells (madeCells #[.bool false, .int .i64 0, .int .i64 0] (N.nc * 3)) 182)
  have h2 := h1.below hb
  have hw := made_cells (wx.setCell ⟨G, 19, none⟩ (.slice (some ⟨wx.heap.size, 0, none⟩) N.nc N.nc)) [.bool false, .int .i64 0, .int .i64 0] (by simp) (N.nc * 3) 182
  rw [hsz] at hw
  have o1 := h.mm.mk0.ord
  have o2 := h.mm.a2
  have o3 := h.a3
  refine ⟨h2.mm.mk0.box, h2.mm.mk0.row, h2.mm.mk0.cfg, h2.mm.mk0.cfgr, h2.mm.mem, h.mm.memr, h2.near, ⟨h.nearr.1, by have := h.nearr.2.1; omega, fun b hb' => by have := h.nearr.2.2 b hb'; omega⟩, hw.congr fun i _ => ?_, by simp [World.ownsRow], fun b hb' => by simp [Value.ownBlock] at hb', fun d hd => absurd hd (Nat.not_lt_zero d), fun d hd => absurd hd (Nat.not_lt_zero d), fun d hd => absurd hd (Nat.not_lt_zero d), fun d hd => absurd hd (Nat.not_lt_zero d), fun d k _ hk => absurd hk (Nat.not_lt_zero k), ⟨o1, o2.1, by omega, by rw [World.size_alloc, hsz]; omega⟩, h2.mm.mk0.bel, h2.mm.mk0.rbox⟩
  have : i % 3 = 0 ∨ i % 3 = 1 ∨ i % 3 = 2 := by omega
  rcases this with q | q | q <;> simp [q, wkV]

/-- The parts, but for one block that is none of them. -/
theorem Parts.same {w w' : World} {N : Cn} {Y : YLoc} {a0 a1 a2 a3 q : Nat} {lo hi : Nat → Nat} (h : Parts w N Y a0 a1 a2 a3 lo hi) (hq : q < a0) (hs : w'.heap.size = w.heap.size) (hb : ∀ b, b ≠ q → w'.heap[b]? = w.heap[b]?) : Parts w' N Y a0 a1 a2 a3 lo hi := by
  obtain ⟨o1, o2, o3⟩ := h.ord
  have hcf := h.cfg.same (w' := w') (fun b hb' => hb b (by have := (h.cfgr b hb').1; omega))
  refine ⟨hcf.1, fun b hb' => h.cfgr b (hcf.2 b hb'), h.mem.same (hb _ (by have := h.memr; omega)) (fun b _ hb' => hb b (by have := h.memr.2.2 b hb'; omega)), h.memr, h.near.same (hb _ (by have := h.nearr; omega)) (fun k hk => hb _ (by have := h.nearr.2.2 _ ⟨k, hk, rfl⟩; omega)), h.nearr, h.wks.same (hb _ (by omega)), h.dom.same (hb _ (by have := h.dmr.1; omega)), h.dcap, h.dmr, fun d hd => (h.prg d hd).same (hb _ (by have := h.rng d hd; omega)), fun d hd => (h.far d hd).same (fun b hb' => hb b (by have := h.rng d hd; have := this.2.2.2.2 b hb'; omega)) (fun b hb' => ?_), h.fta, fun d hd => by rw [hs]; exact h.rng d hd, h.inc, h.ord⟩
  obtain ⟨k, off, _, e⟩ := hb'
  rw [h.fta d hd k] at e; cases e

theorem heap_setRow (w : World) (g : Nat) (cs : Array Value) (b : Nat) (h : b ≠ g) : (w.setRow g cs).heap[b]? = w.heap[b]? := by
  simp only [World.setRow, Array.getElem?_modify]
  rw [if_neg (by omega)]
theorem row_setRow {w : World} {g : Nat} {A : List Value} {t : TypeId} (h : Row w g A t) (cs : List Value) : Row (w.setRow g cs.toArray) g cs t := by
  unfold Row at h ⊢
  simp only [World.setRow, Array.getElem?_modify]
  simp only [if_true]
  rw [h]
  rfl
theorem below_setRow {B : Nat} {a w : World} (h : Below B a w) {g : Nat} (hg : B ≤ g) (cs : Array Value) : Below B a (w.setRow g cs) :=
  h.trans ⟨rfl, rfl, rfl, by simp [World.setRow], fun k hk => heap_setRow _ _ _ _ (by omega)⟩
end Go.Proofs.YtehheaedbnfidaaGreat
