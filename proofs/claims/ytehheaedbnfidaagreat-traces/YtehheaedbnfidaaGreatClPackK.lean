/-
  MachM, MachS, MachQ
-/
import Derived.Test.YtehheaedbnfidaaGreatClPackE
import Derived.Test.YtehheaedbnfidaaGreatClPackAY
import Derived.Test.YtehheaedbnfidaaGreatClTbl
namespace Go.Proofs.YtehheaedbnfidaaGreat
open Go.RowKit

/-- Where a machine lies; what each of its blocks is. -/
structure XLoc where
  g : Nat
  s : Sl
  e : ELoc
  n : NLoc
  dm : Nat
  dc : Nat
  ck : Nat
  P : Nat → Nat
  oa : Nat → Nat → Option Addr
  f : Nat → FLoc
  wa : Nat → Option Addr
  wl : Nat → Nat
  wc : Nat → Nat
  ta : Nat → Option Addr
  tl : Nat → Nat
  tc : Nat → Nat
  lab : Nat → Option (Nat × Nat)

abbrev mchL (N : Cn) (X : XLoc) (now : Int) : List Value :=
  [.int .i64 N.c.cores, .int .i64 N.c.domains, .int .i64 N.c.line, .int .i64 N.c.priv, .int .i64 N.c.shared, .int .i64 N.c.near, .int .i64 N.c.sets, .slice X.s.wa X.s.wl X.s.wc, .int .i64 N.c.slot, .slice X.s.sa X.s.sl X.s.sc, .slice X.s.ta X.s.tl X.s.tc, .int .i64 N.c.quantum, .int .i64 N.c.flush,
   .int .i64 now, .int .i64 N.ln, .slice (some ⟨X.e.r, 0, none⟩) N.nd X.e.rc, .slice X.e.sa N.sn X.e.sc, .slice (some ⟨X.n.r, 0, none⟩) N.nc X.n.rc, .slice (some ⟨X.dm, 0, none⟩) N.nd X.dc, .slice (some ⟨X.ck, 0, none⟩) N.nc N.nc]

def domV (N : Cn) (X : XLoc) (d i : Nat) : Value :=
  if i = 0 then .slice (some ⟨X.P d, 0, none⟩) N.nc N.nc else if i = 1 then .slice (some ⟨(X.f d).r, 0, none⟩) N.ns (X.f d).rc else if i = 2 then .slice (X.wa d) (X.wl d) (X.wc d) else .slice (X.ta d) (X.tl d) (X.tc d)
def prgV (X : XLoc) (m : Mh) (d k i : Nat) : Value := if i = 0 then .slice (X.oa d k) (m.ops d k).length (m.ops d k).length else .int .i64 (m.dn d k)
def wkV (k : Wk) (i : Nat) : Value := if i = 0 then .bool k.busy else if i = 1 then .int .i64 k.dom else .int .i64 k.issue
abbrev opL (o : OpT) : List Value := [.int .i64 o.1, .int .i64 o.2.1, .int .i64 o.2.2]
abbrev eventL (e : Ev) : List Value := [.int .i64 e.core, .int .i64 e.index, .int .i64 e.value, .int .i64 e.fault, .int .i64 e.issue, .int .i64 e.done]

/-- A list of waiting cores. -/
def QM (w : World) (sa : Option Addr) (len cap : Nat) (q : List Int) : Prop :=
  len = q.length ∧ ((sa = none ∧ cap = 0 ∧ q = []) ∨ ∃ (g off : Nat) (cur : List Value), sa = some ⟨g, off, none⟩ ∧ Row w g cur 3 ∧ len ≤ cap ∧ cap ≤ maxLen ∧ off + cap ≤ cur.length ∧ ∀ i, i < len → cur[off + i]? = some (.int .i64 (q.getD i 0)))

/-- The blocks of a configuration's lists. -/
def CfgB (s : Sl) (w : World) (b : Nat) : Prop :=
  (∃ off, s.wa = some ⟨b, off, none⟩) ∨ (∃ off, s.sa = some ⟨b, off, none⟩) ∨ (∃ off, s.ta = some ⟨b, off, none⟩) ∨
  ∃ (i tb toff off il ic : Nat), i < s.tl ∧ s.ta = some ⟨tb, toff, none⟩ ∧ w.cell? ⟨tb, toff + i, none⟩ = some (.slice (some ⟨b, off, none⟩) il ic)

theorem CfgAt.same {w w' : World} {c : Cf} {s : Sl} (h : CfgAt w c s) (hs : ∀ b, CfgB s w b → w'.heap[b]? = w.heap[b]?) : CfgAt w' c s ∧ ∀ b, CfgB s w' b → CfgB s w b := by
  have hc : ∀ b off i, s.ta = some ⟨b, off, none⟩ → w'.cell? ⟨b, off + i, none⟩ = w.cell? ⟨b, off + i, none⟩ := fun b off i e => by
    simp only [World.cell?]; rw [hs b (Or.inr (Or.inr (Or.inl ⟨off, e⟩)))]
  refine ⟨⟨h.ways.same fun b off e => hs b (Or.inl ⟨off, e⟩), h.slots.same fun b off e => hs b (Or.inr (Or.inl ⟨off, e⟩)), ⟨h.turns.hlen, h.turns.hle, h.turns.hmax, h.turns.hnil, fun i hi => ?_⟩⟩, ?_⟩
  · obtain ⟨b, off, ia, il, ic, h1, h2, h3⟩ := h.turns.hat i hi
    refine ⟨b, off, ia, il, ic, h1, (hc b off i h1).trans h2, h3.same fun b2 off2 e2 => hs b2 (Or.inr (Or.inr (Or.inr ⟨i, b, off, off2, il, ic, hi, h1, by rw [h2, e2]⟩)))⟩
  · rintro b (h1 | h1 | h1 | ⟨i, tb, toff, off, il, ic, h1, h2, h3⟩)
    · exact Or.inl h1
    · exact Or.inr (Or.inl h1)
    · exact Or.inr (Or.inr (Or.inl h1))
    · exact Or.inr (Or.inr (Or.inr ⟨i, tb, toff, off, il, ic, h1, h2, by rw [← hc tb toff i h2]; exact h3⟩))

/-- What the blocks are. -/
structure Labs (w : World) (N : Cn) (X : XLoc) : Prop where
  lt : ∀ b, X.lab b ≠ none → b < w.heap.size
  g : X.lab X.g = some (0, 0)
  cf : ∀ b, CfgB X.s w b → X.lab b = some (1, 0)
  er : X.lab X.e.r = some (2, 0)
  eo : ∀ b, X.e.own N.nd b → X.lab b = some (3, 0)
  nr : X.lab X.n.r = some (4, 0)
  no : ∀ b, X.n.own N.nc b → X.lab b = some (5, 0)
  dm : X.lab X.dm = some (6, 0)
  ck : X.lab X.ck = some (7, 0)
  P : ∀ d, d < N.nd → X.lab (X.P d) = some (8, d)
  O : ∀ d k, d < N.nd → k < N.nc → ∀ b off, X.oa d k = some ⟨b, off, none⟩ → X.lab b = some (9, 0)
  fo : ∀ d, d < N.nd → ∀ b, (X.f d).own N.ns b → X.lab b = some (10, d)
  fi : ∀ d, d < N.nd → ∀ b, (X.f d).ints N.ns b → X.lab b = some (11, d)
  wt : ∀ d, d < N.nd → ∀ b off, X.wa d = some ⟨b, off, none⟩ → X.lab b = some (12, d)
  tr : ∀ d, d < N.nd → ∀ b off, X.ta d = some ⟨b, off, none⟩ → X.lab b = some (13, d)

structure MachM (w : World) (N : Cn) (X : XLoc) (m : Mh) : Prop where
  nok : N = cnOf N.c
  right : chk N.c = 0
  now0 : 0 ≤ m.now
  now1 : m.now ≤ 10000
  row : Row w X.g (mchL N X m.now) 100
  cfg : CfgAt w N.c X.s
  mem : MemM w N.nd N.pv N.sn X.e m.own m.sh
  near : NearM w N.nc N.nn X.n m.nr
  dom : Cells w X.dm (N.nd * 4) 144 (fun i => domV N X (i / 4) (i % 4))
  dcap : N.nd ≤ X.dc ∧ X.dc ≤ maxLen
  prg : ∀ d, d < N.nd → Cells w (X.P d) (N.nc * 2) 161 (fun i => prgV X m d (i / 2) (i % 2))
  ops : ∀ d k, d < N.nd → k < N.nc → (m.ops d k = [] ∧ X.oa d k = none) ∨ ∃ gO, X.oa d k = some ⟨gO, 0, none⟩ ∧ Row w gO ((m.ops d k).flatMap opL) 69
  far : ∀ d, d < N.nd → FarM w N.ns (N.wn d) (X.f d) (m.blk d) (m.tch d)
  wait : ∀ d, d < N.nd → QM w (X.wa d) (X.wl d) (X.wc d) (m.wt d)
  trc : ∀ d, d < N.nd → X.tl d = (m.tr d).length ∧ w.ownsRow 0 58 6 (.slice (X.ta d) (X.tl d) (X.tc d)) (m.tr d).length ((m.tr d).flatMap eventL)
  wks : Cells w X.ck (N.nc * 3) 182 (fun i => wkV (m.wk (i / 3)) (i % 3))
  labs : Labs w N X

theorem QM.same {w w' : World} {sa : Option Addr} {len cap : Nat} {q : List Int} (h : QM w sa len cap q) (hs : ∀ b off, sa = some ⟨b, off, none⟩ → w'.heap[b]? = w.heap[b]?) : QM w' sa len cap q := by
  obtain ⟨h1, h2⟩ := h
  refine ⟨h1, ?_⟩
  rcases h2 with h2 | ⟨g, off, cur, a1, a2, r⟩
  · exact Or.inl h2
  · exact Or.inr ⟨g, off, cur, a1, a2.same (hs g off a1), r⟩

/-- All blocks but those of the kinds K are as they were: so are the parts. -/
structure Kin (w' : World) (N : Cn) (X : XLoc) (m : Mh) (K : Nat × Nat → Prop) : Prop where
  row : ¬ K (0, 0) → Row w' X.g (mchL N X m.now) 100
  cfg : ¬ K (1, 0) → CfgAt w' N.c X.s ∧ ∀ b, CfgB X.s w' b → X.lab b = some (1, 0)
  mem : ¬ K (2, 0) → ¬ K (3, 0) → MemM w' N.nd N.pv N.sn X.e m.own m.sh
  near : ¬ K (4, 0) → ¬ K (5, 0) → NearM w' N.nc N.nn X.n m.nr
  dom : ¬ K (6, 0) → Cells w' X.dm (N.nd * 4) 144 (fun i => domV N X (i / 4) (i % 4))
  wks : ¬ K (7, 0) → Cells w' X.ck (N.nc * 3) 182 (fun i => wkV (m.wk (i / 3)) (i % 3))
  prg : ∀ d, d < N.nd → ¬ K (8, d) → Cells w' (X.P d) (N.nc * 2) 161 (fun i => prgV X m d (i / 2) (i % 2))
  ops : ¬ K (9, 0) → ∀ d k, d < N.nd → k < N.nc → (m.ops d k = [] ∧ X.oa d k = none) ∨ ∃ gO, X.oa d k = some ⟨gO, 0, none⟩ ∧ Row w' gO ((m.ops d k).flatMap opL) 69
  far : ∀ d, d < N.nd → ¬ K (10, d) → ¬ K (11, d) → FarM w' N.ns (N.wn d) (X.f d) (m.blk d) (m.tch d)
  wait : ∀ d, d < N.nd → ¬ K (12, d) → QM w' (X.wa d) (X.wl d) (X.wc d) (m.wt d)
  trc : ∀ d, d < N.nd → ¬ K (13, d) → X.tl d = (m.tr d).length ∧ w'.ownsRow 0 58 6 (.slice (X.ta d) (X.tl d) (X.tc d)) (m.tr d).length ((m.tr d).flatMap eventL)

theorem MachM.kin {w w' : World} {N : Cn} {X : XLoc} {m : Mh} (h : MachM w N X m) (K : Nat × Nat → Prop) (hs : ∀ b l, X.lab b = some l → ¬ K l → w'.heap[b]? = w.heap[b]?) : Kin w' N X m K := by
  have L := h.labs
  refine ⟨fun k => h.row.same (hs _ _ L.g k), fun k => ?_, fun k2 k3 => h.mem.same (hs _ _ L.er k2) (fun b _ hb => hs b _ (L.eo b hb) k3), fun k4 k5 => h.near.same (hs _ _ L.nr k4) (fun j hj => hs _ _ (L.no _ ⟨j, hj, rfl⟩) k5), fun k => h.dom.same (hs _ _ L.dm k), fun k => h.wks.same (hs _ _ L.ck k), fun d hd k => (h.prg d hd).same (hs _ _ (L.P d hd) k), fun k d j hd hj => ?_, fun d hd k1 k2 => (h.far d hd).same (fun b hb => hs b _ (L.fo d hd b hb) k1) (fun b hb => hs b _ (L.fi d hd b hb) k2), fun d hd k => (h.wait d hd).same (fun b off e => hs b _ (L.wt d hd b off e) k), fun d hd k => ⟨(h.trc d hd).1, ?_⟩⟩
  · have := h.cfg.same (w' := w') fun b hb => hs b _ (L.cf b hb) k
    exact ⟨this.1, fun b hb => L.cf b (this.2 b hb)⟩
  · rcases h.ops d j hd hj with h1 | ⟨gO, h1, h2⟩
    · exact Or.inl h1
    · exact Or.inr ⟨gO, h1, h2.same (hs _ _ (L.O d j hd hj gO 0 h1) k)⟩
  · refine owns_same (h.trc d hd).2 fun g hg => ?_
    have h2 := (h.trc d hd).2.2
    rcases h2 with ⟨h3, _⟩ | ⟨g', cap', cur, hv, hg', hh, _⟩
    · rw [h3] at hg; simp [Value.ownBlock] at hg
    · simp only [Value.slice.injEq] at hv
      rw [hv.1] at hg
      simp [Value.ownBlock] at hg
      subst hg
      exact hs g' _ (L.tr d hd g' 0 hv.1) k

theorem Labs.grow {w w' : World} {N : Cn} {X : XLoc} (L : Labs w N X) (hz : w.heap.size ≤ w'.heap.size) (hc : ∀ b, CfgB X.s w' b → X.lab b = some (1, 0)) : Labs w' N X :=
  ⟨fun b hb => Nat.lt_of_lt_of_le (L.lt b hb) hz, L.g, hc, L.er, L.eo, L.nr, L.no, L.dm, L.ck, L.P, L.O, L.fo, L.fi, L.wt, L.tr⟩

theorem MachM.below {w w' : World} {N : Cn} {X : XLoc} {m : Mh} {n : Nat} (h : MachM w N X m) (hb : Below n w w') (hn : w.heap.size ≤ n) : MachM w' N X m := by
  have k := h.kin (w' := w') (fun _ => False) (fun b l hl _ => hb.block b (Nat.lt_of_lt_of_le (h.labs.lt b (by rw [hl]; simp)) hn))
  have kc := k.cfg (fun h => h)
  exact ⟨h.nok, h.right, h.now0, h.now1, k.row (fun h => h), kc.1, k.mem (fun h => h) (fun h => h), k.near (fun h => h) (fun h => h), k.dom (fun h => h), h.dcap, fun d hd => k.prg d hd (fun h => h), k.ops (fun h => h), fun d hd => k.far d hd (fun h => h) (fun h => h), fun d hd => k.wait d hd (fun h => h), fun d hd => k.trc d hd (fun h => h), k.wks (fun h => h), h.labs.grow hb.size kc.2⟩
end Go.Proofs.YtehheaedbnfidaaGreat

namespace Go.Proofs.YtehheaedbnfidaaGreat
open Go.RowKit

theorem MachM.kinT {w w' : World} {N : Cn} {X : XLoc} {m : Mh} {F : Nat → Prop} (h : MachM w N X m) (hT : Touch F w w') (l0 : Nat × Nat) (hF : ∀ b, F b → X.lab b = some l0) : Kin w' N X m (fun l => l = l0) :=
  h.kin _ fun b l hl hk => hT.block b (h.labs.lt b (by rw [hl]; simp)) (fun hb => hk (by have := hF b hb; rw [hl] at this; exact Option.some.inj this))

theorem MachM.setNear {w w' : World} {N : Cn} {X : XLoc} {m : Mh} {nr' : Nat → Nat → Cp} (h : MachM w N X m) (hN : NearM w' N.nc N.nn X.n nr') (hT : Touch (X.n.own N.nc) w w') : MachM w' N X { m with nr := nr' } := by
  have k := h.kinT hT (5, 0) h.labs.no
  have kc := k.cfg (by simp)
  exact ⟨h.nok, h.right, h.now0, h.now1, k.row (by simp), kc.1, k.mem (by simp) (by simp), hN, k.dom (by simp), h.dcap, fun d hd => k.prg d hd (by simp), k.ops (by simp), fun d hd => k.far d hd (by simp) (by simp), fun d hd => k.wait d hd (by simp), fun d hd => k.trc d hd (by simp), k.wks (by simp), h.labs.grow hT.size kc.2⟩

theorem MachM.setMem {w w' : World} {N : Cn} {X : XLoc} {m : Mh} {own' : Nat → Nat → Int} {sh' : Nat → Int} (h : MachM w N X m) (hM : MemM w' N.nd N.pv N.sn X.e own' sh') (hT : Touch (X.e.own N.nd) w w') : MachM w' N X { m with own := own', sh := sh' } := by
  have k := h.kinT hT (3, 0) h.labs.eo
  have kc := k.cfg (by simp)
  exact ⟨h.nok, h.right, h.now0, h.now1, k.row (by simp), kc.1, hM, k.near (by simp) (by simp), k.dom (by simp), h.dcap, fun d hd => k.prg d hd (by simp), k.ops (by simp), fun d hd => k.far d hd (by simp) (by simp), fun d hd => k.wait d hd (by simp), fun d hd => k.trc d hd (by simp), k.wks (by simp), h.labs.grow hT.size kc.2⟩

theorem MachM.setFar {w w' : World} {N : Cn} {X : XLoc} {m : Mh} {d : Nat} {blk' : Nat → Nat → Bk} (h : MachM w N X m) (hd : d < N.nd) (hF : FarM w' N.ns (N.wn d) (X.f d) blk' (m.tch d)) (hT : Touch ((X.f d).own N.ns) w w') : MachM w' N X { m with blk := up1 m.blk d blk' } := by
  have k := h.kinT hT (10, d) (h.labs.fo d hd)
  have kc := k.cfg (by simp)
  refine ⟨h.nok, h.right, h.now0, h.now1, k.row (by simp), kc.1, k.mem (by simp) (by simp), k.near (by simp) (by simp), k.dom (by simp), h.dcap, fun d hd => k.prg d hd (by simp), k.ops (by simp), fun e he => ?_, fun d hd => k.wait d hd (by simp), fun d hd => k.trc d hd (by simp), k.wks (by simp), h.labs.grow hT.size kc.2⟩
  show FarM w' N.ns (N.wn e) (X.f e) (up1 m.blk d blk' e) (m.tch e)
  by_cases e2 : e = d
  · subst e2; rw [up1_at]; exact hF
  · have := k.far e he (by simpa using e2) (by simp)
    simpa [up1, e2] using this

/-- The locations behind a touch. -/
def XLoc.touch (X : XLoc) (d q gg len cap : Nat) : XLoc := { X with f := up1 X.f d ((X.f d).touched q gg len cap), lab := fun b => if b = gg then some (11, d) else X.lab b }

theorem MachM.setTouch {w w' : World} {N : Cn} {X : XLoc} {m : Mh} {d q gg cap : Nat} {l : List Int} (h : MachM w N X m) (hd : d < N.nd) (hq : q < N.ns) (hg : w.heap.size ≤ gg) (hg2 : gg < w'.heap.size)
    (hF : FarM w' N.ns (N.wn d) ((X.f d).touched q gg l.length cap) (m.blk d) (up1 (m.tch d) q l)) (hT : Touch ((X.f d).own N.ns) w w') : MachM w' N (X.touch d q gg l.length cap) { m with tch := up2 m.tch d q l } := by
  have k := h.kinT hT (10, d) (h.labs.fo d hd)
  have kc := k.cfg (by simp)
  have hn : ∀ b l, X.lab b = some l → b ≠ gg := fun b l hl e => by
    have := h.labs.lt b (by rw [hl]; simp)
    omega
  have hl : ∀ b l, X.lab b = some l → (X.touch d q gg l.1 cap).lab b = some l := fun b l hl => by
    simp only [XLoc.touch]
    rw [if_neg (hn b l hl)]; exact hl
  have hl2 : ∀ b l2, X.lab b = some l2 → (if b = gg then some (11, d) else X.lab b) = some l2 := fun b l2 e => by rw [if_neg (hn b l2 e)]; exact e
  have hrb : ((X.f d).touched q gg l.length cap).r = (X.f d).r ∧ ((X.f d).touched q gg l.length cap).b = (X.f d).b ∧ ((X.f d).touched q gg l.length cap).rc = (X.f d).rc := ⟨rfl, rfl, rfl⟩
  refine ⟨h.nok, h.right, h.now0, h.now1, k.row (by simp), kc.1, k.mem (by simp) (by simp), k.near (by simp) (by simp), ?_, h.dcap, fun d hd => k.prg d hd (by simp), k.ops (by simp), fun e he => ?_, fun d hd => k.wait d hd (by simp), fun d hd => k.trc d hd (by simp), k.wks (by simp), ?_⟩
  · refine (k.dom (by simp)).congr fun i _ => ?_
    unfold domV XLoc.touch
    by_cases e : i / 4 = d
    · simp [e, up1, FLoc.touched]
    · simp [e, up1]
  · show FarM w' N.ns (N.wn e) (up1 X.f d ((X.f d).touched q gg l.length cap) e) (m.blk e) (up2 m.tch d q l e)
    by_cases e2 : e = d
    · subst e2
      have : up2 m.tch e q l e = up1 (m.tch e) q l := by funext s; simp [up2, up1]
      rw [up1_at, this]; exact hF
    · have := k.far e he (by simpa using e2) (by simp)
      have h3 : up2 m.tch d q l e = m.tch e := by funext s; simp [up2, e2]
      rw [h3]
      simpa [up1, e2] using this
  · refine ⟨fun b hb => ?_, hl2 _ _ h.labs.g, fun b hb => hl2 _ _ (kc.2 b hb), hl2 _ _ h.labs.er, fun b hb => hl2 _ _ (h.labs.eo b hb), hl2 _ _ h.labs.nr, fun b hb => hl2 _ _ (h.labs.no b hb), hl2 _ _ h.labs.dm, hl2 _ _ h.labs.ck, fun e he => hl2 _ _ (h.labs.P e he), fun e j he hj b off hb => hl2 _ _ (h.labs.O e j he hj b off hb), fun e he b hb => hl2 _ _ (h.labs.fo e he b ?_), fun e he b hb => ?_, fun e he b off hb => hl2 _ _ (h.labs.wt e he b off hb), fun e he b off hb => hl2 _ _ (h.labs.tr e he b off hb)⟩
    · by_cases e : b = gg
      · subst e; exact hg2
      · simp only [XLoc.touch, e, if_false] at hb
        exact Nat.lt_of_lt_of_le (h.labs.lt b hb) hT.size
    · have hb' : (up1 X.f d ((X.f d).touched q gg l.length cap) e).own N.ns b := hb
      by_cases e2 : e = d
      · subst e2; rw [up1_at] at hb'; exact hb'
      · simpa [up1, e2] using hb'
    · have hb' : (up1 X.f d ((X.f d).touched q gg l.length cap) e).ints N.ns b := hb
      show (if b = gg then some (11, d) else X.lab b) = some (11, e)
      by_cases e2 : e = d
      · subst e2
        rw [up1_at] at hb'
        obtain ⟨s, off, h1, h2⟩ := hb'
        by_cases e3 : s = q
        · subst e3
          simp only [FLoc.touched, up1, if_true, Option.some.injEq, Addr.mk.injEq] at h2
          rw [if_pos h2.1.symm]
        · simp only [FLoc.touched, up1, e3, if_false] at h2
          exact hl2 _ _ (h.labs.fi e he b ⟨s, off, h1, h2⟩)
      · have : (X.f e).ints N.ns b := by simpa [up1, e2] using hb'
        exact hl2 _ _ (h.labs.fi e he b this)

/-- The time. -/
theorem MachM.setNow {w : World} {N : Cn} {X : XLoc} {m : Mh} (h : MachM w N X m) (t : Int) (t0 : 0 ≤ t) (t1 : t ≤ 10000) : MachM (w.setCell ⟨X.g, 13, none⟩ (.int .i64 t)) N X { m with now := t } ∧ Touch (fun b => b = X.g) w (w.setCell ⟨X.g, 13, none⟩ (.int .i64 t)) := by
  have hT : Touch (fun b => b = X.g) w (w.setCell ⟨X.g, 13, none⟩ (.int .i64 t)) := Touch.setCell _ _ _ _ rfl
  have k := h.kinT hT (0, 0) (fun b hb => by subst hb; exact h.labs.g)
  have kc := k.cfg (by simp)
  exact ⟨⟨h.nok, h.right, t0, t1, h.row.setCell 13 _, kc.1, k.mem (by simp) (by simp), k.near (by simp) (by simp), k.dom (by simp), h.dcap, fun d hd => k.prg d hd (by simp), k.ops (by simp), fun d hd => k.far d hd (by simp) (by simp), fun d hd => k.wait d hd (by simp), fun d hd => k.trc d hd (by simp), k.wks (by simp), h.labs.grow hT.size kc.2⟩, hT⟩

/-- How far a program is. -/
theorem MachM.setDone {w : World} {N : Cn} {X : XLoc} {m : Mh} (h : MachM w N X m) {d : Nat} (hd : d < N.nd) (k n : Nat) : MachM (w.setCell ⟨X.P d, k * 2 + 1, none⟩ (.int .i64 n)) N X { m with dn := up2 m.dn d k n } := by
  have hT : Touch (fun b => b = X.P d) w (w.setCell ⟨X.P d, k * 2 + 1, none⟩ (.int .i64 n)) := Touch.setCell _ _ _ _ rfl
  have kk := h.kinT hT (8, d) (fun b hb => by subst hb; exact h.labs.P d hd)
  have kc := kk.cfg (by simp)
  refine ⟨h.nok, h.right, h.now0, h.now1, kk.row (by simp), kc.1, kk.mem (by simp) (by simp), kk.near (by simp) (by simp), kk.dom (by simp), h.dcap, fun e he => ?_, kk.ops (by simp), fun d hd => kk.far d hd (by simp) (by simp), fun d hd => kk.wait d hd (by simp), fun d hd => kk.trc d hd (by simp), kk.wks (by simp), h.labs.grow hT.size kc.2⟩
  by_cases e2 : e = d
  · subst e2
    refine ((h.prg e he).set _ _).congr fun i _ => ?_
    unfold prgV up2
    by_cases e3 : i = k * 2 + 1
    · subst e3
      simp [show (k * 2 + 1) / 2 = k by omega, show (k * 2 + 1) % 2 = 1 by omega]
    · by_cases e4 : i % 2 = 0
      · simp [e3, e4]
      · have : i / 2 ≠ k := by omega
        simp [e3, e4, this]
  · refine (kk.prg e he (by simpa using e2)).congr fun i _ => ?_
    unfold prgV up2
    simp [e2]

/-- What is under way at a core. -/
theorem MachM.setWk {w w' : World} {N : Cn} {X : XLoc} {m : Mh} {wk' : Nat → Wk} (h : MachM w N X m) (hT : Touch (fun b => b = X.ck) w w') (hc : Cells w' X.ck (N.nc * 3) 182 (fun i => wkV (wk' (i / 3)) (i % 3))) : MachM w' N X { m with wk := wk' } := by
  have k := h.kinT hT (7, 0) (fun b hb => by subst hb; exact h.labs.ck)
  have kc := k.cfg (by simp)
  exact ⟨h.nok, h.right, h.now0, h.now1, k.row (by simp), kc.1, k.mem (by simp) (by simp), k.near (by simp) (by simp), k.dom (by simp), h.dcap, fun d hd => k.prg d hd (by simp), k.ops (by simp), fun d hd => k.far d hd (by simp) (by simp), fun d hd => k.wait d hd (by simp), fun d hd => k.trc d hd (by simp), hc, h.labs.grow hT.size kc.2⟩

theorem wk_at {w : World} {g n : Nat} {f : Nat → Wk} (h : Cells w g (n * 3) 182 (fun i => wkV (f (i / 3)) (i % 3))) {p : Nat} (hp : p < n) :
    w.cell? ⟨g, p * 3, none⟩ = some (.bool (f p).busy) ∧ w.cell? ⟨g, p * 3 + 1, none⟩ = some (.int .i64 (f p).dom) ∧ w.cell? ⟨g, p * 3 + 2, none⟩ = some (.int .i64 (f p).issue) := by
  refine ⟨?_, ?_, ?_⟩
  · rw [h.cell (by omega), show p * 3 / 3 = p by omega, show p * 3 % 3 = 0 by omega]; rfl
  · rw [h.cell (by omega), show (p * 3 + 1) / 3 = p by omega, show (p * 3 + 1) % 3 = 1 by omega]; rfl
  · rw [h.cell (by omega), show (p * 3 + 2) / 3 = p by omega, show (p * 3 + 2) % 3 = 2 by omega]; rfl
theorem wk_set {w : World} {g n : Nat} {f : Nat → Wk} (h : Cells w g (n * 3) 182 (fun i => wkV (f (i / 3)) (i % 3))) (p : Nat) (b : Wk) :
    Cells (((w.setCell ⟨g, p * 3, none⟩ (.bool b.busy)).setCell ⟨g, p * 3 + 1, none⟩ (.int .i64 b.dom)).setCell ⟨g, p * 3 + 2, none⟩ (.int .i64 b.issue)) g (n * 3) 182 (fun i => wkV (up1 f p b (i / 3)) (i % 3)) := by
  refine (((h.set _ _).set _ _).set _ _).congr fun i hi => ?_
  unfold up1 wkV
  by_cases e1 : i / 3 = p
  · have : i = p * 3 ∨ i = p * 3 + 1 ∨ i = p * 3 + 2 := by omega
    rcases this with e2 | e2 | e2
    · subst e2; simp [show p * 3 / 3 = p by omega]
    · subst e2; simp [show (p * 3 + 1) / 3 = p by omega, show (p * 3 + 1) % 3 = 1 by omega]
    · subst e2; simp [show (p * 3 + 2) / 3 = p by omega, show (p * 3 + 2) % 3 = 2 by omega]
  · have f1 : i ≠ p * 3 := by omega
    have f2 : i ≠ p * 3 + 1 := by omega
    have f3 : i ≠ p * 3 + 2 := by omega
    simp [e1, f1, f2, f3]
theorem wk_free {w : World} {g n : Nat} {f : Nat → Wk} (h : Cells w g (n * 3) 182 (fun i => wkV (f (i / 3)) (i % 3))) (p : Nat) :
    Cells (w.setCell ⟨g, p * 3, none⟩ (.bool false)) g (n * 3) 182 (fun i => wkV (up1 f p ⟨false, (f p).dom, (f p).issue⟩ (i / 3)) (i % 3)) := by
  refine (h.set _ _).congr fun i hi => ?_
  unfold up1 wkV
  by_cases e1 : i / 3 = p
  · by_cases e2 : i = p * 3
    · subst e2; simp [show p * 3 / 3 = p by omega]
    · have : i % 3 ≠ 0 := by omega
      simp [e1, e2, this]
  · have f1 : i ≠ p * 3 := by omega
    simp [e1, f1]
end Go.Proofs.YtehheaedbnfidaaGreat

namespace Go.Proofs.YtehheaedbnfidaaGreat
open Go.RowKit

theorem dom_at {w : World} {N : Cn} {X : XLoc} {m : Mh} (h : MachM w N X m) {d : Nat} (hd : d < N.nd) :
    w.cell? ⟨X.dm, d * 4, none⟩ = some (.slice (some ⟨X.P d, 0, none⟩) N.nc N.nc) ∧ w.cell? ⟨X.dm, d * 4 + 1, none⟩ = some (.slice (some ⟨(X.f d).r, 0, none⟩) N.ns (X.f d).rc) ∧ w.cell? ⟨X.dm, d * 4 + 2, none⟩ = some (.slice (X.wa d) (X.wl d) (X.wc d)) ∧ w.cell? ⟨X.dm, d * 4 + 3, none⟩ = some (.slice (X.ta d) (X.tl d) (X.tc d)) := by
  refine ⟨?_, ?_, ?_, ?_⟩
  · rw [h.dom.cell (by omega), show d * 4 / 4 = d by omega, show d * 4 % 4 = 0 by omega]; rfl
  · rw [h.dom.cell (by omega), show (d * 4 + 1) / 4 = d by omega, show (d * 4 + 1) % 4 = 1 by omega]; rfl
  · rw [h.dom.cell (by omega), show (d * 4 + 2) / 4 = d by omega, show (d * 4 + 2) % 4 = 2 by omega]; rfl
  · rw [h.dom.cell (by omega), show (d * 4 + 3) / 4 = d by omega, show (d * 4 + 3) % 4 = 3 by omega]; rfl

theorem prg_at {w : World} {N : Cn} {X : XLoc} {m : Mh} (h : MachM w N X m) {d k : Nat} (hd : d < N.nd) (hk : k < N.nc) :
    w.cell? ⟨X.P d, k * 2, none⟩ = some (.slice (X.oa d k) (m.ops d k).length (m.ops d k).length) ∧ w.cell? ⟨X.P d, k * 2 + 1, none⟩ = some (.int .i64 (m.dn d k)) := by
  refine ⟨?_, ?_⟩
  · rw [(h.prg d hd).cell (by omega), show k * 2 / 2 = k by omega, show k * 2 % 2 = 0 by omega]; rfl
  · rw [(h.prg d hd).cell (by omega), show (k * 2 + 1) / 2 = k by omega, show (k * 2 + 1) % 2 = 1 by omega]; rfl

def XLoc.waits (X : XLoc) (d gg off len cap : Nat) : XLoc := { X with wa := up1 X.wa d (some ⟨gg, off, none⟩), wl := up1 X.wl d len, wc := up1 X.wc d cap, lab := fun b => if b = gg then some (12, d) else X.lab b }
def XLoc.traces (X : XLoc) (d gg len cap : Nat) : XLoc := { X with ta := up1 X.ta d (some ⟨gg, 0, none⟩), tl := up1 X.tl d len, tc := up1 X.tc d cap, lab := fun b => if b = gg then some (13, d) else X.lab b }

theorem MachM.setWait {w w1 : World} {N : Cn} {X : XLoc} {m : Mh} {d gg off len cap : Nat} {q' : List Int} (h : MachM w N X m) (hd : d < N.nd) (hT : Touch (fun b => ∃ o, X.wa d = some ⟨b, o, none⟩) w w1) (hQ : QM w1 (some ⟨gg, off, none⟩) len cap q') (hg : X.lab gg = some (12, d) ∨ w.heap.size ≤ gg) (hg2 : gg < w1.heap.size) :
    MachM (w1.setCell ⟨X.dm, d * 4 + 2, none⟩ (.slice (some ⟨gg, off, none⟩) len cap)) N (X.waits d gg off len cap) { m with wt := up1 m.wt d q' } := by
  have hT2 : Touch (fun b => b = X.dm ∨ ∃ o, X.wa d = some ⟨b, o, none⟩) w (w1.setCell ⟨X.dm, d * 4 + 2, none⟩ (.slice (some ⟨gg, off, none⟩) len cap)) := (hT.mono (fun _ hx => Or.inr hx)).trans (Touch.setCell _ _ _ _ (Or.inl rfl))
  have k := h.kin (w' := w1.setCell ⟨X.dm, d * 4 + 2, none⟩ (.slice (some ⟨gg, off, none⟩) len cap)) (fun l => l = (6, 0) ∨ l = (12, d)) fun b l hl hk => hT2.block b (h.labs.lt b (by rw [hl]; simp)) (fun hb => hk (by
    rcases hb with hb | ⟨o, hb⟩
    · subst hb; rw [h.labs.dm] at hl; exact Or.inl (Option.some.inj hl).symm
    · rw [h.labs.wt d hd b o hb] at hl; exact Or.inr (Option.some.inj hl).symm))
  have kc := k.cfg (by simp)
  have hn : ∀ b l, X.lab b = some l → l ≠ (12, d) → b ≠ gg := fun b l hl hne e => by
    subst e
    rcases hg with hg | hg
    · rw [hg] at hl; exact hne (Option.some.inj hl).symm
    · have := h.labs.lt b (by rw [hl]; simp)
      omega
  have hl2 : ∀ b l2, X.lab b = some l2 → l2 ≠ (12, d) → (if b = gg then some (12, d) else X.lab b) = some l2 := fun b l2 e hne => by rw [if_neg (hn b l2 e hne)]; exact e
  have hdm : X.dm ≠ gg := hn X.dm _ h.labs.dm (by simp)
  have hwd : ∀ b o, X.wa d = some ⟨b, o, none⟩ → b ≠ X.dm := fun b o hb e => by subst e; have := h.labs.wt d hd _ o hb; rw [h.labs.dm] at this; simp at this
  refine ⟨h.nok, h.right, h.now0, h.now1, k.row (by simp), kc.1, k.mem (by simp) (by simp), k.near (by simp) (by simp), ?_, h.dcap, fun e he => k.prg e he (by simp), k.ops (by simp), fun e he => k.far e he (by simp) (by simp), fun e he => ?_, fun e he => k.trc e he (by simp), k.wks (by simp), ?_⟩
  · have hd1 : Cells w1 X.dm (N.nd * 4) 144 (fun i => domV N X (i / 4) (i % 4)) := h.dom.touch hT (fun ⟨o, ho⟩ => hwd _ o ho rfl)
    refine (hd1.set _ _).congr fun i _ => ?_
    unfold domV XLoc.waits up1
    by_cases e : i = d * 4 + 2
    · subst e
      simp [show (d * 4 + 2) / 4 = d by omega, show (d * 4 + 2) % 4 = 2 by omega]
    · by_cases e2 : i / 4 = d
      · have : i % 4 ≠ 2 := by omega
        simp [e, this]
      · simp [e, e2]
  · show QM _ (up1 X.wa d (some ⟨gg, off, none⟩) e) (up1 X.wl d len e) (up1 X.wc d cap e) (up1 m.wt d q' e)
    by_cases e2 : e = d
    · subst e2
      rw [up1_at, up1_at, up1_at, up1_at]
      refine hQ.same fun b o hb => Below.heap_setCell _ _ _ _ ?_
      simp only [Option.some.injEq, Addr.mk.injEq] at hb
      intro e3
      have : b = X.dm := e3
      exact hdm (this.symm.trans hb.1.symm)
    · have := k.wait e he (by simp [e2])
      simpa [up1, e2] using this
  · refine ⟨fun b hb => ?_, hl2 _ _ h.labs.g (by simp), fun b hb => hl2 _ _ (kc.2 b hb) (by simp), hl2 _ _ h.labs.er (by simp), fun b hb => hl2 _ _ (h.labs.eo b hb) (by simp), hl2 _ _ h.labs.nr (by simp), fun b hb => hl2 _ _ (h.labs.no b hb) (by simp), hl2 _ _ h.labs.dm (by simp), hl2 _ _ h.labs.ck (by simp), fun e he => hl2 _ _ (h.labs.P e he) (by simp), fun e j he hj b off hb => hl2 _ _ (h.labs.O e j he hj b off hb) (by simp), fun e he b hb => hl2 _ _ (h.labs.fo e he b hb) (by simp), fun e he b hb => hl2 _ _ (h.labs.fi e he b hb) (by simp), fun e he b o hb => ?_, fun e he b off hb => hl2 _ _ (h.labs.tr e he b off hb) (by simp)⟩
    · have hz : (w1.setCell ⟨X.dm, d * 4 + 2, none⟩ (.slice (some ⟨gg, off, none⟩) len cap)).heap.size = w1.heap.size := by simp [World.setCell]
      rw [hz]
      by_cases e : b = gg
      · subst e; exact hg2
      · simp only [XLoc.waits, e, if_false] at hb
        exact Nat.lt_of_lt_of_le (h.labs.lt b hb) hT.size
    · have hb' : up1 X.wa d (some ⟨gg, off, none⟩) e = some ⟨b, o, none⟩ := hb
      show (if b = gg then some (12, d) else X.lab b) = some (12, e)
      by_cases e2 : e = d
      · subst e2
        rw [up1_at] at hb'
        simp only [Option.some.injEq, Addr.mk.injEq] at hb'
        rw [if_pos hb'.1.symm]
      · have h3 : X.wa e = some ⟨b, o, none⟩ := by simpa [up1, e2] using hb'
        exact hl2 _ _ (h.labs.wt e he b o h3) (by simp [e2])

theorem MachM.setTrace {w w1 : World} {N : Cn} {X : XLoc} {m : Mh} {d gg cap : Nat} {l' : List Ev} (h : MachM w N X m) (hd : d < N.nd) (hT : Touch (fun b => ∃ o, X.ta d = some ⟨b, o, none⟩) w w1) (hQ : w1.ownsRow 0 58 6 (.slice (some ⟨gg, 0, none⟩) l'.length cap) l'.length (l'.flatMap eventL)) (hg : X.lab gg = some (13, d) ∨ w.heap.size ≤ gg) (hg2 : gg < w1.heap.size) :
    MachM (w1.setCell ⟨X.dm, d * 4 + 3, none⟩ (.slice (some ⟨gg, 0, none⟩) l'.length cap)) N (X.traces d gg l'.length cap) { m with tr := up1 m.tr d l' } := by
  have hT2 : Touch (fun b => b = X.dm ∨ ∃ o, X.ta d = some ⟨b, o, none⟩) w (w1.setCell ⟨X.dm, d * 4 + 3, none⟩ (.slice (some ⟨gg, 0, none⟩) l'.length cap)) := (hT.mono (fun _ hx => Or.inr hx)).trans (Touch.setCell _ _ _ _ (Or.inl rfl))
  have k := h.kin (w' := w1.setCell ⟨X.dm, d * 4 + 3, none⟩ (.slice (some ⟨gg, 0, none⟩) l'.length cap)) (fun l => l = (6, 0) ∨ l = (13, d)) fun b l hl hk => hT2.block b (h.labs.lt b (by rw [hl]; simp)) (fun hb => hk (by
    rcases hb with hb | ⟨o, hb⟩
    · subst hb; rw [h.labs.dm] at hl; exact Or.inl (Option.some.inj hl).symm
    · rw [h.labs.tr d hd b o hb] at hl; exact Or.inr (Option.some.inj hl).symm))
  have kc := k.cfg (by simp)
  have hn : ∀ b l, X.lab b = some l → l ≠ (13, d) → b ≠ gg := fun b l hl hne e => by
    subst e
    rcases hg with hg | hg
    · rw [hg] at hl; exact hne (Option.some.inj hl).symm
    · have := h.labs.lt b (by rw [hl]; simp)
      omega
  have hl2 : ∀ b l2, X.lab b = some l2 → l2 ≠ (13, d) → (if b = gg then some (13, d) else X.lab b) = some l2 := fun b l2 e hne => by rw [if_neg (hn b l2 e hne)]; exact e
  have hdm : X.dm ≠ gg := hn X.dm _ h.labs.dm (by simp)
  have hwd : ∀ b o, X.ta d = some ⟨b, o, none⟩ → b ≠ X.dm := fun b o hb e => by subst e; have := h.labs.tr d hd _ o hb; rw [h.labs.dm] at this; simp at this
  refine ⟨h.nok, h.right, h.now0, h.now1, k.row (by simp), kc.1, k.mem (by simp) (by simp), k.near (by simp) (by simp), ?_, h.dcap, fun e he => k.prg e he (by simp), k.ops (by simp), fun e he => k.far e he (by simp) (by simp), fun e he => k.wait e he (by simp), fun e he => ?_, k.wks (by simp), ?_⟩
  · have hd1 : Cells w1 X.dm (N.nd * 4) 144 (fun i => domV N X (i / 4) (i % 4)) := h.dom.touch hT (fun ⟨o, ho⟩ => hwd _ o ho rfl)
    refine (hd1.set _ _).congr fun i _ => ?_
    unfold domV XLoc.traces up1
    by_cases e : i = d * 4 + 3
    · subst e
      simp [show (d * 4 + 3) / 4 = d by omega, show (d * 4 + 3) % 4 = 3 by omega]
    · by_cases e2 : i / 4 = d
      · have : i % 4 = 0 ∨ i % 4 = 1 ∨ i % 4 = 2 := by omega
        rcases this with h1 | h1 | h1 <;> simp [e, h1]
      · simp [e, e2]
  · show up1 X.tl d l'.length e = (up1 m.tr d l' e).length ∧ World.ownsRow _ 0 58 6 (.slice (up1 X.ta d (some ⟨gg, 0, none⟩) e) (up1 X.tl d l'.length e) (up1 X.tc d cap e)) (up1 m.tr d l' e).length ((up1 m.tr d l' e).flatMap eventL)
    by_cases e2 : e = d
    · subst e2
      rw [up1_at, up1_at, up1_at, up1_at]
      refine ⟨rfl, owns_same hQ fun b hb => Below.heap_setCell _ _ _ _ ?_⟩
      simp [Value.ownBlock] at hb
      intro e3
      have : b = X.dm := e3
      exact hdm (this.symm.trans hb.symm)
    · have := k.trc e he (by simp [e2])
      simpa [up1, e2] using this
  · refine ⟨fun b hb => ?_, hl2 _ _ h.labs.g (by simp), fun b hb => hl2 _ _ (kc.2 b hb) (by simp), hl2 _ _ h.labs.er (by simp), fun b hb => hl2 _ _ (h.labs.eo b hb) (by simp), hl2 _ _ h.labs.nr (by simp), fun b hb => hl2 _ _ (h.labs.no b hb) (by simp), hl2 _ _ h.labs.dm (by simp), hl2 _ _ h.labs.ck (by simp), fun e he => hl2 _ _ (h.labs.P e he) (by simp), fun e j he hj b off hb => hl2 _ _ (h.labs.O e j he hj b off hb) (by simp), fun e he b hb => hl2 _ _ (h.labs.fo e he b hb) (by simp), fun e he b hb => hl2 _ _ (h.labs.fi e he b hb) (by simp), fun e he b off hb => hl2 _ _ (h.labs.wt e he b off hb) (by simp), fun e he b o hb => ?_⟩
    · have hz : (w1.setCell ⟨X.dm, d * 4 + 3, none⟩ (.slice (some ⟨gg, 0, none⟩) l'.length cap)).heap.size = w1.heap.size := by simp [World.setCell]
      rw [hz]
      by_cases e : b = gg
      · subst e; exact hg2
      · simp only [XLoc.traces, e, if_false] at hb
        exact Nat.lt_of_lt_of_le (h.labs.lt b hb) hT.size
    · have hb' : up1 X.ta d (some ⟨gg, 0, none⟩) e = some ⟨b, o, none⟩ := hb
      show (if b = gg then some (13, d) else X.lab b) = some (13, e)
      by_cases e2 : e = d
      · subst e2
        rw [up1_at] at hb'
        simp only [Option.some.injEq, Addr.mk.injEq] at hb'
        rw [if_pos hb'.1.symm]
      · have h3 : X.ta e = some ⟨b, o, none⟩ := by simpa [up1, e2] using hb'
        exact hl2 _ _ (h.labs.tr e he b o h3) (by simp [e2])
end Go.Proofs.YtehheaedbnfidaaGreat
