/-
  KohG, KohH
-/
import Derived.Test.YtcmcfafhllpojabGreatClPackAN
import Derived.Test.YtcmcfafhllpojabGreatClPackAE
import Derived.Deep.RegionLaw
namespace Go.Proofs.YtcmcfafhllpojabGreat
open Go.RowKit

/-- A row of one's own lies apart from a block of another type. -/
theorem own_off {w : World} {b1 s1 n1 g : Nat} {t1 t2 : TypeId} {v1 : Value} {xs1 L : List Value} (h1 : w.ownsRow b1 t1 s1 v1 n1 xs1) (h2 : Row w g L t2) (hne : t1 ≠ t2) : v1.ownBlock ≠ some g := by
  intro e1
  rcases h1.2 with ⟨a, _⟩ | ⟨g1, c1, cur1, a, _, q1, _⟩
  · rw [a] at e1; simp [Value.ownBlock] at e1
  · rw [a] at e1
    simp [Value.ownBlock] at e1
    subst e1
    unfold Row at h2
    rw [q1] at h2
    simp at h2
    exact hne h2.2
theorem own_offs {w : World} {b1 b2 s1 s2 n1 n2 : Nat} {t1 t2 : TypeId} {v1 v2 : Value} {xs1 xs2 : List Value} (h1 : w.ownsRow b1 t1 s1 v1 n1 xs1) (h2 : w.ownsRow b2 t2 s2 v2 n2 xs2) (hne : t1 ≠ t2) {g : Nat} (e1 : v1.ownBlock = some g) (e2 : v2.ownBlock = some g) : False := by
  rcases h1.2 with ⟨a, _⟩ | ⟨g1, c1, cur1, a, _, q1, _⟩
  · rw [a] at e1; simp [Value.ownBlock] at e1
  · rcases h2.2 with ⟨b, _⟩ | ⟨g2, c2, cur2, b, _, q2, _⟩
    · rw [b] at e2; simp [Value.ownBlock] at e2
    · rw [a] at e1
      rw [b] at e2
      simp [Value.ownBlock] at e1 e2
      subst e1
      subst e2
      rw [q1] at q2
      simp at q2
      exact hne q2.2

theorem owns_low {w : World} {base base' : Nat} {e : TypeId} {size : Nat} {v : Value} {n : Nat} {xs : List Value} (h : w.ownsRow base e size v n xs) (hb : base' ≤ base) : w.ownsRow base' e size v n xs := by
  refine ⟨h.1, ?_⟩
  rcases h.2 with h2 | ⟨g, cap, cur, hv, hg, r⟩
  · exact Or.inl h2
  · exact Or.inr ⟨g, cap, cur, hv, Nat.le_trans hb hg, r⟩

/-- While all is looked at: n near caches and k parts of the far cache so far. -/
structure SG (w wr : World) (x : Cs) (l : Cl) (nn : Nat) (nr : Nat → Nat → Cp) (len wn : Nat → Nat) (blk : Nat → Nat → Nat → Bk) (n : Nat) (na : Option Addr) (nb : Nat) (A : Nat → Nat) (k : Nat) (fa : Option Addr) (fb : Nat) (F : Nat → Option Addr) (Fc : Nat → Nat) : Prop where
  bx : Row wr w.heap.size (csL x l) 33
  bs : Row wr (w.heap.size + 1) [.slice na n nb, .slice fa k fb] 122
  nown : wr.ownsRow (w.heap.size + 2) 79 1 (.slice na n nb) n ((List.range n).map fun j => .slice (some ⟨A j, 0, none⟩) nn nn)
  cps : ∀ j, j < n → Row wr (A j) (cpsL (nr j) nn) 90 ∧ w.heap.size + 2 ≤ A j
  fown : wr.ownsRow (w.heap.size + 2) 82 1 (.slice fa k fb) k ((List.range k).map fun j => .slice (F j) (len j) (Fc j))
  bks : ∀ j, j < k → wr.ownsRow (w.heap.size + 2) 116 2 (.slice (F j) (len j) (Fc j)) (len j) (bksL (blk j) (wn j) (len j))
  siz : w.heap.size + 2 ≤ wr.heap.size
  bel : Below w.heap.size w wr

theorem SG.below {w wr wr' : World} {x : Cs} {l : Cl} {nn : Nat} {nr : Nat → Nat → Cp} {len wn : Nat → Nat} {blk : Nat → Nat → Nat → Bk} {n : Nat} {na : Option Addr} {nb : Nat} {A : Nat → Nat} {k : Nat} {fa : Option Addr} {fb : Nat} {F : Nat → Option Addr} {Fc : Nat → Nat}
    (h : SG w wr x l nn nr len wn blk n na nb A k fa fb F Fc) (hb : Below wr.heap.size wr wr') : SG w wr' x l nn nr len wn blk n na nb A k fa fb F Fc :=
  ⟨h.bx.below hb h.bx.lt, h.bs.below hb h.bs.lt, owns_same h.nown (fun g hg => hb.block g (owns_lt h.nown g hg).1), fun j hj => ⟨(h.cps j hj).1.below hb (h.cps j hj).1.lt, (h.cps j hj).2⟩, owns_same h.fown (fun g hg => hb.block g (owns_lt h.fown g hg).1), fun j hj => owns_same (h.bks j hj) (fun g hg => hb.block g (owns_lt (h.bks j hj) g hg).1), Nat.le_trans h.siz hb.size, below_step h.bel hb rfl⟩

theorem map_more {f f' : Nat → Value} {n : Nat} (h : ∀ j, j < n → f' j = f j) : (List.range (n + 1)).map f' = (List.range n).map f ++ [f' n] := by
  rw [List.range_succ, List.map_append]
  congr 1
  apply List.map_congr_left
  intro j hj
  exact h j (List.mem_range.1 hj)

/-- One near cache more. -/
theorem SG.near {w v w4 : World} {x : Cs} {l : Cl} {nn : Nat} {nr : Nat → Nat → Cp} {len wn : Nat → Nat} {blk : Nat → Nat → Nat → Bk} {n : Nat} {na : Option Addr} {nb : Nat} {A : Nat → Nat} {k : Nat} {fa : Option Addr} {fb : Nat} {F : Nat → Option Addr} {Fc : Nat → Nat}
    (h : SG w v x l nn nr len wn blk n na nb A k fa fb F Fc) {g gg cap2 : Nat} (hR : Row v g (cpsL (nr n) nn) 90) (hg : w.heap.size + 2 ≤ g)
    (hgrow : (v.alloc (.cells #[.slice (some ⟨g, 0, none⟩) nn nn] 79)).grownBy w4 (Value.slice na n nb).ownBlock) (hown : w4.ownsRow (w.heap.size + 2) 79 1 (.slice (some ⟨gg, 0, none⟩) (n + 1) cap2) (n + 1) (((List.range n).map fun j => .slice (some ⟨A j, 0, none⟩) nn nn) ++ [.slice (some ⟨g, 0, none⟩) nn nn])) :
    Row w4 (w.heap.size + 1) [.slice na n nb, .slice fa k fb] 122 ∧ SG w (w4.setCell ⟨w.heap.size + 1, 0, none⟩ (.slice (some ⟨gg, 0, none⟩) (n + 1) cap2)) x l nn nr len wn blk (n + 1) (some ⟨gg, 0, none⟩) cap2 (fun j => if j = n then g else A j) k fa fb F Fc := by
  have hbA : Below v.heap.size v (v.alloc (.cells #[.slice (some ⟨g, 0, none⟩) nn nn] 79)) := (Below.refl _ _).alloc (Nat.le_refl _) _
  have S0 := h.below hbA
  have R0 := hR.below hbA hR.lt
  have hrw : ∀ b, (Value.slice na n nb).ownBlock = some b → w.heap.size + 2 ≤ b := fun b hb => (owns_lt h.nown b hb).2
  have b4 : ∀ b, b < (v.alloc (.cells #[.slice (some ⟨g, 0, none⟩) nn nn] 79)).heap.size → (Value.slice na n nb).ownBlock ≠ some b → b ≠ w.heap.size + 1 → (w4.setCell ⟨w.heap.size + 1, 0, none⟩ (.slice (some ⟨gg, 0, none⟩) (n + 1) cap2)).heap[b]? = (v.alloc (.cells #[.slice (some ⟨g, 0, none⟩) nn nn] 79)).heap[b]? := fun b h1 h2 h3 => by
    rw [Below.heap_setCell _ _ _ _ (by exact h3)]
    exact hgrow.block b h1 (fun e => h2 e.symm)
  have rs : Row w4 (w.heap.size + 1) [.slice na n nb, .slice fa k fb] 122 := by
    unfold Row
    rw [hgrow.block (w.heap.size + 1) S0.bs.lt (fun e => by have := hrw _ e.symm; omega)]
    exact S0.bs
  have B4 : Below w.heap.size w w4 := below_grown S0.bel (by have := S0.siz; omega) hgrow (fun b hb => by have := hrw b hb; omega)
  have hgb := owns_lt hown gg rfl
  refine ⟨rs, ?_, by have := rs.setCell 0 (.slice (some ⟨gg, 0, none⟩) (n + 1) cap2); exact this, ?_, fun j hj => ?_, ?_, fun j hj => ?_, ?_, B4.setCell (p := ⟨w.heap.size + 1, 0, none⟩) (by show w.heap.size ≤ w.heap.size + 1; omega) _⟩
  · unfold Row
    rw [b4 _ S0.bx.lt (fun e => by have := hrw _ e; omega) (by omega)]
    exact S0.bx
  · rw [map_more (f := fun j => .slice (some ⟨A j, 0, none⟩) nn nn) (fun j hj => by simp [show j ≠ n by omega])]
    simp only [if_true]
    refine owns_same hown (fun b hb => Below.heap_setCell _ _ _ _ ?_)
    have : b = gg := by simp [Value.ownBlock] at hb; exact hb.symm
    subst this
    show b ≠ w.heap.size + 1
    omega
  · by_cases q : j = n
    · subst q
      simp only [if_true]
      refine ⟨?_, hg⟩
      unfold Row
      rw [b4 _ R0.lt (own_off S0.nown R0 (by decide)) (by omega)]
      exact R0
    · simp only [q, if_false]
      obtain ⟨r1, r2⟩ := S0.cps j (by omega)
      refine ⟨?_, r2⟩
      unfold Row
      rw [b4 _ r1.lt (own_off S0.nown r1 (by decide)) (by omega)]
      exact r1
  · refine owns_same S0.fown (fun b hb => b4 b (owns_lt S0.fown b hb).1 (fun e => own_offs S0.nown S0.fown (by decide) e hb) ?_)
    have := (owns_lt S0.fown b hb).2
    omega
  · refine owns_same (S0.bks j hj) (fun b hb => b4 b (owns_lt (S0.bks j hj) b hb).1 (fun e => own_offs S0.nown (S0.bks j hj) (by decide) e hb) ?_)
    have := (owns_lt (S0.bks j hj) b hb).2
    omega
  · have := S0.siz
    have := hgrow.size
    simp only [World.setCell]
    simp at *
    omega

/-- One part of the far cache more. -/
theorem SG.far {w v w4 : World} {x : Cs} {l : Cl} {nn : Nat} {nr : Nat → Nat → Cp} {len wn : Nat → Nat} {blk : Nat → Nat → Nat → Bk} {n : Nat} {na : Option Addr} {nb : Nat} {A : Nat → Nat} {k : Nat} {fa : Option Addr} {fb : Nat} {F : Nat → Option Addr} {Fc : Nat → Nat}
    (h : SG w v x l nn nr len wn blk n na nb A k fa fb F Fc) {la : Option Addr} {lc gg cap2 : Nat} (hR : v.ownsRow (w.heap.size + 2) 116 2 (.slice la (len k) lc) (len k) (bksL (blk k) (wn k) (len k)))
    (hgrow : (v.alloc (.cells #[.slice la (len k) lc] 82)).grownBy w4 (Value.slice fa k fb).ownBlock) (hown : w4.ownsRow (w.heap.size + 2) 82 1 (.slice (some ⟨gg, 0, none⟩) (k + 1) cap2) (k + 1) (((List.range k).map fun j => .slice (F j) (len j) (Fc j)) ++ [.slice la (len k) lc])) :
    Row w4 (w.heap.size + 1) [.slice na n nb, .slice fa k fb] 122 ∧ SG w (w4.setCell ⟨w.heap.size + 1, 1, none⟩ (.slice (some ⟨gg, 0, none⟩) (k + 1) cap2)) x l nn nr len wn blk n na nb A (k + 1) (some ⟨gg, 0, none⟩) cap2 (fun j => if j = k then la else F j) (fun j => if j = k then lc else Fc j) := by
  have hbA : Below v.heap.size v (v.alloc (.cells #[.slice la (len k) lc] 82)) := (Below.refl _ _).alloc (Nat.le_refl _) _
  have S0 := h.below hbA
  have R0 : (v.alloc (.cells #[.slice la (len k) lc] 82)).ownsRow (w.heap.size + 2) 116 2 (.slice la (len k) lc) (len k) (bksL (blk k) (wn k) (len k)) := owns_same hR (fun g hg => hbA.block g (owns_lt hR g hg).1)
  have hrw : ∀ b, (Value.slice fa k fb).ownBlock = some b → w.heap.size + 2 ≤ b := fun b hb => (owns_lt h.fown b hb).2
  have b4 : ∀ b, b < (v.alloc (.cells #[.slice la (len k) lc] 82)).heap.size → (Value.slice fa k fb).ownBlock ≠ some b → b ≠ w.heap.size + 1 → (w4.setCell ⟨w.heap.size + 1, 1, none⟩ (.slice (some ⟨gg, 0, none⟩) (k + 1) cap2)).heap[b]? = (v.alloc (.cells #[.slice la (len k) lc] 82)).heap[b]? := fun b h1 h2 h3 => by
    rw [Below.heap_setCell _ _ _ _ (by exact h3)]
    exact hgrow.block b h1 (fun e => h2 e.symm)
  have rs : Row w4 (w.heap.size + 1) [.slice na n nb, .slice fa k fb] 122 := by
    unfold Row
    rw [hgrow.block (w.heap.size + 1) S0.bs.lt (fun e => by have := hrw _ e.symm; omega)]
    exact S0.bs
  have B4 : Below w.heap.size w w4 := below_grown S0.bel (by have := S0.siz; omega) hgrow (fun b hb => by have := hrw b hb; omega)
  have hgb := owns_lt hown gg rfl
  refine ⟨rs, ?_, by have := rs.setCell 1 (.slice (some ⟨gg, 0, none⟩) (k + 1) cap2); exact this, ?_, fun j hj => ?_, ?_, fun j hj => ?_, ?_, B4.setCell (p := ⟨w.heap.size + 1, 1, none⟩) (by show w.heap.size ≤ w.heap.size + 1; omega) _⟩
  · unfold Row
    rw [b4 _ S0.bx.lt (fun e => by have := hrw _ e; omega) (by omega)]
    exact S0.bx
  · refine owns_same S0.nown (fun b hb => b4 b (owns_lt S0.nown b hb).1 (fun e => own_offs S0.nown S0.fown (by decide) hb e) ?_)
    have := (owns_lt S0.nown b hb).2
    omega
  · obtain ⟨r1, r2⟩ := S0.cps j hj
    refine ⟨?_, r2⟩
    unfold Row
    rw [b4 _ r1.lt (own_off S0.fown r1 (by decide)) (by omega)]
    exact r1
  · rw [map_more (f := fun j => .slice (F j) (len j) (Fc j)) (fun j hj => by simp [show j ≠ k by omega])]
    simp only [if_true]
    refine owns_same hown (fun b hb => Below.heap_setCell _ _ _ _ ?_)
    have : b = gg := by simp [Value.ownBlock] at hb; exact hb.symm
    subst this
    show b ≠ w.heap.size + 1
    omega
  · by_cases q : j = k
    · subst q
      simp only [if_true]
      refine owns_same R0 (fun b hb => b4 b (owns_lt R0 b hb).1 (fun e => own_offs S0.fown R0 (by decide) e hb) ?_)
      have := (owns_lt R0 b hb).2
      omega
    · simp only [q, if_false]
      refine owns_same (S0.bks j (by omega)) (fun b hb => b4 b (owns_lt (S0.bks j (by omega)) b hb).1 (fun e => own_offs S0.fown (S0.bks j (by omega)) (by decide) e hb) ?_)
      have := (owns_lt (S0.bks j (by omega)) b hb).2
      omega
  · have := S0.siz
    have := hgrow.size
    simp only [World.setCell]
    simp at *
    omega

/-- All is seen. -/
theorem SG.sight {w wr : World} {x : Cs} {l : Cl} {nn : Nat} {nr : Nat → Nat → Cp} {len wn : Nat → Nat} {blk : Nat → Nat → Nat → Bk} {n : Nat} {na : Option Addr} {nb : Nat} {A : Nat → Nat} {k : Nat} {fa : Option Addr} {fb : Nat} {F : Nat → Option Addr} {Fc : Nat → Nat}
    (h : SG w wr x l nn nr len wn blk n na nb A k fa fb F Fc) (hn : 0 < n) (hk : 0 < k) : SightM wr (w.heap.size + 1) n nn k nr len (fun d i => (blk d (i / wn d) (i % wn d)).line) (fun d i => (blk d (i / wn d) (i % wn d)).mkd) := by
  obtain ⟨g, cap, hv, _, _⟩ := World.ownsRow.form h.nown hn
  simp only [Value.slice.injEq] at hv
  obtain ⟨e1, _, e2⟩ := hv
  obtain ⟨g', cap', hv', _, _⟩ := World.ownsRow.form h.fown hk
  simp only [Value.slice.injEq] at hv'
  obtain ⟨e1', _, e2'⟩ := hv'
  subst e1
  subst e1'
  have hc := owns_cells h.nown (fun j => .slice (some ⟨A j, 0, none⟩) nn nn) (fun j hj => by rw [List.getElem?_map, List.getElem?_range (by omega)]; rfl)
  have hf := owns_cells h.fown (fun j => .slice (F j) (len j) (Fc j)) (fun j hj => by rw [List.getElem?_map, List.getElem?_range (by omega)]; rfl)
  refine ⟨g, nb, g', fb, h.bs, fun j hj => ⟨A j, hc.1.cell (by omega), (h.cps j hj).1⟩, fun d hd => ⟨F d, Fc d, hf.1.cell (by omega), bks_of (h.bks d hd)⟩, hc.2.1, hc.2.2.1, hf.2.1, hf.2.2.1⟩
end Go.Proofs.YtcmcfafhllpojabGreat

namespace Go.Proofs.YtcmcfafhllpojabGreat
open Go.RowKit

theorem Tryz.infoCpsK : (Tryz.prog.info? 79).map (fun i => (i.zero, i.size, i.bytes)) = some (some (.slice none 0 0), 1, 24) := by kernel_rfl
theorem Tryz.infoBksK : (Tryz.prog.info? 82).map (fun i => (i.zero, i.size, i.bytes)) = some (some (.slice none 0 0), 1, 24) := by kernel_rfl

set_option maxRecDepth 100000 in
set_option maxHeartbeats 6400000 in
theorem ksees_any (x : Cs) (l : Cl) (N : Cn) (X : XLoc) (m : Mh) (w : World) (hC : CfgAt w x.c l.s) (hM : MachM w N X m) (hnc : (N.nc : Int) = x.c.cores) (hnn : (N.nn : Int) = x.c.near) (hnd : (N.nd : Int) = x.c.domains) (hns : (N.ns : Int) = x.c.sets) (hwn : ∀ d, N.wn d = x.c.ways.count (d : Int)) :
    Calls Tryz.prog 26 #[csV x l, .pointer (some ⟨X.g, 0, none⟩)] w fun e w' => ∃ gS, e = .returned (.tuple #[.pointer (some ⟨gS, 0, none⟩), .bool true]) ∧ SightM w' gS N.nc N.nn N.nd m.nr (fun d => N.ns * N.wn d) (fun d i => (m.blk d (i / N.wn d) (i % N.wn d)).line) (fun d i => (m.blk d (i / N.wn d) (i % N.wn d)).mkd) ∧ Below w.heap.size w w' := by
  have hb0 : Below w.heap.size w ((w.alloc (.cells (csA x l) 33)).alloc (.cells #[.slice none 0 0, .slice none 0 0] 122)) := ((Below.refl _ _).alloc (Nat.le_refl _) _).alloc (by simp) _
  have RX : Row ((w.alloc (.cells (csA x l) 33)).alloc (.cells #[.slice none 0 0, .slice none 0 0] 122)) w.heap.size (csL x l) 33 := Row.alloc (heap_alloc_new w _) _
  have RS : Row ((w.alloc (.cells (csA x l) 33)).alloc (.cells #[.slice none 0 0, .slice none 0 0] 122)) (w.heap.size + 1) [.slice none 0 0, .slice none 0 0] 122 := by
    have := heap_alloc_new (w.alloc (.cells (csA x l) 33)) (.cells #[.slice none 0 0, .slice none 0 0] 122)
    rw [World.size_alloc] at this
    exact this
  have hsz : ((w.alloc (.cells (csA x l) 33)).alloc (.cells #[.slice none 0 0, .slice none 0 0] 122)).heap.size = w.heap.size + 2 := by simp
  have HG0 : Hid (SG w ((w.alloc (.cells (csA x l) 33)).alloc (.cells #[.slice none 0 0, .slice none 0 0] 122)) x l N.nn m.nr (fun d => N.ns * N.wn d) N.wn m.blk 0 none 0 (fun _ => 0) 0 none 0 (fun _ => none) (fun _ => 0)) :=
    ⟨RX, RS, by simp [World.ownsRow], fun j hj => by omega, by simp [World.ownsRow], fun j hj => by omega, by omega, hb0⟩
  obtain ⟨n1, n2, n3, n4, n5, n6, n7, n8, n9, n10, n11, n12, n13, n14, n15⟩ := hM.nums
  have hnn4 := hM.near.n1
  have hFar := hM.far
  have HFW : Hid (∀ d, d < N.nd → N.ns ≤ 4 ∧ N.wn d ≤ 4 ∧ 0 < N.ns ∧ 0 < N.wn d) := fun d hd => ⟨(hFar d hd).n1, (hFar d hd).w1, (hFar d hd).n0, (hFar d hd).w0⟩
  have hc3 : N.nc ≤ 3 := by omega
  have hc0 : 0 < N.nc := by omega
  have hd4 : N.nd ≤ 4 := by omega
  have hd0 : 0 < N.nd := by omega
  obtain ⟨j0, hj0, hy0, hy1, hy2⟩ := info_parts Tryz.infoCpsK
  obtain ⟨k0, hk0, hu0, hu1, hu2⟩ := info_parts Tryz.infoBksK
  have HM : Hid _ := hM
  have HC : Hid _ := hC
  have HNC : Hid _ := hnc
  have HNN : Hid _ := hnn
  have HND : Hid _ := hnd
  have HNS : Hid _ := hns
  have HWN : Hid _ := hwn
  have HWL : Hid _ := hC.ways.hlen
  have hwle := hC.ways.hle
  have hwm := hC.ways.hmax
  unfold maxLen at hwm
  clear hM hC hnc hnn hnd hns hwn hFar RX RS hb0 hsz n1 n2 n3 n4 n5 n6 n7 n8 n9 n10 n11 n12 n13 n14 n15
  go_enter Tryz.func26, Tryz.ntmps26
  go_wp2_with fail
  go_loopw [7] (fun u wr => ∃ (K : Nat) (na : Option Addr) (nb : Nat) (A : Nat → Nat), K ≤ N.nc ∧ u = .int .i64 K ∧ SG w wr x l N.nn m.nr (fun d => N.ns * N.wn d) N.wn m.blk K na nb A 0 none 0 (fun _ => none) (fun _ => 0)) (fun u _ => N.nc - (intOf u).toNat)
  case atStart => exact ⟨0, none, 0, _, by omega, rfl, HG0.out⟩
  case round =>
    obtain ⟨K, na, nb, A, hK, rfl, G⟩ := hrel
    have y0 : wr.cell? ⟨w.heap.size, 0, none⟩ = some (.int .i64 N.nc) := by rw [HNC.out]; exact G.bx.cell 0
    have lx := G.bx.lt
    have HG : Hid _ := G
    by_cases hlt : K < N.nc
    · have hNe := wNear_good N X m K wr (HM.out.below G.bel (Nat.le_refl _)) hlt
      have r1 : Row (wr.alloc (.cells (cpsL (m.nr K) N.nn).toArray 90)) wr.heap.size (cpsL (m.nr K) N.nn) 90 := row_of
      have b1 : Below wr.heap.size wr (wr.alloc (.cells (cpsL (m.nr K) N.nn).toArray 90)) := (Below.refl _ _).alloc (Nat.le_refl _) _
      obtain ⟨w1, hw1⟩ : ∃ w1, wr.alloc (.cells (cpsL (m.nr K) N.nn).toArray 90) = w1 := ⟨_, rfl⟩
      rw [hw1] at hNe r1 b1
      have G1 := G.below b1
      have y5 : w1.cell? ⟨w.heap.size, 5, none⟩ = some (.int .i64 N.nn) := by rw [HNN.out]; exact G1.bx.cell 5
      have lx1 := G1.bx.lt
      have cb : w1.cell? ⟨w.heap.size + 1, 0, none⟩ = some (.slice na K nb) := G1.bs.cell 0
      have fb := G1.bs.frozen 0
      have lb := G1.bs.lt
      have HG1 : Hid _ := G1
      have HR1 : Hid (Row w1 wr.heap.size (cpsL (m.nr K) N.nn) 90) := r1
      have hgs := G.siz
      have HRJ : Hid _ := G1.nown
      have hsv := G1.siz
      have LM : Hid (K + 1 ≤ maxLen) := by unfold Hid maxLen; omega
      have L8 : Hid ((K + 1) * 24 ≤ 140737488355328) := by unfold Hid; omega
      clear G G1 b1 r1 hw1
      go_wp2_with fail
      refine hNe.mono ?_; rintro e v ⟨rfl, rfl⟩
      clear hNe y0
      go_wp2_with (at_builtin; refine wpList_append_lies _ rfl _ _ 52 rfl (w.heap.size + 2) 79 j0 _ 1 24 Tryz.underlying52 hj0 hy0 hy1 hy2 rfl (by decide) (.slice na K nb) K ((List.range K).map fun j => .slice (some ⟨A j, 0, none⟩) N.nn N.nn) rfl ?p1 ⟨v.heap.size, 0, none⟩ 1 1 [.slice (some ⟨wr.heap.size, 0, none⟩) N.nn N.nn] ?p9 rfl ?p3 ?p4 (by omega) ?p5 ?p6 ?p7 _ rfl ?p8)
      case p1 => exact World.ownsRow.alloc HRJ.out _
      try case p3 => exact World.news_of_block (cs := #[.slice (some ⟨wr.heap.size, 0, none⟩) N.nn N.nn]) (t := 79) (fr := (0, 0)) (heap_alloc_new v _)
      case p4 => simp [Value.oneCell']
      case p5 => exact LM.out
      case p6 => exact L8.out
      case p7 => simp; omega
      try case p9 => rfl
      case p8 =>
        intro gg cap2 w4 hown4 hgrow4 hat4 hlt4
        obtain ⟨R4, G4⟩ := HG1.out.near HR1.out hgs hgrow4 hown4
        have c4 : w4.cell? ⟨w.heap.size + 1, 0, none⟩ = some (.slice na K nb) := R4.cell 0
        have f4 := R4.frozen 0
        have HG4 : Hid _ := G4
        clear hown4 hgrow4 hat4 R4 G4 cb fb lb
        go_wp2_with fail
        go_roundw
        case rel => first | exact ⟨K + 1, _, _, _, by omega, by go_num, HG4.out⟩ | ((repeat apply Exists.intro); exact ⟨⟨K + 1, _, _, _, by omega, by go_num, HG4.out⟩, rfl⟩)
        case measure => simp [intOf]; omega
    · have eK : K = N.nc := by omega
      subst eK
      clear G
      go_wp2_with fail
      go_loopw [10] (fun u wr => ∃ (D : Nat) (fa : Option Addr) (fb : Nat) (F : Nat → Option Addr) (Fc : Nat → Nat), D ≤ N.nd ∧ u = .int .i64 D ∧ SG w wr x l N.nn m.nr (fun d => N.ns * N.wn d) N.wn m.blk N.nc na nb A D fa fb F Fc) (fun u _ => N.nd - (intOf u).toNat)
      case atStart => exact ⟨0, none, 0, _, _, by omega, rfl, HG.out⟩
      case round =>
        obtain ⟨D, fa, fb, F, Fc, hD, rfl, G⟩ := hrel
        have y1 : wr.cell? ⟨w.heap.size, 1, none⟩ = some (.int .i64 N.nd) := by rw [HND.out]; exact G.bx.cell 1
        have lx := G.bx.lt
        have HGD : Hid _ := G
        by_cases hlt : D < N.nd
        · clear G
          go_wp2_with fail
          go_loopw [11, 12] (fun c u wz => ∃ (i : Nat), i ≤ l.s.wl ∧ u = .int .i64 i ∧ c = .int .i64 ((x.c.ways.take i).count (D : Int) : Nat) ∧ wz = wr) (fun _ u _ => l.s.wl - (intOf u).toNat)
          case atStart => exact ⟨0, by omega, rfl, rfl, rfl⟩
          case round =>
            obtain ⟨i, hi, rfl, rfl, rfl⟩ := hrel
            have hcl := count_le (D : Int) x.c.ways i
            have W := (HC.out.below HGD.out.bel (Nat.le_refl _)).ways
            by_cases hli : i < l.s.wl
            · obtain ⟨b, off, hwa, hc⟩ := W.hat i hli
              have y7 : wr.cell? ⟨w.heap.size, 7, none⟩ = some (.slice (some ⟨b, off, none⟩) l.s.wl l.s.wc) := by rw [← hwa]; exact HGD.out.bx.cell 7
              have lb := cell_lt hc
              have HS : Hid _ := count_snoc (D : Int) x.c.ways i (by rw [HWL.out]; exact hli)
              clear W hwa
              go_wp2_with fail
              all_goals
                go_roundw
                case rel => 
                  refine ⟨i + 1, by omega, by go_num, ?_, by first | rfl | trivial⟩
                  rw [HS.out]
                  simp [*]
                case measure => simp [intOf]; omega
            · have y7 : wr.cell? ⟨w.heap.size, 7, none⟩ = some (.slice l.s.wa l.s.wl l.s.wc) := HGD.out.bx.cell 7
              have hcn : (x.c.ways.take i).count (D : Int) = N.wn D := by rw [List.take_of_length_le (by rw [HWL.out]; omega)]; exact (HWN.out D).symm
              rw [hcn]
              have hF := wFar_good N X m D wr (HM.out.below HGD.out.bel (Nat.le_refl _)) hlt
              obtain ⟨f1, f2, f3, f4⟩ := HFW.out D hlt
              have hprod : (N.wn D : Int) * x.c.sets = ((N.ns * N.wn D : Nat) : Int) := by rw [← HNS.out, Int.natCast_mul, Int.mul_comm]
              have hpb : N.ns * N.wn D ≤ 16 := Nat.mul_le_mul f1 f2
              have hwp : IntKind.i64.wrap ((N.wn D : Int) * x.c.sets) = ((N.ns * N.wn D : Nat) : Int) := by rw [hprod, IntKind.wrap_i64]; omega
              have hsv0 := HGD.out.siz
              clear W hcn hcl hprod f1 f2 f3 f4
              go_wp2_with fail
              refine hF.mono ?_; rintro e v ⟨la, lc, rfl, hown, hbv⟩
              have G1 := HGD.out.below hbv
              have y6 : v.cell? ⟨w.heap.size, 6, none⟩ = some (.int .i64 x.c.sets) := G1.bx.cell 6
              have lx1 := G1.bx.lt
              have cb : v.cell? ⟨w.heap.size + 1, 1, none⟩ = some (.slice fa D fb) := G1.bs.cell 1
              have fbz := G1.bs.frozen 1
              have lb := G1.bs.lt
              have HG1 : Hid _ := G1
              have HOW : Hid (v.ownsRow (w.heap.size + 2) 116 2 (.slice la (N.ns * N.wn D) lc) (N.ns * N.wn D) (bksL (m.blk D) (N.wn D) (N.ns * N.wn D))) := owns_low hown hsv0
              have HRJ : Hid _ := G1.fown
              have hsv := G1.siz
              have LM : Hid (D + 1 ≤ maxLen) := by unfold Hid maxLen; omega
              have L8 : Hid ((D + 1) * 24 ≤ 140737488355328) := by unfold Hid; omega
              obtain ⟨LE, hLE⟩ : ∃ LE, N.ns * N.wn D = LE := ⟨_, rfl⟩
              have HLE : Hid _ := hLE
              rw [hLE] at hwp hpb
              rw [hLE]
              clear hF y1 y7 G1 hown hbv hLE
              go_wp2_with (at_builtin; refine wpList_append_lies _ rfl _ _ 53 rfl (w.heap.size + 2) 82 k0 _ 1 24 Tryz.underlying53 hk0 hu0 hu1 hu2 rfl (by decide) (.slice fa D fb) D ((List.range D).map fun j => .slice (F j) (N.ns * N.wn j) (Fc j)) rfl ?p1 ⟨v.heap.size, 0, none⟩ 1 1 [.slice la LE lc] ?p9 rfl ?p3 ?p4 (by omega) ?p5 ?p6 ?p7 _ rfl ?p8)
              case p1 => exact World.ownsRow.alloc HRJ.out _
              try case p3 => exact World.news_of_block (cs := #[.slice la LE lc]) (t := 82) (fr := (0, 0)) (heap_alloc_new v _)
              case p4 => simp [Value.oneCell']
              case p5 => exact LM.out
              case p6 => exact L8.out
              case p7 => simp; omega
              try case p9 => rfl
              case p8 =>
                intro gg cap2 w4 hown4 hgrow4 hat4 hlt4
                rw [← HLE.out] at hown4 hgrow4
                obtain ⟨R4, G4⟩ := HG1.out.far HOW.out hgrow4 hown4
                have c4 : w4.cell? ⟨w.heap.size + 1, 1, none⟩ = some (.slice fa D fb) := R4.cell 1
                have f4 := R4.frozen 1
                have HG4 : Hid _ := G4
                clear hown4 hgrow4 hat4 R4 G4 cb fbz lb
                go_wp2_with fail
                go_roundw
                case rel => first | exact ⟨D + 1, _, _, _, _, by omega, by go_num, HG4.out⟩ | ((repeat apply Exists.intro); exact ⟨⟨D + 1, _, _, _, _, by omega, by go_num, HG4.out⟩, rfl⟩)
                case measure => simp [intOf]; omega
        · have eD : D = N.nd := by omega
          subst eD
          clear G
          go_wp2
          go_ret2
          exact ⟨w.heap.size + 1, rfl, HGD.out.sight hc0 hd0, HGD.out.bel⟩
end Go.Proofs.YtcmcfafhllpojabGreat
