/-
  KohB, KohC
-/
import Derived.Test.YtcmcfafhllpojabGreatClPackAQ
import Derived.Test.YtcmcfafhllpojabGreatClPackAG
namespace Go.Proofs.YtcmcfafhllpojabGreat
open Go.RowKit

/-- All that lies in the caches, as it was seen. -/
structure SightM (w : World) (gS nc nn nd : Nat) (nr : Nat → Nat → Cp) (len : Nat → Nat) (ln : Nat → Nat → Int) (mk : Nat → Nat → Bool) : Prop where
  box : ∃ gn ca gf cb, Row w gS [.slice (some ⟨gn, 0, none⟩) nc ca, .slice (some ⟨gf, 0, none⟩) nd cb] 122 ∧ (∀ k, k < nc → ∃ a, w.cell? ⟨gn, k, none⟩ = some (.slice (some ⟨a, 0, none⟩) nn nn) ∧ Row w a (cpsL (nr k) nn) 90) ∧
    (∀ d, d < nd → ∃ fa fc, w.cell? ⟨gf, d, none⟩ = some (.slice fa (len d) fc) ∧ BksAt w fa (len d) fc (ln d) (mk d)) ∧ nc ≤ ca ∧ ca ≤ maxLen ∧ nd ≤ cb ∧ cb ≤ maxLen
theorem SightM.below {w w' : World} {gS nc nn nd m : Nat} {nr : Nat → Nat → Cp} {len : Nat → Nat} {ln : Nat → Nat → Int} {mk : Nat → Nat → Bool} (h : SightM w gS nc nn nd nr len ln mk) (hb : Below m w w') (hm : w.heap.size ≤ m) : SightM w' gS nc nn nd nr len ln mk := by
  obtain ⟨gn, ca, gf, cb, h1, h2, h3, h4⟩ := h.box
  refine ⟨gn, ca, gf, cb, h1.below hb (Nat.lt_of_lt_of_le h1.lt hm), fun k hk => ?_, fun d hd => ?_, h4⟩
  · obtain ⟨a, e1, e2⟩ := h2 k hk
    exact ⟨a, (hb.cell (p := ⟨gn, k, none⟩) (Nat.lt_of_lt_of_le (cell_lt e1) hm)).trans e1, e2.below hb (Nat.lt_of_lt_of_le e2.lt hm)⟩
  · obtain ⟨fa, fc, e1, e2⟩ := h3 d hd
    exact ⟨fa, fc, (hb.cell (p := ⟨gf, d, none⟩) (Nat.lt_of_lt_of_le (cell_lt e1) hm)).trans e1, e2.below hb hm⟩

set_option maxRecDepth 100000 in
set_option maxHeartbeats 1600000 in
theorem kblock_any (gS nc nn nd : Nat) (nr : Nat → Nat → Cp) (len : Nat → Nat) (ln : Nat → Nat → Int) (mk : Nat → Nat → Bool) (d y : Nat) (w : World) (h : SightM w gS nc nn nd nr len ln mk) (hd : d < nd) (hl : len d ≤ 192) :
    Calls Tryz.prog 63 #[.pointer (some ⟨gS, 0, none⟩), .int .i64 d, .int .i64 y] w fun e w' => ∃ b1 b2, e = .returned (.tuple #[.bool b1, .bool b2]) ∧ ((b1 = true ∧ ∃ i, i < len d ∧ ln d i = y ∧ mk d i = b2) ∨ (b1 = false ∧ b2 = false ∧ ∀ i, i < len d → ln d i ≠ y)) ∧ Below w.heap.size w w' := by
  obtain ⟨gn, ca, gf, cb, h1, _, h3, _, _, n3, n4⟩ := h.box
  obtain ⟨fa, fc, e1, e2⟩ := h3 d hd
  have c1 : w.cell? ⟨gS, 1, none⟩ = some (.slice (some ⟨gf, 0, none⟩) nd cb) := h1.cell 1
  have hle := e2.hle
  have hmx := e2.hmax
  unfold maxLen at hmx n4
  have l1 := h1.lt
  have l2 := cell_lt e1
  obtain ⟨n, hn⟩ : ∃ n, len d = n := ⟨_, rfl⟩
  rw [hn] at e1 e2 hle hl ⊢
  have HB : Hid _ := e2
  clear h h1 h3 e2 hn
  go_enter Tryz.func63, Tryz.ntmps63
  go_wp2_with fail
  go_loopw [9] (fun u wr => ∃ (i : Nat), i ≤ n ∧ u = .int .i64 i ∧ (∀ j, j < i → ln d j ≠ y) ∧ Below w.heap.size w wr) (fun u _ => n - (intOf u).toNat)
  case atStart => exact ⟨0, by omega, rfl, fun j hj => by omega, Below.refl _ _⟩
  case round =>
    obtain ⟨i, hi, rfl, hall, hb⟩ := hrel
    have HALL : Hid _ := hall
    have HBB : Hid _ := hb
    by_cases hlt : i < n
    · obtain ⟨b, off, rfl, a1, a2⟩ := (HB.out.below hb (Nat.le_refl _)).hat i hlt
      have lb := cell_lt a1
      clear hall hb
      by_cases hy : ln d i = (y : Int)
      · have HY : Hid _ := hy
        have hy1 : (ln d i == (y : Int)) = true := by simp [hy]
        rw [hy] at a1
        clear hy hy1
        go_wp2_with fail
        try go_quiet (fail)
        try go_wp2
        go_ret2
        exact ⟨true, mk d i, rfl, Or.inl ⟨rfl, i, hlt, HY.out, rfl⟩, by first | exact HBB.out | exact HBB.out.trans ⟨rfl, rfl, rfl, Nat.le_refl _, fun _ _ => rfl⟩⟩
      · have hy1 : (ln d i == (y : Int)) = false := by simp [hy]
        have HN : Hid _ := hy
        go_wp2_with fail
        try go_quiet (fail)
        try go_wp2_with fail
        go_roundw
        case rel => exact ⟨i + 1, by omega, by go_num, fun j hj => by
          by_cases q : j = i
          · rw [q]; exact HN.out
          · exact HALL.out j (by omega), by first | exact HBB.out | exact HBB.out.trans ⟨rfl, rfl, rfl, Nat.le_refl _, fun _ _ => rfl⟩⟩
        case measure => simp [intOf]; omega
    · clear hall hb
      go_wp2
      go_ret2
      exact ⟨false, false, rfl, Or.inr ⟨rfl, rfl, fun j hj => HALL.out j (by omega)⟩, HBB.out⟩
end Go.Proofs.YtcmcfafhllpojabGreat

namespace Go.Proofs.YtcmcfafhllpojabGreat
open Go.RowKit

set_option maxRecDepth 100000 in
set_option maxHeartbeats 1600000 in
theorem krests_any (c1 c2 c3 : Int) (w : World) :
    Calls Tryz.prog 114 #[.agg #[.int .i64 c1, .int .i64 c2, .int .i64 c3]] w fun e w' => e = .returned (.bool (decide (c1 = -1) && decide (c2 = -1) && decide (c3 = 0))) ∧ Below w.heap.size w w' := by
  have hb0 : Below w.heap.size w (w.alloc (.cells #[.int .i64 c1, .int .i64 c2, .int .i64 c3] 90)) := (Below.refl _ _).alloc (Nat.le_refl _) _
  have hR0 : Row (w.alloc (.cells #[.int .i64 c1, .int .i64 c2, .int .i64 c3] 90)) w.heap.size [.int .i64 c1, .int .i64 c2, .int .i64 c3] 90 := heap_alloc_new w _
  have x0 : (w.alloc (.cells #[.int .i64 c1, .int .i64 c2, .int .i64 c3] 90)).cell? ⟨w.heap.size, 0, none⟩ = some (.int .i64 c1) := hR0.cell 0
  have x1 : (w.alloc (.cells #[.int .i64 c1, .int .i64 c2, .int .i64 c3] 90)).cell? ⟨w.heap.size, 1, none⟩ = some (.int .i64 c2) := hR0.cell 1
  have x2 : (w.alloc (.cells #[.int .i64 c1, .int .i64 c2, .int .i64 c3] 90)).cell? ⟨w.heap.size, 2, none⟩ = some (.int .i64 c3) := hR0.cell 2
  have HB : Hid _ := hb0
  clear hb0 hR0
  have cs : (c1 = -1 ∧ c2 = -1 ∧ c3 = 0) ∨ (c1 = -1 ∧ c2 = -1 ∧ c3 ≠ 0) ∨ (c1 = -1 ∧ c2 ≠ -1) ∨ c1 ≠ -1 := by omega
  rcases cs with ⟨rfl, rfl, rfl⟩ | ⟨rfl, rfl, h3⟩ | ⟨rfl, h2⟩ | h1
  · go_enter Tryz.func114, Tryz.ntmps114
    go_wp2_with fail
    try go_quiet (fail)
    try go_wp2
    go_ret
    exact ⟨rfl, by first | exact HB.out | exact HB.out.trans ⟨rfl, rfl, rfl, Nat.le_refl _, fun _ _ => rfl⟩⟩
  · have q3 : (c3 == 0) = false := by simp [h3]
    go_enter Tryz.func114, Tryz.ntmps114
    go_wp2_with fail
    try go_quiet (fail)
    try go_wp2
    go_ret
    exact ⟨ret_bool (by first | rfl | simp [h3]), by first | exact HB.out | exact HB.out.trans ⟨rfl, rfl, rfl, Nat.le_refl _, fun _ _ => rfl⟩⟩
  · have q2 : (c2 == -1) = false := by simp [h2]
    go_enter Tryz.func114, Tryz.ntmps114
    go_wp2_with fail
    try go_quiet (fail)
    try go_wp2
    go_ret
    exact ⟨ret_bool (by first | rfl | simp [h2]), by first | exact HB.out | exact HB.out.trans ⟨rfl, rfl, rfl, Nat.le_refl _, fun _ _ => rfl⟩⟩
  · have q1 : (c1 == -1) = false := by simp [h1]
    have HV : Hid ((decide (c1 = -1) && decide (c2 = -1) && decide (c3 = 0)) = false) := by unfold Hid; simp [h1]
    go_enter Tryz.func114, Tryz.ntmps114
    go_wp2_with fail
    try go_quiet (fail)
    try go_wp2
    go_ret
    exact ⟨ret_bool HV.out.symm, by first | exact HB.out | exact HB.out.trans ⟨rfl, rfl, rfl, Nat.le_refl _, fun _ _ => rfl⟩⟩

set_option maxRecDepth 100000 in
set_option maxHeartbeats 1600000 in
theorem ksingle_any (gS nc nn nd : Nat) (nr : Nat → Nat → Cp) (len : Nat → Nat) (ln : Nat → Nat → Int) (mk : Nat → Nat → Bool) (a b p : Nat) (w : World) (h : SightM w gS nc nn nd nr len ln mk) (ha : a < nc) (hb : b < nc) (hp : p < nn)
    (hs : (nr a p).st = 0 ∨ ((nr a p).st ≠ 0 ∧ (nr b p).st = 0) ∨ ((nr a p).st ≠ 0 ∧ (nr b p).st ≠ 0 ∧ (nr a p).dom ≠ (nr b p).dom) ∨ ((nr a p).st ≠ 0 ∧ (nr b p).st ≠ 0 ∧ (nr a p).dom = (nr b p).dom ∧ (nr a p).line ≠ (nr b p).line) ∨ ((nr a p).st = 1 ∧ (nr b p).st = 1 ∧ (nr a p).dom = (nr b p).dom ∧ (nr a p).line = (nr b p).line)) :
    Calls Tryz.prog 59 #[.pointer (some ⟨gS, 0, none⟩), .int .i64 a, .int .i64 b, .int .i64 p] w fun e w' => e = .returned (.bool true) ∧ Below w.heap.size w w' := by
  obtain ⟨gn, ca, gf, cb, h1, h2, _, n1, n2, _, _⟩ := h.box
  obtain ⟨ga, e1, e2⟩ := h2 a ha
  obtain ⟨gb, e3, e4⟩ := h2 b hb
  have c0 : w.cell? ⟨gS, 0, none⟩ = some (.slice (some ⟨gn, 0, none⟩) nc ca) := h1.cell 0
  obtain ⟨a0, a1, a2⟩ := cps_row e2 hp
  obtain ⟨b0, b1, b2⟩ := cps_row e4 hp
  have l1 := h1.lt
  have l2 := cell_lt e1
  have l3 := e2.lt
  have l4 := e4.lt
  unfold maxLen at n2
  generalize nr a p = P at *
  generalize nr b p = Q at *
  obtain ⟨p0, p1, p2⟩ := P
  obtain ⟨q0, q1, q2⟩ := Q
  simp only at a0 a1 a2 b0 b1 b2 hs
  have HB : Hid (Below w.heap.size w ((w.alloc (.cells #[.int .i64 p0, .int .i64 p1, .int .i64 p2] 90)).alloc (.cells #[.int .i64 q0, .int .i64 q1, .int .i64 q2] 90))) := ((Below.refl _ _).alloc (Nat.le_refl _) _).alloc (by simp) _
  clear h h1 h2 e2 e4
  rcases hs with hs | ⟨hs, ht⟩ | ⟨hs, ht, hu⟩ | ⟨hs, ht, hu, hv⟩ | ⟨hs, ht, hu, hv⟩
  · subst hs
    go_enter Tryz.func59, Tryz.ntmps59
    go_wp2_with fail
    try go_quiet (fail)
    try go_wp2
    go_ret
    exact ⟨rfl, by first | exact HB.out | exact HB.out.trans ⟨rfl, rfl, rfl, Nat.le_refl _, fun _ _ => rfl⟩⟩
  · subst ht
    have r1 : (p2 == 0) = false := by simp [hs]
    go_enter Tryz.func59, Tryz.ntmps59
    go_wp2_with fail
    try go_quiet (fail)
    try go_wp2
    go_ret
    exact ⟨rfl, by first | exact HB.out | exact HB.out.trans ⟨rfl, rfl, rfl, Nat.le_refl _, fun _ _ => rfl⟩⟩
  · have r1 : (p2 == 0) = false := by simp [hs]
    have r2 : (q2 == 0) = false := by simp [ht]
    have r3 : (p0 != q0) = true := by simp [hu]
    go_enter Tryz.func59, Tryz.ntmps59
    go_wp2_with fail
    try go_quiet (fail)
    try go_wp2
    go_ret
    exact ⟨rfl, by first | exact HB.out | exact HB.out.trans ⟨rfl, rfl, rfl, Nat.le_refl _, fun _ _ => rfl⟩⟩
  · have r1 : (p2 == 0) = false := by simp [hs]
    have r2 : (q2 == 0) = false := by simp [ht]
    have r4 : (p1 != q1) = true := by simp [hv]
    subst hu
    go_enter Tryz.func59, Tryz.ntmps59
    go_wp2_with fail
    try go_quiet (fail)
    try go_wp2
    go_ret
    exact ⟨rfl, by first | exact HB.out | exact HB.out.trans ⟨rfl, rfl, rfl, Nat.le_refl _, fun _ _ => rfl⟩⟩
  · subst hs
    subst ht
    subst hu
    subst hv
    go_enter Tryz.func59, Tryz.ntmps59
    go_wp2_with fail
    try go_quiet (fail)
    try go_wp2
    try go_quiet (fail)
    try go_wp2
    go_ret
    exact ⟨rfl, by first | exact HB.out | exact HB.out.trans ⟨rfl, rfl, rfl, Nat.le_refl _, fun _ _ => rfl⟩⟩
end Go.Proofs.YtcmcfafhllpojabGreat
