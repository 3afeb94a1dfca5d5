/-
  The walk of wallskeep's Spared where the list may be.
-/
import Derived.Test.YtcmcfafhllpojaaKeepS
namespace Go.Proofs.Ytcmcfafhllpojaa
open Go.RowKit

theorem Try.infoBool : (Try.prog.info? 4).map (fun i => (i.zero, i.size, i.bytes)) = some (some (.bool false), 1, 1) := by kernel_rfl

theorem keep_copy (sa : Option Addr) (len cap : Nat) (xs : List Int) (w : World) (h : Ints w sa len cap xs) :
    (Builtin.copy_ #[22, 22] 3 #[.slice (some ⟨w.heap.size, 0, none⟩) len len, .slice sa len cap]).run Try.prog (w.alloc (.cells (madeCells #[.int .i64 0] len) 3)) = .ok (.int .i64 len) (w.alloc (.cells (xs.map (Value.int .i64)).toArray 3)) := by
  have e : madeCells #[Value.int .i64 0] len = (List.replicate len (Value.int .i64 0)).toArray := made_int len
  have hl := h.hlen
  rw [e, run_copy_new (P := Try.prog) w 22 22 3 3 Try.underlying22 Try.infoInt1 sa len len len cap (List.replicate len (.int .i64 0)) 3 (xs.map (Value.int .i64)) (by simp; omega) ?_ (by simp; omega) (ints_oneCell _ _)]
  · simp [goInt, hl]
  · intro h0
    cases sa with
    | none =>
      have := h.hnil rfl
      have := h.hle
      simp at h0
      omega
    | some a => exact ⟨a, rfl, h.src _⟩

/-- The state of the walk: what l owns, which ways are gone. -/
structure SSt (w wr : World) (n : Nat) (xs : List Int) (len k gl cl gg : Nat) : Prop where
  below : Below w.heap.size w wr
  own : wr.ownsRow w.heap.size 3 1 (.slice (some ⟨gl, 0, none⟩) (len + k) cl) (len + k) ((after n xs k).map (Value.int .i64))
  gone : Row wr gg (goneL n xs k) 4
  hg : w.heap.size ≤ gg

theorem SSt.ints {w wr : World} {n : Nat} {xs : List Int} {len k gl cl gg : Nat} (h : SSt w wr n xs len k gl cl gg) (hl : xs.length = len) : Ints wr (some ⟨gl, 0, none⟩) (len + k) cl (after n xs k) := by
  refine owns_ints (base := w.heap.size) ?_
  rw [after_len, hl]
  exact h.own

theorem SSt.next {w wr wr' : World} {n : Nat} {xs : List Int} {len k gl cl gg : Nat} (h : SSt w wr n xs len k gl cl gg) (hb : Below wr.heap.size wr wr') : SSt w wr' n xs len k gl cl gg :=
  ⟨below_step h.below hb rfl, owns_same h.own fun g hg => hb.block g (owns_lt h.own g hg).1, h.gone.below hb h.gone.lt, h.hg⟩

theorem SSt.start {w w1 : World} {n : Nat} {xs : List Int} {len : Nat} (b1 : Below w.heap.size w w1) (hl : xs.length = len) (hm : len ≤ maxLen) :
    SSt w ((w1.alloc (.cells (xs.map (Value.int .i64)).toArray 3)).alloc (.cells (madeCells #[.bool false] n) 4)) n xs len 0 w1.heap.size len (w1.heap.size + 1) := by
  have hs := b1.size
  refine ⟨(b1.alloc (by omega) _).alloc (by simp; omega) _, ⟨by simp [hl, after], Or.inr ⟨w1.heap.size, len, (xs.map (Value.int .i64)).toArray, rfl, hs, ?_, by omega, hm, by simp [hl], by rw [show (xs.map (Value.int .i64)).toArray.toList = xs.map (Value.int .i64) from rfl, List.take_of_length_le (by simp [hl])]; rfl⟩⟩, ?_, by omega⟩
  · rw [Below.heap_alloc _ _ _ (by simp)]
    exact heap_alloc_new w1 _
  · have e : madeCells #[.bool false] n = (goneL n xs 0).toArray := made_bool n xs
    rw [e]
    have := heap_alloc_new (w1.alloc (.cells (xs.map (Value.int .i64)).toArray 3)) (.cells (goneL n xs 0).toArray 4)
    rw [World.size_alloc] at this
    exact this

theorem SSt.mark {w w2 : World} {n : Nat} {xs : List Int} {len q gl cl G : Nat} (h : SSt w w2 n xs len q gl cl G) (j : Nat) :
    (w2.setCell ⟨G, j, none⟩ (.bool true)).ownsRow w.heap.size 3 1 (.slice (some ⟨gl, 0, none⟩) (len + q) cl) (len + q) ((after n xs q).map (Value.int .i64)) := by
  refine owns_same h.own fun g hg => Below.heap_setCell _ _ _ _ ?_
  intro he
  subst he
  exact own_ne h.own h.gone (by decide) hg

theorem SSt.hit {w w2 w4 : World} {n : Nat} {xs : List Int} {len q gl cl gg cap G j : Nat} (h : SSt w w2 n xs len q gl cl G) (hj : vk n xs q = (j : Int))
    (hgrow : ((w2.setCell ⟨G, j, none⟩ (.bool true)).alloc (.cells #[.int .i64 j] 3)).grownBy w4 (some gl))
    (hown : w4.ownsRow w.heap.size 3 1 (.slice (some ⟨gg, 0, none⟩) (len + q + 1) cap) (len + q + 1) ((after n xs q).map (Value.int .i64) ++ [.int .i64 j])) :
    SSt w w4 n xs len (q + 1) gg cap G := by
  have hs := h.below.size
  have hgl := owns_lt h.own gl rfl
  have hne := own_ne h.own h.gone (by decide)
  have r1 : Row ((w2.setCell ⟨G, j, none⟩ (.bool true)).alloc (.cells #[.int .i64 j] 3)) G (goneL n xs (q + 1)) 4 := by
    have := (h.gone.setCell j (.bool true)).alloc (.cells #[.int .i64 j] 3)
    rwa [goneL_set hj] at this
  refine ⟨?_, ?_, ?_, h.hg⟩
  · have b := (h.below.setCell (p := ⟨G, j, none⟩) h.hg (.bool true)).alloc (by simp [World.setCell]; omega) (.cells #[.int .i64 j] 3)
    refine b.trans ⟨hgrow.os, hgrow.tape, hgrow.output, hgrow.size, fun k hk => hgrow.block k (by have := b.size; omega) ?_⟩
    intro he
    simp only [Option.some.injEq] at he
    omega
  · have e : (after n xs (q + 1)).map (Value.int .i64) = (after n xs q).map (Value.int .i64) ++ [.int .i64 j] := by
      have : victimZ n (after n xs q) = (j : Int) := hj
      simp only [after, List.map_append, List.map_cons, List.map_nil, this]
    rw [e]
    exact hown
  · unfold Row
    rw [hgrow.block G r1.lt (fun he => hne (by simpa [Value.ownBlock] using he.symm))]
    exact r1

set_option maxRecDepth 100000 in
set_option maxHeartbeats 3200000 in
theorem spared_ok (hV : VictimC) (n : Nat) (hn : n = 1 ∨ n = 2 ∨ n = 4) (m : Int) (HM : Hid (m = (n : Int))) (sa : Option Addr) (len cap : Nat) (xs : List Int) (w : World) (h : Ints w sa len cap xs) (hr : len * 8 ≤ 140737488351232) (hyes : victimOk m xs = true) :
    Calls Try.prog 4 #[.int .i64 m, .slice sa len cap] w fun e w' => e = .returned (.bool true) ∧ Below w.heap.size w w' := by
  have hle := h.hle
  have hm := h.hmax
  unfold maxLen at hm
  have HN := victim_yes hyes
  have hv := hV m sa len cap xs w h
  rw [HN.1, HN.2] at hv
  have HY : Hid _ := hyes
  have HL : Hid _ := h.hlen
  obtain ⟨i0, hi, hz0, hz1, hz2⟩ := info_parts Try.infoInt
  obtain ⟨j0, hj, hy0, hy1, hy2⟩ := info_parts Try.infoBool
  have hall : ∀ k, (smallB m && (xs.take k).all fun x => withinB x 0 (m - 1)) = true := fun k => by
    cases hb : (smallB m && (xs.take k).all fun x => withinB x 0 (m - 1)) with
    | true => rfl
    | false => have := ok_false hb; rw [HY.out] at this; cases this
  have hx : ∀ k, k < len → 0 ≤ xs.getD k 0 ∧ xs.getD k 0 < m := fun k hk => by
    have := hall (k + 1)
    rw [all_snoc (fun x => withinB x 0 (m - 1)) xs 0 k (by rw [HL.out]; exact hk), ← Bool.and_assoc, hall k, Bool.true_and] at this
    have := (within_iff _ _ _).1 this
    omega
  have bd1 : m ≤ 4 := by have := HM.out; omega
  have bd2 : 1 ≤ m := by have := HM.out; omega
  have f : ((m == 1) = true ∧ ¬ 1 < m) ∨ ((m == 1) = false ∧ (m == 2) = true ∧ 1 < m) ∨ ((m == 1) = false ∧ (m == 2) = false ∧ (m == 4) = true ∧ 1 < m) := by
    have := HM.out
    simp only [beq_iff_eq, beq_eq_false_iff_ne]
    omega
  have HNL : Hid (1 < m → 0 < len → (victimZ m xs == xs.getD (len - 1) 0) = false) := by
    intro h2 h3
    have h4 := not_last (n := n) (by have := HM.out; omega) xs (by rw [← HM.out]; exact HY.out) (by rw [HL.out]; exact h3)
    rwa [HL.out, ← HM.out] at h4
  have HN2 : Hid _ := hn
  clear HN hyes hall hn
  rcases f with ⟨f1, f2⟩ | ⟨f1, f2, f3⟩ | ⟨f1, f2, f3, f4⟩
  all_goals
    go_enter Try.func4, Try.ntmps4
    go_wp2_with fail
    refine hv.mono ?_
    rintro x w1 ⟨rfl, b1⟩
    have h1 := h.below b1 (Nat.le_refl _)
    have hcp := keep_copy sa len cap xs w1 h1
    clear hv
    go_wp2
    go_loop [7, 8] (fun m i => ∃ k : Nat, k ≤ len ∧ i = .int .i64 k ∧ m = .bool true) (fun _ i => len - (intOf i).toNat)
    case atStart => exact ⟨0, Nat.zero_le _, rfl, rfl⟩
    case round =>
      obtain ⟨k, hk, rfl, rfl⟩ := hrel
      by_cases hlt : k < len
      · obtain ⟨b, off, rfl, hc⟩ := h1.hat k hlt
        obtain ⟨x0, x1⟩ := hx k hlt
        generalize xs.getD k 0 = x at *
        go_wp2
        go_round
        case rel => exact ⟨k + 1, by omega, by go_num, by first | (simp; done) | (simp [x0]; done) | (simp [x1]; done)⟩
        case measure => simp [intOf]; omega
      · have hpre : len = 0 ∨ (0 < len ∧ (1 < m ∨ ¬ 1 < m)) := by omega
        have hst := SSt.start (n := n) b1 HL.out (by unfold maxLen; omega)
        have HST : Hid _ := hst
        clear hst
        rcases hpre with g2 | ⟨g2, g1 | g1⟩
        all_goals first | (exfalso; omega) | skip
        all_goals first
          | (have g3 : ¬ 0 < len := by omega
             have g4 : ¬ (0 : Int) < (len : Int) := by omega
             clear g2
             go_wp2_with (at_make; first | (refine wpList_make_exact _ rfl _ _ 22 rfl 3 i0 (.int .i64 0) Try.underlying22 hi hz0 .i64 .i64 _ _ len rfl rfl (by simp) (by simp) (by rw [hz2]; omega) (by unfold maxLen; omega) ?_; rw [hz1]) | (refine wpList_make_exact _ rfl _ _ 34 rfl 4 j0 (.bool false) Try.underlying34 hj hy0 .i64 .i64 _ _ n rfl rfl HM.out HM.out (by rw [hy2]; have := HM.out; omega) (by unfold maxLen; have := HM.out; omega) ?_; rw [hy1])))
          | (have g0 : 1 < m := by omega
             obtain ⟨b, off, rfl, hc⟩ := h1.hat (len - 1) (by omega)
             have hne := HNL.out g0 g2
             have g5 : (0 : Int) < (len : Int) := by omega
             generalize xs.getD (len - 1) 0 = x at *
             obtain ⟨p, hp⟩ : ∃ p : Nat, len - 1 = p := ⟨_, rfl⟩
             rw [hp] at hc
             have e1 : (len : Int) - 1 = (p : Int) := by omega
             have hpl : p < len := by omega
             clear hp
             go_wp2_with (at_make; first | (refine wpList_make_exact _ rfl _ _ 22 rfl 3 i0 (.int .i64 0) Try.underlying22 hi hz0 .i64 .i64 _ _ len rfl rfl (by simp) (by simp) (by rw [hz2]; omega) (by unfold maxLen; omega) ?_; rw [hz1]) | (refine wpList_make_exact _ rfl _ _ 34 rfl 4 j0 (.bool false) Try.underlying34 hj hy0 .i64 .i64 _ _ n rfl rfl HM.out HM.out (by rw [hy2]; have := HM.out; omega) (by unfold maxLen; have := HM.out; omega) ?_; rw [hy1])))
          | (have g5 : (0 : Int) < (len : Int) := by omega
             go_wp2_with (at_make; first | (refine wpList_make_exact _ rfl _ _ 22 rfl 3 i0 (.int .i64 0) Try.underlying22 hi hz0 .i64 .i64 _ _ len rfl rfl (by simp) (by simp) (by rw [hz2]; omega) (by unfold maxLen; omega) ?_; rw [hz1]) | (refine wpList_make_exact _ rfl _ _ 34 rfl 4 j0 (.bool false) Try.underlying34 hj hy0 .i64 .i64 _ _ n rfl rfl HM.out HM.out (by rw [hy2]; have := HM.out; omega) (by unfold maxLen; have := HM.out; omega) ?_; rw [hy1])))
        all_goals
          clear hcp
          generalize (w1.alloc (.cells (xs.map (Value.int .i64)).toArray 3)).alloc (.cells (madeCells #[.bool false] n) 4) = W2 at *
          generalize hG : w1.heap.size + 1 = G at *
          generalize w1.heap.size = gl0 at *
          clear hG
          go_loopw [5, 6, 9, 11] (fun v e l i wr => ∃ (k gl cl : Nat) (a b : Int), k ≤ n ∧ v = .int .i64 a ∧ e = .int .i64 b ∧ l = .slice (some ⟨gl, 0, none⟩) (len + k) cl ∧ i = .int .i64 k ∧ SSt w wr n xs len k gl cl G) (fun _ _ _ i _ => n - (intOf i).toNat)
          case atStart => exact ⟨0, _, _, _, _, Nat.zero_le _, rfl, rfl, rfl, rfl, HST.out⟩
          case round =>
            obtain ⟨q, gl, cl, a, b, hq, rfl, rfl, rfl, rfl, hst⟩ := hrel
            by_cases hqn : q < n
            · have hqm : (q : Int) < m := by have := HM.out; omega
              have vf := vk_fresh HN2.out xs hqn
              obtain ⟨j, hj⟩ := Int.eq_ofNat_of_zero_le vf.1
              have hjm : (j : Int) < m := by have := HM.out; omega
              have hjn : j < n := by omega
              have hcall := hV m (some ⟨gl, 0, none⟩) (len + q) cl (after n xs q) wr (hst.ints HL.out)
              have vy := victim_yes (n := m) (xs := after n xs q) (by rw [HM.out]; exact after_ok HN2.out xs (by rw [← HM.out]; exact HY.out) q (by omega))
              have vz : victimZ m (after n xs q) = (j : Int) := by rw [HM.out]; exact hj
              rw [vy.1, vy.2, vz] at hcall
              have c0 : (goneL n xs q)[j]? = some (.bool false) := by rw [goneL_at hjn, ← hj, vf.2.2]
              have HJ : Hid _ := hj
              have HST2 : Hid _ := hst
              have C0 : Hid _ := c0
              clear vy vz vf hj hst c0
              go_wp2_with fail
              refine hcall.mono ?_
              rintro x w2 ⟨rfl, b2⟩
              have h2 := HST2.out.next b2
              have c1 : w2.cell? ⟨G, j, none⟩ = some (.bool false) := by rw [h2.gone.cell]; exact C0.out
              have fz : w2.frozen? ⟨G, j, none⟩ = false := h2.gone.frozen j
              have OW : Hid _ := h2.mark j
              have H2 : Hid _ := h2
              have HS2 : Hid (w.heap.size ≤ w2.heap.size) := h2.below.size
              have HNW : Hid (((w2.setCell ⟨G, j, none⟩ (.bool true)).alloc (.cells #[.int .i64 j] 3)).heap[w2.heap.size]? = some (.cells #[.int .i64 j] 3 (0, 0))) := by
                have := heap_alloc_new (w2.setCell ⟨G, j, none⟩ (.bool true)) (.cells #[.int .i64 j] 3)
                simpa [Hid, World.setCell] using this
              have bq : q < 4 := by have := HM.out; omega
              clear hcall h2
              have LM : Hid (len + q + 1 ≤ maxLen) := by unfold Hid maxLen; omega
              have L8 : Hid ((len + q + 1) * 8 ≤ 140737488355328) := by unfold Hid; omega
              have LB : Hid (w.heap.size ≤ ((w2.setCell ⟨G, j, none⟩ (.bool true)).alloc (.cells #[.int .i64 j] 3)).heap.size) := by
                have := HS2.out
                unfold Hid
                simp [World.setCell]
                omega
              go_wp2_with (at_builtin; refine wpList_append_lies _ rfl _ _ 22 rfl w.heap.size 3 i0 (.int .i64 0) 1 8 Try.underlying22 hi hz0 hz1 hz2 rfl (by decide) (.slice (some ⟨gl, 0, none⟩) (len + q) cl) (len + q) ((after n xs q).map (Value.int .i64)) rfl ?o1 ⟨w2.heap.size, 0, none⟩ 1 1 [.int .i64 j] ?o9 rfl ?o3 ?o4 (by omega) ?o5 ?o6 ?o7 _ rfl ?o8)
              case o1 => exact World.ownsRow.alloc OW.out _
              case o3 => exact World.news_of_block (cs := #[.int .i64 j]) (t := 3) (fr := (0, 0)) HNW.out
              case o4 => simp [Value.oneCell']
              case o5 => exact LM.out
              case o6 => exact L8.out
              case o7 => exact LB.out
              case o9 => rfl
              case o8 =>
                intro gg cap2 w4 hown4 hgrow4 hat4 hlt4
                go_wp2
                go_roundw
                case rel => exact ⟨q + 1, gg, cap2, _, _, by omega, rfl, rfl, rfl, by go_num, H2.out.hit HJ.out hgrow4 hown4⟩
                case measure => simp [intOf]; omega
            · have hqm : ¬ (q : Int) < m := by have := HM.out; omega
              have HST2 : Hid _ := hst
              clear hst
              go_wp2
              go_ret
              exact ⟨rfl, HST2.out.below⟩

theorem spared_any (hV : VictimC) (n : Int) (sa : Option Addr) (len cap : Nat) (xs : List Int) (w : World) (h : Ints w sa len cap xs) (hr : len * 8 ≤ 140737488351232) :
    Calls Try.prog 4 #[.int .i64 n, .slice sa len cap] w fun e w' => e = .returned (.bool true) ∧ Below w.heap.size w w' := by
  cases hv : victimOk n xs with
  | false => exact spared_not hV n sa len cap xs w h hv
  | true =>
    have hs : n = 1 ∨ n = 2 ∨ n = 4 := by
      unfold victimOk smallB at hv
      simp only [Bool.and_eq_true, Bool.or_eq_true, beq_iff_eq] at hv
      omega
    obtain ⟨k, rfl⟩ := Int.eq_ofNat_of_zero_le (show 0 ≤ n by omega)
    exact spared_ok hV k (by omega) k rfl sa len cap xs w h hr hv
end Go.Proofs.Ytcmcfafhllpojaa
