/-
  Seen, SeenM, SeenW
-/
import Derived.Test.YtcmcfafhllpojabGreatClPackR
import Derived.Test.YtcmcfafhllpojabGreatClPackAY
import Derived.Test.YtcmcfafhllpojabGreatClCopy
import Derived.Test.YtcmcfafhllpojabGreatClPackO
namespace Go.Proofs.YtcmcfafhllpojabGreat
open Go.RowKit

theorem flatR (f : Nat → List Value) (z : Nat) (hf : ∀ i, (f i).length = z) : ∀ n : Nat, ((List.range n).flatMap f).length = n * z ∧ ∀ i j, i < n → j < z → ((List.range n).flatMap f)[i * z + j]? = (f i)[j]?
  | 0 => ⟨by simp, fun i j hi => by omega⟩
  | n + 1 => by
    obtain ⟨h1, h2⟩ := flatR f z hf n
    rw [List.range_succ, List.flatMap_append]
    have e : [n].flatMap f = f n := by simp
    rw [e]
    refine ⟨by rw [List.length_append, h1, hf, Nat.succ_mul], fun i j hi hj => ?_⟩
    by_cases c : i < n
    · have hlt : i * z + j < n * z := by
        have : (i + 1) * z ≤ n * z := Nat.mul_le_mul_right _ c
        rw [Nat.succ_mul] at this
        omega
      rw [List.getElem?_append_left (by rw [h1]; exact hlt), h2 i j c hj]
    · have ei : i = n := by omega
      subst ei
      rw [List.getElem?_append_right (by rw [h1]; omega), h1, show i * z + j - i * z = j by omega]

/-- The places of a near cache as a row. -/
def cpsL (f : Nat → Cp) (n : Nat) : List Value := (List.range n).flatMap fun p => cpL (f p)
theorem cps_len (f : Nat → Cp) (n : Nat) : (cpsL f n).length = n * 3 := (flatR (fun p => cpL (f p)) 3 (fun _ => rfl) n).1
theorem cps_at (f : Nat → Cp) {n p j : Nat} (hp : p < n) (hj : j < 3) : (cpsL f n)[p * 3 + j]? = (cpL (f p))[j]? := (flatR (fun p => cpL (f p)) 3 (fun _ => rfl) n).2 p j hp hj
theorem cps_cell (f : Nat → Cp) {n i : Nat} {v : Value} (h : (cpsL f n)[i]? = some v) : i < n * 3 ∧ cpV (f (i / 3)) (i % 3) = v := by
  have hlt : i < n * 3 := by rw [← cps_len f n]; exact (List.getElem?_eq_some_iff.1 h).1
  refine ⟨hlt, ?_⟩
  have e : i = i / 3 * 3 + i % 3 := by omega
  have hm : i % 3 < 3 := by omega
  rw [e, cps_at f (by omega) hm] at h
  have : i % 3 = 0 ∨ i % 3 = 1 ∨ i % 3 = 2 := by omega
  rcases this with q | q | q <;> rw [q] at h ⊢ <;> simpa [cpL, cpV] using h
theorem cps_one (f : Nat → Cp) (n : Nat) : ∀ v ∈ cpsL f n, v.oneCell' = true := fun v hv => by
  unfold cpsL at hv
  rw [List.mem_flatMap] at hv
  obtain ⟨a, _, h2⟩ := hv
  simp [cpL] at h2
  rcases h2 with e | e | e <;> subst e <;> rfl

set_option maxRecDepth 100000 in
set_option maxHeartbeats 1600000 in
theorem ncopies_any (nc nn : Nat) (X : NLoc) (nr : Nat → Nat → Cp) (g o k : Nat) (w : World) (h : NearM w nc nn X nr) (hp : w.cell? ⟨g, o, none⟩ = some (.slice (some ⟨X.r, 0, none⟩) nc X.rc)) (hk : k < nc) :
    Calls Tryz.prog 119 #[.pointer (some ⟨g, o, none⟩), .int .i64 k] w fun e w' => e = .returned (.slice (some ⟨w.heap.size, 0, none⟩) nn nn) ∧ w' = w.alloc (.cells (cpsL (nr k) nn).toArray 90) := by
  obtain ⟨i0, hi0, hz0, hz1, hz2⟩ := info_parts Tryz.infoCopy
  have c1 := h.row.cell hk
  have n0 := h.n0
  have n1 := h.n1
  have c3 := h.c1
  have rc1 := h.rcap.1
  have rc2 := h.rcap.2
  have bc1 := (h.bcap k hk).1
  have bc2 := (h.bcap k hk).2
  have lr := h.row.lt
  have lg := cell_lt hp
  have hcp := run_copy_made (P := Tryz.prog) w 79 79 3 90 3 Tryz.underlying79 (by rw [hi0]; simp [hz1]) (some ⟨X.b k, 0, none⟩) nn nn (X.bc k) (#[.int .i64 0, .int .i64 0, .int .i64 0]) 90 (cpsL (nr k) nn) (cps_len _ _) (fun h0 => ⟨⟨X.b k, 0, none⟩, rfl, fun j v hj => by
    obtain ⟨q1, q2⟩ := cps_cell (nr k) hj
    rw [add_plain', Nat.zero_add, (h.cel k hk).cell q1, q2]⟩) (cps_one _ _)
  unfold maxLen at rc2 bc2
  clear h
  go_enter Tryz.func119, Tryz.ntmps119
  go_wp2_with (at_make; refine wpList_make_exact _ rfl _ _ 79 rfl 90 i0 _ Tryz.underlying79 hi0 hz0 .i64 .i64 _ _ nn rfl rfl (by simp) (by simp) (by rw [hz2]; omega) (by unfold maxLen; omega) ?_; rw [hz1])
  go_ret
  exact ⟨rfl, rfl⟩

/-- The blocks of a far cache as a row. -/
def bksL (f : Nat → Nat → Bk) (wn : Nat) (n : Nat) : List Value := (List.range n).flatMap fun i => [.int .i64 (f (i / wn) (i % wn)).line, .bool (f (i / wn) (i % wn)).mkd]
theorem bks_succ (f : Nat → Nat → Bk) (wn n : Nat) : bksL f wn (n + 1) = bksL f wn n ++ [.int .i64 (f (n / wn) (n % wn)).line, .bool (f (n / wn) (n % wn)).mkd] := by
  unfold bksL
  rw [List.range_succ, List.flatMap_append]
  simp
theorem bks_at (f : Nat → Nat → Bk) (wn : Nat) {n i : Nat} (hi : i < n) : (bksL f wn n)[i * 2]? = some (.int .i64 (f (i / wn) (i % wn)).line) ∧ (bksL f wn n)[i * 2 + 1]? = some (.bool (f (i / wn) (i % wn)).mkd) := by
  have := (flatR (fun i => [.int .i64 (f (i / wn) (i % wn)).line, .bool (f (i / wn) (i % wn)).mkd]) 2 (fun _ => rfl) n).2 i
  exact ⟨this 0 hi (by omega), this 1 hi (by omega)⟩

theorem Tryz.infoBlkA : (Tryz.prog.info? 116).map (fun i => (i.zero, i.size, i.bytes)) = some (some (.agg #[.int .i64 0, .bool false]), 2, 16) := by kernel_rfl

set_option maxRecDepth 100000 in
set_option maxHeartbeats 3200000 in
theorem fblocks_any (ns wn : Nat) (X : FLoc) (blk : Nat → Nat → Bk) (tch : Nat → List Int) (g o : Nat) (w : World) (h : FarM w ns wn X blk tch) (hp : w.cell? ⟨g, o, none⟩ = some (.slice (some ⟨X.r, 0, none⟩) ns X.rc)) :
    Calls Tryz.prog 120 #[.pointer (some ⟨g, o, none⟩)] w fun e w' => ∃ la lc, e = .returned (.slice la (ns * wn) lc) ∧ w'.ownsRow w.heap.size 116 2 (.slice la (ns * wn) lc) (ns * wn) (bksL blk wn (ns * wn)) ∧ Below w.heap.size w w' := by
  obtain ⟨i0, hi0, hz0, hz1, hz2⟩ := info_parts Tryz.infoBlkA
  have n1 := h.n1
  have w1 := h.w1
  have w0 := h.w0
  have rc1 := h.rcap.1
  have rc2 := h.rcap.2
  unfold maxLen at rc2
  have lr := h.row.lt
  have lg := cell_lt hp
  have HF : Hid _ := h
  have hnw : ns * wn ≤ 16 := by have := Nat.mul_le_mul n1 w1; omega
  clear h
  go_enter Tryz.func120, Tryz.ntmps120
  go_wp2_with fail
  go_loopw [3, 4] (fun l u wr => ∃ (s : Nat) (la : Option Addr) (lc : Nat), s ≤ ns ∧ u = .int .i64 s ∧ l = .slice la (s * wn) lc ∧ wr.ownsRow w.heap.size 116 2 (.slice la (s * wn) lc) (s * wn) (bksL blk wn (s * wn)) ∧ Below w.heap.size w wr) (fun _ u _ => ns - (intOf u).toNat)
  case atStart => exact ⟨0, none, 0, by omega, rfl, by rw [Nat.zero_mul], by rw [Nat.zero_mul]; simp [World.ownsRow, bksL], Below.refl _ _⟩
  case round =>
    obtain ⟨s, la, lc, hs, rfl, rfl, hown, hb⟩ := hrel
    have cr : wr.cell? ⟨g, o, none⟩ = some (.slice (some ⟨X.r, 0, none⟩) ns X.rc) := (hb.cell (p := ⟨g, o, none⟩) lg).trans hp
    have HO : Hid _ := hown
    have HB : Hid _ := hb
    by_cases hlt : s < ns
    · clear hown hb
      go_wp2_with fail
      go_loopw [3, 5] (fun l u wx => ∃ (i : Nat) (la : Option Addr) (lc : Nat), i ≤ wn ∧ u = .int .i64 i ∧ l = .slice la (s * wn + i) lc ∧ wx.ownsRow w.heap.size 116 2 (.slice la (s * wn + i) lc) (s * wn + i) (bksL blk wn (s * wn + i)) ∧ Below w.heap.size w wx) (fun _ u _ => wn - (intOf u).toNat)
      case atStart => exact ⟨0, la, lc, by omega, rfl, rfl, HO.out, HB.out⟩
      case round =>
        obtain ⟨i, ka, kc, hi, rfl, rfl, hown, hb⟩ := hrel
        have cs0 : wr.cell? ⟨X.r, s * 2, none⟩ = some (.slice (some ⟨X.b s, 0, none⟩) wn (X.bc s)) := (hb.cell (p := ⟨X.r, s * 2, none⟩) lr).trans (HF.out.setAt hlt).1
        have cr : wr.cell? ⟨g, o, none⟩ = some (.slice (some ⟨X.r, 0, none⟩) ns X.rc) := (hb.cell (p := ⟨g, o, none⟩) lg).trans hp
        have HO2 : Hid _ := hown
        have HB2 : Hid _ := hb
        have hbs := hb.size
        have lr2 : X.r < wr.heap.size := Nat.lt_of_lt_of_le lr hbs
        have lg2 : g < wr.heap.size := Nat.lt_of_lt_of_le lg hbs
        have HRW : Hid (∀ k, (Value.slice ka (s * wn + i) kc).ownBlock = some k → w.heap.size ≤ k) := fun k hk => (owns_lt hown k hk).2
        have bc1 := (HF.out.bcap s hlt).1
        have bc2 := (HF.out.bcap s hlt).2
        unfold maxLen at bc2
        by_cases hli : i < wn
        · have hcel := (HF.out.cel s hlt).below hb (Nat.le_refl _)
          obtain ⟨e0, e1, e2, e3, e4, e5⟩ := blk_at hcel hli
          have lB := hcel.lt
          have hsn : s * wn + i < ns * wn := by
            have : (s + 1) * wn ≤ ns * wn := Nat.mul_le_mul_right _ hlt
            rw [Nat.succ_mul] at this
            omega
          have LM : Hid (s * wn + i + 1 ≤ maxLen) := by unfold Hid maxLen; omega
          have L8 : Hid ((s * wn + i + 1) * 16 ≤ 140737488355328) := by unfold Hid; omega
          clear hown hb hcel
          have hmod : (s * wn + i) / wn = s ∧ (s * wn + i) % wn = i := by
            rw [Nat.mul_comm, Nat.mul_add_div (by omega), Nat.div_eq_of_lt hli, Nat.mul_add_mod, Nat.mod_eq_of_lt hli]
            omega
          have HBS : Hid (bksL blk wn (s * wn + i + 1) = bksL blk wn (s * wn + i) ++ [.int .i64 (blk s i).line, .bool (blk s i).mkd]) := by
            unfold Hid; rw [bks_succ, hmod.1, hmod.2]
          generalize (blk s i).line = bl at *
          generalize (blk s i).mkd = bm at *
          generalize (blk s i).wd 0 = b0 at *
          generalize (blk s i).wd 1 = b1 at *
          generalize (blk s i).wd 2 = b2 at *
          generalize (blk s i).wd 3 = b3 at *
          go_wp2_with (at_builtin; refine wpList_append_lies _ rfl _ _ 82 rfl w.heap.size 116 i0 _ 2 16 Tryz.underlying82 hi0 hz0 hz1 hz2 rfl (by decide) (.slice ka (s * wn + i) kc) (s * wn + i) (bksL blk wn (s * wn + i)) rfl ?o1 ⟨wr.heap.size + 1, 0, none⟩ 1 1 [.int .i64 bl, .bool bm] ?o9 rfl ?o3 ?o4 (by omega) ?o5 ?o6 ?o7 _ rfl ?o8)
          case o1 => exact World.ownsRow.alloc (World.ownsRow.alloc HO2.out _) _
          case o3 =>
            have hnb := heap_alloc_new (wr.alloc (.cells #[.int .i64 bl, .bool bm, .int .i64 b0, .int .i64 b1, .int .i64 b2, .int .i64 b3] 195)) (.cells #[.int .i64 bl, .bool bm] 116)
            rw [World.size_alloc] at hnb
            exact World.news_of_block (cs := #[.int .i64 bl, .bool bm]) (t := 116) (fr := (0, 0)) hnb
          case o4 => simp [Value.oneCell']
          case o5 => exact LM.out
          case o6 => exact L8.out
          case o7 => simp; omega
          case o9 => rfl
          case o8 =>
            intro gg cap2 w4 hown4 hgrow4 hat4 hlt4
            have hb4 : Below w.heap.size w w4 := below_grown ((HB2.out.alloc hbs _).alloc (by simp; omega) _) (by simp; omega) hgrow4 HRW.out
            have HB4 : Hid _ := hb4
            have HO4 : Hid (w4.ownsRow w.heap.size 116 2 (.slice (some ⟨gg, 0, none⟩) (s * wn + (i + 1)) cap2) (s * wn + (i + 1)) (bksL blk wn (s * wn + (i + 1)))) := by
              unfold Hid
              rw [show s * wn + (i + 1) = s * wn + i + 1 by omega, HBS.out]
              exact hown4
            clear hown4 hgrow4 hat4 hb4 hmod
            go_wp2_with fail
            go_roundw
            case rel => first | exact ⟨i + 1, _, cap2, by omega, by go_num, rfl, HO4.out, HB4.out⟩ | ((repeat apply Exists.intro); exact ⟨⟨i + 1, _, cap2, by omega, by go_num, rfl, HO4.out, HB4.out⟩, rfl⟩)
            case measure => simp [intOf]; omega
        · have ei : i = wn := by omega
          subst ei
          have e1 : s * i + i = (s + 1) * i := by rw [Nat.succ_mul]
          have HO3 : Hid (wr.ownsRow w.heap.size 116 2 (.slice ka ((s + 1) * i) kc) ((s + 1) * i) (bksL blk i ((s + 1) * i))) := by unfold Hid; rw [← e1]; exact HO2.out
          clear hown hb
          go_wp2_with fail
          go_roundw
          case rel => exact ⟨s + 1, ka, kc, by omega, by go_num, by rw [e1], HO3.out, HB2.out⟩
          case measure => simp [intOf]; omega
    · have es : s = ns := by omega
      subst es
      clear hown hb
      go_wp2
      go_ret
      exact ⟨la, lc, rfl, HO.out, HB.out⟩
end Go.Proofs.YtcmcfafhllpojabGreat

namespace Go.Proofs.YtcmcfafhllpojabGreat
open Go.RowKit

set_option maxRecDepth 100000 in
set_option maxHeartbeats 1600000 in
theorem knear_good (N : Cn) (X : XLoc) (m : Mh) (k : Nat) (w : World) (h : MachM w N X m) (hk : k < N.nc) :
    Calls Tryz.prog 66 #[.pointer (some ⟨X.g, 0, none⟩), .int .i64 k] w fun e w' => e = .returned (.tuple #[.slice (some ⟨w.heap.size, 0, none⟩) N.nn N.nn, .int .i64 0]) ∧ w' = w.alloc (.cells (cpsL (m.nr k) N.nn).toArray 90) := by
  obtain ⟨n1, n2, n3, n4, n5, n6, n7, n8, n9, n10, n11, n12, n13, n14, n15⟩ := h.nums
  have c0 : w.cell? ⟨X.g, 0, none⟩ = some (.int .i64 N.nc) := by rw [n1, h.row.cell]; rfl
  have c17 : w.cell? ⟨X.g, 17, none⟩ = some (.slice (some ⟨X.n.r, 0, none⟩) N.nc X.n.rc) := by rw [h.row.cell]; rfl
  have hC := ncopies_any N.nc N.nn X.n m.nr X.g 17 k w h.near c17 hk
  clear n1 n2 n3 n4 n5 n6 n7 h
  go_enter Tryz.func66, Tryz.ntmps66
  go_wp2_with fail
  refine hC.mono ?_; rintro e w1 ⟨rfl, rfl⟩
  clear hC
  go_wp2
  go_ret2
  exact ⟨rfl, rfl⟩
set_option maxRecDepth 100000 in
set_option maxHeartbeats 1600000 in
theorem knear_bad (N : Cn) (X : XLoc) (m : Mh) (k : Int) (w : World) (h : MachM w N X m) (hk : k < 0 ∨ N.c.cores ≤ k) :
    Calls Tryz.prog 66 #[.pointer (some ⟨X.g, 0, none⟩), .int .i64 k] w fun e w' => e = .returned (.tuple #[.slice none 0 0, .int .i64 6]) ∧ w' = w := by
  have c0 : w.cell? ⟨X.g, 0, none⟩ = some (.int .i64 N.c.cores) := by rw [h.row.cell]; rfl
  have cases : k < 0 ∨ (0 ≤ k ∧ N.c.cores ≤ k) := by omega
  clear h hk
  rcases cases with b1 | ⟨b1, b2⟩
  all_goals
    go_enter Tryz.func66, Tryz.ntmps66
    go_wp2
    go_ret2
    exact ⟨rfl, rfl⟩

set_option maxRecDepth 100000 in
set_option maxHeartbeats 1600000 in
theorem kfar_good (N : Cn) (X : XLoc) (m : Mh) (d : Nat) (w : World) (h : MachM w N X m) (hd : d < N.nd) :
    Calls Tryz.prog 67 #[.pointer (some ⟨X.g, 0, none⟩), .int .i64 d] w fun e w' => ∃ la lc, e = .returned (.tuple #[.slice la (N.ns * N.wn d) lc, .int .i64 0]) ∧ w'.ownsRow w.heap.size 116 2 (.slice la (N.ns * N.wn d) lc) (N.ns * N.wn d) (bksL (m.blk d) (N.wn d) (N.ns * N.wn d)) ∧ Below w.heap.size w w' := by
  obtain ⟨n1, n2, n3, n4, n5, n6, n7, n8, n9, n10, n11, n12, n13, n14, n15⟩ := h.nums
  have c18 : w.cell? ⟨X.g, 18, none⟩ = some (.slice (some ⟨X.dm, 0, none⟩) N.nd X.dc) := by rw [h.row.cell]; rfl
  obtain ⟨_, d1, _, _⟩ := dom_at h hd
  have hC := fblocks_any N.ns (N.wn d) (X.f d) (m.blk d) (m.tch d) X.dm (d * 4 + 1) w (h.far d hd) d1
  clear n1 n2 n3 n4 n5 n6 n7 h
  go_enter Tryz.func67, Tryz.ntmps67
  go_wp2_with fail
  refine hC.mono ?_; rintro e w1 ⟨la, lc, rfl, hown, hb⟩
  have HO : Hid _ := hown
  have HB : Hid _ := hb
  clear hC hown hb
  go_wp2
  go_ret2
  exact ⟨la, lc, rfl, HO.out, HB.out⟩
set_option maxRecDepth 100000 in
set_option maxHeartbeats 1600000 in
theorem kfar_bad (N : Cn) (X : XLoc) (m : Mh) (d : Int) (w : World) (h : MachM w N X m) (hd : d < 0 ∨ N.c.domains ≤ d) :
    Calls Tryz.prog 67 #[.pointer (some ⟨X.g, 0, none⟩), .int .i64 d] w fun e w' => e = .returned (.tuple #[.slice none 0 0, .int .i64 6]) ∧ w' = w := by
  obtain ⟨n1, n2, n3, n4, n5, n6, n7, n8, n9, n10, n11, n12, n13, n14, n15⟩ := h.nums
  have c18 : w.cell? ⟨X.g, 18, none⟩ = some (.slice (some ⟨X.dm, 0, none⟩) N.nd X.dc) := by rw [h.row.cell]; rfl
  have cases : d < 0 ∨ (0 ≤ d ∧ (N.nd : Int) ≤ d) := by omega
  clear h hd n1 n2 n3 n4 n5 n6 n7
  rcases cases with b1 | ⟨b1, b2⟩
  all_goals
    go_enter Tryz.func67, Tryz.ntmps67
    go_wp2
    go_ret2
    exact ⟨rfl, rfl⟩

set_option maxRecDepth 100000 in
set_option maxHeartbeats 1600000 in
theorem kmemory_good (N : Cn) (X : XLoc) (m : Mh) (d a : Nat) (w : World) (h : MachM w N X m) (hd : d < N.nd) (ha : a < N.pv + N.sn) :
    Calls Tryz.prog 68 #[.pointer (some ⟨X.g, 0, none⟩), .int .i64 d, .int .i64 a] w fun e w' => e = .returned (.tuple #[.int .i64 (wordM N.pv N.sn (m.own d) m.sh a), .int .i64 0]) ∧ Below w.heap.size w w' := by
  obtain ⟨n1, n2, n3, n4, n5, n6, n7, n8, n9, n10, n11, n12, n13, n14, n15⟩ := h.nums
  have c1 : w.cell? ⟨X.g, 1, none⟩ = some (.int .i64 N.nd) := by rw [n2, h.row.cell]; rfl
  have c3 : w.cell? ⟨X.g, 3, none⟩ = some (.int .i64 N.pv) := by rw [n6, h.row.cell]; rfl
  have c4 : w.cell? ⟨X.g, 4, none⟩ = some (.int .i64 N.sn) := by rw [n7, h.row.cell]; rfl
  have c15 : w.cell? ⟨X.g, 15, none⟩ = some (.slice (some ⟨X.e.r, 0, none⟩) N.nd X.e.rc) := by rw [h.row.cell]; rfl
  have c16 : w.cell? ⟨X.g, 16, none⟩ = some (.slice X.e.sa N.sn X.e.sc) := by rw [h.row.cell]; rfl
  have hC : ∀ j, Calls Tryz.prog 121 #[.pointer (some ⟨X.g, 14, none⟩), .int .i64 d, .int .i64 a] (w.drewN j) fun e w' => e = .returned (.int .i64 (wordM N.pv N.sn (m.own d) m.sh a)) ∧ w' = w.drewN j := fun j => mWord_any N.nd N.pv N.sn X.e m.own m.sh X.g 14 d a (w.drewN j) (h.mem.below (below_drewN (Below.refl w.heap.size w) j) (Nat.le_refl _)) c15 c16 hd (by omega)
  have hwr : IntKind.i64.wrap ((N.pv : Int) + (N.sn : Int)) = (N.pv : Int) + (N.sn : Int) := by rw [IntKind.wrap_i64]; omega
  have ha0 : ¬ (a : Int) < 0 := by omega
  have ha1 : ¬ (N.pv : Int) + (N.sn : Int) ≤ (a : Int) := by omega
  have HC : Hid _ := hC
  clear n1 n2 n3 n4 n5 n6 n7 h hC
  go_enter Tryz.func68, Tryz.ntmps68
  go_wp2_with fail
  go_quiet (fail)
  go_wp2_with fail
  refine (HC.out _).mono ?_; rintro e w1 ⟨rfl, rfl⟩
  go_wp2
  go_ret2
  exact ⟨rfl, below_drewN (Below.refl _ _) _⟩
set_option maxRecDepth 100000 in
set_option maxHeartbeats 1600000 in
theorem kmemory_bad (N : Cn) (X : XLoc) (m : Mh) (d a : Int) (w : World) (h : MachM w N X m) (hb : d < 0 ∨ N.c.domains ≤ d ∨ a < 0 ∨ N.c.priv + N.c.shared ≤ a) :
    Calls Tryz.prog 68 #[.pointer (some ⟨X.g, 0, none⟩), .int .i64 d, .int .i64 a] w fun e w' => e = .returned (.tuple #[.int .i64 0, .int .i64 6]) ∧ Below w.heap.size w w' := by
  obtain ⟨n1, n2, n3, n4, n5, n6, n7, n8, n9, n10, n11, n12, n13, n14, n15⟩ := h.nums
  have c1 : w.cell? ⟨X.g, 1, none⟩ = some (.int .i64 N.nd) := by rw [n2, h.row.cell]; rfl
  have c3 : w.cell? ⟨X.g, 3, none⟩ = some (.int .i64 N.pv) := by rw [n6, h.row.cell]; rfl
  have c4 : w.cell? ⟨X.g, 4, none⟩ = some (.int .i64 N.sn) := by rw [n7, h.row.cell]; rfl
  have hwr : IntKind.i64.wrap ((N.pv : Int) + (N.sn : Int)) = (N.pv : Int) + (N.sn : Int) := by rw [IntKind.wrap_i64]; omega
  have cases : d < 0 ∨ (0 ≤ d ∧ (N.nd : Int) ≤ d) ∨ (0 ≤ d ∧ d < (N.nd : Int) ∧ a < 0) ∨ (0 ≤ d ∧ d < (N.nd : Int) ∧ ¬ a < 0 ∧ (N.pv : Int) + (N.sn : Int) ≤ a) := by omega
  clear h hb n1 n2 n3 n4 n5 n6 n7
  rcases cases with b1 | ⟨b1, b2⟩ | ⟨b1, b2, b3⟩ | ⟨b1, b2, b3, b4⟩
  · go_enter Tryz.func68, Tryz.ntmps68
    go_wp2
    go_ret2
    exact ⟨rfl, Below.refl _ _⟩
  · go_enter Tryz.func68, Tryz.ntmps68
    go_wp2
    go_ret2
    exact ⟨rfl, Below.refl _ _⟩
  · go_enter Tryz.func68, Tryz.ntmps68
    go_wp2_with fail
    go_quiet (fail)
    go_wp2
    go_ret2
    exact ⟨rfl, below_drewN (Below.refl _ _) _⟩
  · go_enter Tryz.func68, Tryz.ntmps68
    go_wp2_with fail
    go_quiet (fail)
    go_wp2
    go_ret2
    exact ⟨rfl, below_drewN (Below.refl _ _) _⟩
end Go.Proofs.YtcmcfafhllpojabGreat

namespace Go.Proofs.YtcmcfafhllpojabGreat
open Go.RowKit

theorem wNear_good (N : Cn) (X : XLoc) (m : Mh) (k : Nat) (w : World) (h : MachM w N X m) (hk : k < N.nc) :
    Calls Tryz.prog 32 #[.pointer (some ⟨X.g, 0, none⟩), .int .i64 k] w fun e w' => e = .returned (.tuple #[.slice (some ⟨w.heap.size, 0, none⟩) N.nn N.nn, .int .i64 0]) ∧ w' = w.alloc (.cells (cpsL (m.nr k) N.nn).toArray 90) := by
  have hC := knear_good N X m k w h hk
  clear h hk
  go_enter Tryz.func32, Tryz.ntmps32
  go_wp2_with fail
  refine hC.mono ?_; rintro e w1 ⟨rfl, rfl⟩
  go_wp2
  go_ret2
  exact ⟨rfl, rfl⟩

theorem wNear_bad (N : Cn) (X : XLoc) (m : Mh) (k : Int) (w : World) (h : MachM w N X m) (hk : k < 0 ∨ N.c.cores ≤ k) :
    Calls Tryz.prog 32 #[.pointer (some ⟨X.g, 0, none⟩), .int .i64 k] w fun e w' => e = .returned (.tuple #[.slice none 0 0, .int .i64 6]) ∧ w' = w := by
  have hC := knear_bad N X m k w h hk
  clear h hk
  go_enter Tryz.func32, Tryz.ntmps32
  go_wp2_with fail
  refine hC.mono ?_; rintro e w1 ⟨rfl, rfl⟩
  go_wp2
  go_ret2
  exact ⟨rfl, rfl⟩

theorem wFar_good (N : Cn) (X : XLoc) (m : Mh) (d : Nat) (w : World) (h : MachM w N X m) (hd : d < N.nd) :
    Calls Tryz.prog 33 #[.pointer (some ⟨X.g, 0, none⟩), .int .i64 d] w fun e w' => ∃ la lc, e = .returned (.tuple #[.slice la (N.ns * N.wn d) lc, .int .i64 0]) ∧ w'.ownsRow w.heap.size 116 2 (.slice la (N.ns * N.wn d) lc) (N.ns * N.wn d) (bksL (m.blk d) (N.wn d) (N.ns * N.wn d)) ∧ Below w.heap.size w w' := by
  have hC := kfar_good N X m d w h hd
  clear h hd
  go_enter Tryz.func33, Tryz.ntmps33
  go_wp2_with fail
  refine hC.mono ?_; rintro e w1 ⟨la, lc, rfl, hown, hb⟩
  go_wp2
  go_ret2
  exact ⟨la, lc, rfl, hown, hb⟩

theorem wFar_bad (N : Cn) (X : XLoc) (m : Mh) (d : Int) (w : World) (h : MachM w N X m) (hd : d < 0 ∨ N.c.domains ≤ d) :
    Calls Tryz.prog 33 #[.pointer (some ⟨X.g, 0, none⟩), .int .i64 d] w fun e w' => e = .returned (.tuple #[.slice none 0 0, .int .i64 6]) ∧ w' = w := by
  have hC := kfar_bad N X m d w h hd
  clear h hd
  go_enter Tryz.func33, Tryz.ntmps33
  go_wp2_with fail
  refine hC.mono ?_; rintro e w1 ⟨rfl, rfl⟩
  go_wp2
  go_ret2
  exact ⟨rfl, rfl⟩

theorem wMemory_good (N : Cn) (X : XLoc) (m : Mh) (d a : Nat) (w : World) (h : MachM w N X m) (hd : d < N.nd) (ha : a < N.pv + N.sn) :
    Calls Tryz.prog 34 #[.pointer (some ⟨X.g, 0, none⟩), .int .i64 d, .int .i64 a] w fun e w' => e = .returned (.tuple #[.int .i64 (wordM N.pv N.sn (m.own d) m.sh a), .int .i64 0]) ∧ Below w.heap.size w w' := by
  have hC := kmemory_good N X m d a w h hd ha
  clear h hd ha
  go_enter Tryz.func34, Tryz.ntmps34
  go_wp2_with fail
  refine hC.mono ?_; rintro e w1 ⟨rfl, hb1⟩
  have HB : Hid _ := hb1
  clear hC hb1
  go_wp2
  go_ret2
  exact ⟨rfl, HB.out⟩

theorem wMemory_bad (N : Cn) (X : XLoc) (m : Mh) (d a : Int) (w : World) (h : MachM w N X m) (hbd : d < 0 ∨ N.c.domains ≤ d ∨ a < 0 ∨ N.c.priv + N.c.shared ≤ a) :
    Calls Tryz.prog 34 #[.pointer (some ⟨X.g, 0, none⟩), .int .i64 d, .int .i64 a] w fun e w' => e = .returned (.tuple #[.int .i64 0, .int .i64 6]) ∧ Below w.heap.size w w' := by
  have hC := kmemory_bad N X m d a w h hbd
  clear h hbd
  go_enter Tryz.func34, Tryz.ntmps34
  go_wp2_with fail
  refine hC.mono ?_; rintro e w1 ⟨rfl, hb1⟩
  have HB : Hid _ := hb1
  clear hC hb1
  go_wp2
  go_ret2
  exact ⟨rfl, HB.out⟩
end Go.Proofs.YtcmcfafhllpojabGreat
