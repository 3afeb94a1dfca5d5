/-
  MachB, MachO, MachE, MachP, OpsT
-/
import Derived.Test.YtehheaedbnfidaaGreatClMachA
import Derived.Laws.IdiomCopy
namespace Go.Proofs.YtehheaedbnfidaaGreat
open Go.RowKit

theorem flat_op {l : List OpT} {i : Nat} {o : OpT} (h : l[i]? = some o) : (l.flatMap opL)[i * 3]? = some (.int .i64 o.1) ∧ (l.flatMap opL)[i * 3 + 1]? = some (.int .i64 o.2.1) ∧ (l.flatMap opL)[i * 3 + 2]? = some (.int .i64 o.2.2) := by
  have key : ∀ (l : List OpT) (i : Nat), l[i]? = some o → (l.flatMap opL)[i * 3]? = some (.int .i64 o.1) ∧ (l.flatMap opL)[i * 3 + 1]? = some (.int .i64 o.2.1) ∧ (l.flatMap opL)[i * 3 + 2]? = some (.int .i64 o.2.2) := by
    intro l
    induction l with
    | nil => intro i h; simp at h
    | cons x xs ih =>
      intro i h
      cases i with
      | zero =>
        simp only [List.getElem?_cons_zero, Option.some.injEq] at h
        subst h
        exact ⟨rfl, rfl, rfl⟩
      | succ i =>
        rw [List.getElem?_cons_succ] at h
        have := ih i h
        rw [List.flatMap_cons, show (i + 1) * 3 = (i * 3) + 1 + 1 + 1 by omega, show (i * 3) + 1 + 1 + 1 + 1 = (i * 3 + 1) + 1 + 1 + 1 by omega, show (i * 3) + 1 + 1 + 1 + 2 = (i * 3 + 2) + 1 + 1 + 1 by omega]
        exact this
  exact key l i h

abbrev opZ : OpT := (0, 0, 0)

set_option maxRecDepth 100000 in
set_option maxHeartbeats 1600000 in
theorem knext_any (N : Cn) (X : XLoc) (m : Mh) (d k : Nat) (w : World) (h : MachM w N X m) (hd : d < N.nd) (hk : k < N.nc) (hl : (m.ops d k).length ≤ 64) (hn : m.dn d k ≤ 64) :
    Calls Tryz.prog 148 #[.pointer (some ⟨X.g, 0, none⟩), .int .i64 d, .int .i64 k] w fun e w' => e = .returned (.tuple #[.agg (opArr ((m.next d k).getD opZ)), .bool (m.next d k).isSome]) ∧ Below w.heap.size w w' := by
  obtain ⟨n1, n2, n3, n4, n5, n6, n7, n8, n9, n10, n11, n12, n13, n14, n15⟩ := h.nums
  have c18 : w.cell? ⟨X.g, 18, none⟩ = some (.slice (some ⟨X.dm, 0, none⟩) N.nd X.dc) := by rw [h.row.cell]; rfl
  obtain ⟨d0, _, _, _⟩ := dom_at h hd
  clear n1 n2 n3 n4 n5 n6 n7
  obtain ⟨p0, p1⟩ := prg_at h hd hk
  have lg := h.row.lt
  have ld := h.dom.lt
  have lp := (h.prg d hd).lt
  have HN : Hid (m.next d k = (m.ops d k)[m.dn d k]?) := rfl
  have hops := h.ops d k hd hk
  have HL : Hid _ := hl
  by_cases a1 : m.dn d k < (m.ops d k).length
  · have hs := List.getElem?_eq_getElem a1
    obtain ⟨o, ho⟩ : ∃ o, (m.ops d k)[m.dn d k] = o := ⟨_, rfl⟩
    rw [ho] at hs
    rcases hops with ⟨e1, _⟩ | ⟨gO, e1, e2⟩
    · rw [e1] at a1; simp at a1
    obtain ⟨f0, f1, f2⟩ := flat_op hs
    have r0 := e2.cell (m.dn d k * 3)
    have r1 := e2.cell (m.dn d k * 3 + 1)
    have r2 := e2.cell (m.dn d k * 3 + 2)
    rw [f0] at r0
    rw [f1] at r1
    rw [f2] at r2
    rw [e1] at p0
    have HO : Hid ((m.next d k).getD opZ = o) := by unfold Hid; rw [HN.out, hs]; rfl
    have HI : Hid ((m.next d k).isSome = true) := by unfold Hid; rw [HN.out, hs]; rfl
    have lO := e2.lt
    obtain ⟨ok, oa, ov⟩ := o
    dsimp only at *
    clear ho
    generalize m.dn d k = dn at *
    generalize (m.ops d k).length = len at *
    clear h hs hl f0 f1 f2 e2 e1
    go_enter Tryz.func148, Tryz.ntmps148
    go_wp2
    refine bodyPost_ret (v := .tuple #[.agg (opArr (ok, oa, ov)), .bool true]) (by simp [results, Tryz.results148, go_sem]) rfl ⟨by rw [HO.out, HI.out], ?_⟩
    exact ((Below.refl _ _).alloc (Nat.le_refl _) _).alloc (by simp) _
  · have HO : Hid ((m.next d k).getD opZ = opZ) := by unfold Hid; rw [HN.out, List.getElem?_eq_none (by omega)]; rfl
    have HI : Hid ((m.next d k).isSome = false) := by unfold Hid; rw [HN.out, List.getElem?_eq_none (by omega)]; rfl
    clear hops
    generalize m.dn d k = dn at *
    generalize (m.ops d k).length = len at *
    clear h hl
    go_enter Tryz.func148, Tryz.ntmps148
    go_wp2
    refine bodyPost_ret (v := .tuple #[.agg (opArr opZ), .bool false]) (by simp [results, Tryz.results148, go_sem]) rfl ⟨by rw [HO.out, HI.out], ?_⟩
    exact ((Below.refl _ _).alloc (Nat.le_refl _) _).alloc (by simp) _
end Go.Proofs.YtehheaedbnfidaaGreat

namespace Go.Proofs.YtehheaedbnfidaaGreat

def sumN (f : Nat → Nat) : Nat → Nat
  | 0 => 0
  | n + 1 => sumN f n + f n

theorem sum_up (f : Nat → Nat) (k v : Nat) : ∀ n, sumN (up1 f k v) n = if k < n then sumN f n - f k + v else sumN f n
  | 0 => rfl
  | n + 1 => by
    have ih := sum_up f k v n
    have hle : k < n → f k ≤ sumN f n := by
      clear ih
      induction n with
      | zero => intro h; omega
      | succ n ih =>
        intro h
        rw [sumN]
        by_cases e : k = n
        · subst e; omega
        · have := ih (by omega); omega
    rw [sumN, sumN, ih]
    by_cases h1 : k < n
    · have := hle h1
      have h2 : n ≠ k := by omega
      rw [if_pos h1, if_pos (by omega)]
      simp only [up1, h2, if_false]
      omega
    · by_cases h2 : n = k
      · subst h2
        rw [if_neg h1, if_pos (by omega)]
        simp only [up1, if_true]
        omega
      · rw [if_neg h1, if_neg (by omega)]
        simp only [up1, h2, if_false]
theorem sum_le (f : Nat → Nat) (b : Nat) (hf : ∀ k, f k ≤ b) : ∀ n, sumN f n ≤ n * b
  | 0 => by simp [sumN]
  | n + 1 => by have := sum_le f b hf n; have := hf n; rw [sumN, Nat.succ_mul]; omega

structure MhOk (N : Cn) (m : Mh) : Prop where
  len : ∀ d k, (m.ops d k).length ≤ 64
  kin : ∀ d k o, o ∈ m.ops d k → o.1 = 0 ∨ o.1 = 1
  dn : ∀ d k, m.dn d k ≤ (m.ops d k).length
  tr : ∀ d, (m.tr d).length = sumN (m.dn d) N.nc
  bz : ∀ k, k < N.nc → (m.wk k).busy = true → ∃ d, d < N.nd ∧ (m.wk k).dom = (d : Int) ∧ m.dn d k < (m.ops d k).length
  wt : ∀ d, d < N.nd → ∀ c, c ∈ m.wt d → ∃ k, k < N.nc ∧ c = (k : Int) ∧ (m.wk k).busy = true ∧ (m.wk k).dom = (d : Int) ∧ ∃ o, m.next d k = some o ∧ faultF N.c o = 0
  wn : ∀ d, d < N.nd → (m.wt d).Nodup
  is : ∀ k, k < N.nc → 0 ≤ (m.wk k).issue ∧ (m.wk k).issue ≤ m.now
  ln : ∀ d s j, (m.blk d s j).line = -1 ∨ (0 ≤ (m.blk d s j).line ∧ (m.blk d s j).line ≤ 1000)
  mks : ∀ d s j, (m.blk d s j).line = -1 → (m.blk d s j).mkd = false

theorem MhOk.trl {N : Cn} {m : Mh} (h : MhOk N m) (hn : N.nc ≤ 3) (d : Nat) : (m.tr d).length ≤ 192 := by
  rw [h.tr]
  have := sum_le (m.dn d) 64 (fun k => Nat.le_trans (h.dn d k) (h.len d k)) N.nc
  have h2 : N.nc * 64 ≤ 3 * 64 := Nat.mul_le_mul_right _ hn
  omega
theorem MhOk.wtl {N : Cn} {m : Mh} (h : MhOk N m) (hn : N.nc ≤ 3) {d : Nat} (hd : d < N.nd) : (m.wt d).length ≤ 3 := by
  have := nodup_le N.nc (m.wt d) (h.wn d hd) (fun e he => by
    obtain ⟨k, h1, h2, _⟩ := h.wt d hd e he
    omega)
  omega
theorem Mh.next_lt {m : Mh} {d k : Nat} {o : OpT} (h : m.next d k = some o) : m.dn d k < (m.ops d k).length ∧ o ∈ m.ops d k := by
  unfold Mh.next at h
  have := List.getElem?_eq_some_iff.1 h
  obtain ⟨h1, h2⟩ := this
  exact ⟨h1, by rw [← h2]; exact List.getElem_mem h1⟩
theorem next_of_lt {m : Mh} {d k : Nat} (h : m.dn d k < (m.ops d k).length) : ∃ o, m.next d k = some o := ⟨_, List.getElem?_eq_getElem h⟩

theorem fault_free {c : Cf} {o : OpT} (h : faultF c o = 0) : 0 ≤ o.2.1 ∧ o.2.1 < c.priv + c.shared ∧ ¬ (o.1 = 1 ∧ c.priv ≤ o.2.1) := by
  unfold faultF at h
  by_cases a : o.2.1 < 0 ∨ c.priv + c.shared ≤ o.2.1
  · rw [if_pos a] at h; omega
  · rw [if_neg a] at h
    by_cases b : o.1 = 1 ∧ c.priv ≤ o.2.1
    · rw [if_pos b] at h; omega
    · omega
end Go.Proofs.YtehheaedbnfidaaGreat

namespace Go.Proofs.YtehheaedbnfidaaGreat
open Go.RowKit

theorem Labs.noNear {w : World} {N : Cn} {X : XLoc} (L : Labs w N X) : ¬ X.n.own N.nc X.g := fun h => by
  have h1 := L.no _ h
  rw [L.g] at h1
  simp at h1
theorem Labs.noMem {w : World} {N : Cn} {X : XLoc} (L : Labs w N X) : ¬ X.e.own N.nd X.g := fun h => by
  have h1 := L.eo _ h
  rw [L.g] at h1
  simp at h1

theorem touch_row {w w' : World} {F : Nat → Prop} {g : Nat} {A : List Value} {t : TypeId} (h : Row w g A t) (hT : Touch F w w') (hF : ¬ F g) : Row w' g A t := h.same (hT.block g h.lt hF)

set_option maxRecDepth 100000 in
set_option maxHeartbeats 6400000 in
theorem khand_any (N : Cn) (X : XLoc) (m : Mh) (d k : Nat) (o : OpT) (x : Nat) (w : World) (h : MachM w N X m) (hk : k < N.nc) (h0 : 0 ≤ o.2.1) (h1 : o.2.1 ≤ 1000) (hx : Hid (x = (o.2.1 / (N.ln : Int)).toNat)) :
    Calls Tryz.prog 153 #[.pointer (some ⟨X.g, 0, none⟩), .int .i64 d, .int .i64 k, .agg (opArr o)] w fun e w' => e = .returned (.tuple #[]) ∧ MachM w' N X (m.hand N d k o) ∧ Goes w w' X X := by
  have hl := kline_any N X m o x
  have HR0 : Row (w.alloc (.cells (opArr o) 69)) w.heap.size (opL o) 69 := heap_alloc_new w _
  have hb0 : Below w.heap.size w (w.alloc (.cells (opArr o) 69)) := (Below.refl _ _).alloc (Nat.le_refl _) _
  have hl1 := hl _ (h.below hb0 (Nat.le_refl _)) h0 h1 hx
  have sz0 : w.heap.size < (w.alloc (.cells (opArr o) 69)).heap.size := by simp
  have hxl : x ≤ 1000 := by
    have := hx.out
    have q1 : o.2.1 / (N.ln : Int) ≤ o.2.1 := Int.ediv_le_self _ h0
    omega
  have hno : ¬ X.n.own N.nc w.heap.size := fun ho => by
    have h2 := h.labs.no _ ho
    have := h.labs.lt _ (by rw [h2]; simp)
    omega
  have hng := h.labs.noNear
  have HH : Hid (m.hand N d k o = if o.1 = 1 then { m with nr := putN N.nn (dropAllN (fun j => decide (j < N.nc ∧ j ≠ k)) N.nn m.nr d x) k d x 3 } else { m with nr := putN N.nn (shareAllN (fun j => decide (j < N.nc ∧ j ≠ k)) N.nn m.nr d x) k d x (if foundN N.nn m.nr k d x N.nc = true ∨ N.c.priv ≤ o.2.1 then 1 else 2) }) := by
    unfold Hid Mh.hand
    rw [← hx.out]
  obtain ⟨ok, oa, ov⟩ := o
  dsimp only at *
  have HM : Hid _ := h
  clear h hl
  go_enter Tryz.func153, Tryz.ntmps153
  go_wp2_with fail
  refine hl1.mono ?_; rintro e w1 ⟨rfl, hb1⟩
  have hb2 : Below w.heap.size w (w1) := below_step hb0 hb1 rfl
  have R1 : Row w1 w.heap.size (opL (ok, oa, ov)) 69 := Row.below HR0 hb1 sz0
  clear hl1 hb0 hb1 HR0 sz0
  have M1 := HM.out.below hb2 (Nat.le_refl _)
  have c17 : w1.cell? ⟨X.g, 17, none⟩ = some (.slice (some ⟨X.n.r, 0, none⟩) N.nc X.n.rc) := by rw [M1.row.cell]; rfl
  have b0 : w1.cell? ⟨w.heap.size, 0, none⟩ = some (.int .i64 ok) := R1.cell 0
  by_cases a1 : ok = 1
  · have a1b : (ok == 1) = true := by simp [a1]
    have HH2 : Hid _ := HH.out
    rw [if_pos a1] at HH2
    have hD := ndropOthers_any N.nc N.nn X.n m.nr X.g 17 k x d w1 M1.near c17 hng (by omega)
    clear a1 HH
    go_wp2_with fail
    refine hD.mono ?_; rintro e w2 ⟨rfl, hN2, hT2⟩
    have M2 := M1.setNear hN2 hT2
    have d17 : w2.cell? ⟨X.g, 17, none⟩ = some (.slice (some ⟨X.n.r, 0, none⟩) N.nc X.n.rc) := by rw [M2.row.cell]; rfl
    have hP := nput_any N.nc N.nn X.n _ X.g 17 k x d 3 w2 hN2 d17 hk (by omega)
    clear hD c17
    go_wp2_with fail
    refine hP.mono ?_; rintro e w3 ⟨rfl, hN3, hT3⟩
    have M3 := M2.setNear hN3 hT3
    clear hP
    go_wp2
    refine bodyPost_ret (results_none rfl _ _ _) rfl ?_
    exact ⟨rfl, by rw [HH2.out]; exact M3, (Goes.of_below hb2).trans ((Goes.of_touch hT2 M1.labs.no).trans (Goes.of_touch hT3 M2.labs.no))⟩
  · have a1b : (ok == 1) = false := by simp [a1]
    have HH2 : Hid _ := HH.out
    rw [if_neg a1] at HH2
    have hD := nshareOthers_any N.nc N.nn X.n m.nr X.g 17 k x d w1 M1.near c17 hng (by omega)
    clear a1 HH
    go_wp2_with fail
    refine hD.mono ?_; rintro e w2 ⟨rfl, hN2, hT2⟩
    have M2 := M1.setNear hN2 hT2
    have R2 := touch_row R1 hT2 hno
    have c3 : w2.cell? ⟨X.g, 3, none⟩ = some (.int .i64 N.c.priv) := by rw [M2.row.cell]; rfl
    have b1 : w2.cell? ⟨w.heap.size, 1, none⟩ = some (.int .i64 oa) := R2.cell 1
    have lb := R2.lt
    have lg := M2.row.lt
    have HG : Hid (Goes w w2 X X) := (Goes.of_below hb2).trans (Goes.of_touch hT2 M1.labs.no)
    have hP : ∀ (n : Nat) (s : Int), Calls Tryz.prog 167 #[.pointer (some ⟨X.g, 17, none⟩), .int .i64 k, .int .i64 d, .int .i64 x, .int .i64 s] (w2.drewN n) fun e w' => e = .returned (.tuple #[]) ∧ MachM w' N X { m with nr := putN N.nn (shareAllN (fun i => decide (i < N.nc ∧ i ≠ k)) N.nn m.nr d x) k d x s } ∧ Goes w w' X X := fun n s => by
      have hbn : Below w2.heap.size w2 (w2.drewN n) := below_drewN (Below.refl _ _) _
      have M3 := M2.below hbn (Nat.le_refl _)
      have d17 : (w2.drewN n).cell? ⟨X.g, 17, none⟩ = some (.slice (some ⟨X.n.r, 0, none⟩) N.nc X.n.rc) := by rw [M3.row.cell]; rfl
      refine (nput_any N.nc N.nn X.n _ X.g 17 k x d s _ M3.near d17 hk (by omega)).mono ?_
      rintro e w4 ⟨rfl, hN4, hT4⟩
      exact ⟨rfl, M3.setNear hN4 hT4, (HG.out.trans (Goes.of_below hbn)).trans (Goes.of_touch hT4 M3.labs.no)⟩
    clear hD c17 hN2 hT2 M1 R1 b0
    rcases Bool.eq_false_or_eq_true (foundN N.nn m.nr k d x N.nc) with hf | hf
    · rw [hf]
      have HH3 : Hid _ := HH2.out
      rw [if_pos (Or.inl hf)] at HH3
      clear HH2 hf
      go_wp2_with fail
      go_quiet (fail)
      go_wp2_with fail
      refine (hP _ 1).mono ?_; rintro e w4 ⟨rfl, hM4, hG4⟩
      go_wp2
      refine bodyPost_end (results_none rfl _ _ _) rfl ?_
      exact ⟨rfl, by rw [HH3.out]; exact hM4, hG4⟩
    · rw [hf]
      by_cases a2 : N.c.priv ≤ oa
      · have HH3 : Hid _ := HH2.out
        rw [if_pos (Or.inr a2)] at HH3
        clear HH2 hf
        go_wp2_with fail
        go_quiet (fail)
        go_wp2_with fail
        refine (hP _ 1).mono ?_; rintro e w4 ⟨rfl, hM4, hG4⟩
        go_wp2
        refine bodyPost_end (results_none rfl _ _ _) rfl ?_
        exact ⟨rfl, by rw [HH3.out]; exact hM4, hG4⟩
      · have HH3 : Hid _ := HH2.out
        rw [if_neg (by rw [hf]; simp; omega)] at HH3
        clear HH2 hf
        go_wp2_with fail
        go_quiet (fail)
        go_wp2_with fail
        refine (hP _ 2).mono ?_; rintro e w4 ⟨rfl, hM4, hG4⟩
        go_wp2
        refine bodyPost_end (results_none rfl _ _ _) rfl ?_
        exact ⟨rfl, by rw [HH3.out]; exact hM4, hG4⟩
end Go.Proofs.YtehheaedbnfidaaGreat

namespace Go.Proofs.YtehheaedbnfidaaGreat
open Go.RowKit

theorem XLoc.goesWait {w w1 : World} {N : Cn} {X : XLoc} {d gg off cap len : Nat} {v : Value} (L : Labs w N X) (hd : d < N.nd) (hT : Touch (fun b => ∃ o, X.wa d = some ⟨b, o, none⟩) w w1) (hg : X.lab gg = some (12, d) ∨ w.heap.size ≤ gg) : Goes w (w1.setCell ⟨X.dm, d * 4 + 2, none⟩ v) X (X.waits d gg off len cap) := by
  have m1 : ∀ b, (∃ o, X.wa d = some ⟨b, o, none⟩) → X.mine b := fun b hb => by
    obtain ⟨o, hb⟩ := hb
    unfold XLoc.mine; rw [L.wt d hd b o hb]; simp
  have m2 : X.mine X.dm := by unfold XLoc.mine; rw [L.dm]; simp
  refine ⟨rfl, (hT.mono m1).trans (Touch.setCell _ _ _ _ m2), fun b hb hm => ?_⟩
  by_cases e : b = gg
  · subst e
    rcases hg with hg | hg
    · unfold XLoc.mine; rw [hg]; simp
    · omega
  · unfold XLoc.mine XLoc.waits at hm
    simp only [e, if_false] at hm
    exact hm

theorem getD_snoc (q : List Int) (v : Int) (i : Nat) : (q ++ [v]).getD i 0 = if i = q.length then v else q.getD i 0 := by
  by_cases e : i = q.length
  · subst e; simp [List.getD]
  · rw [if_neg e]
    by_cases h : i < q.length
    · simp [List.getD, List.getElem?_append_left h]
    · simp [List.getD, List.getElem?_eq_none (show (q ++ [v]).length ≤ i by simp; omega), List.getElem?_eq_none (show q.length ≤ i by omega)]

/-- There is room behind the list. -/
theorem MachM.pushRoom {w : World} {N : Cn} {X : XLoc} {m : Mh} {d g off : Nat} {cur : List Value} (h : MachM w N X m) (hd : d < N.nd) (v : Int) (ha : X.wa d = some ⟨g, off, none⟩) (hr : Row w g cur 3) (hlt : X.wl d < X.wc d) (hm : X.wc d ≤ maxLen) (hc : off + X.wc d ≤ cur.length) (hat : ∀ i, i < X.wl d → cur[off + i]? = some (.int .i64 ((m.wt d).getD i 0))) :
    MachM ((w.setCell ⟨g, off + X.wl d, none⟩ (.int .i64 v)).setCell ⟨X.dm, d * 4 + 2, none⟩ (.slice (some ⟨g, off, none⟩) (X.wl d + 1) (X.wc d))) N (X.waits d g off (X.wl d + 1) (X.wc d)) { m with wt := up1 m.wt d (m.wt d ++ [v]) }
    ∧ Goes w ((w.setCell ⟨g, off + X.wl d, none⟩ (.int .i64 v)).setCell ⟨X.dm, d * 4 + 2, none⟩ (.slice (some ⟨g, off, none⟩) (X.wl d + 1) (X.wc d))) X (X.waits d g off (X.wl d + 1) (X.wc d)) := by
  have hl : X.wl d = (m.wt d).length := (h.wait d hd).1
  have hT : Touch (fun b => ∃ o, X.wa d = some ⟨b, o, none⟩) w (w.setCell ⟨g, off + X.wl d, none⟩ (.int .i64 v)) := Touch.setCell _ _ _ _ ⟨off, ha⟩
  have hg : X.lab g = some (12, d) := h.labs.wt d hd g off ha
  refine ⟨h.setWait hd hT ⟨by simp [hl], Or.inr ⟨g, off, _, rfl, hr.setCell _ _, by omega, hm, by simpa using hc, fun i hi => ?_⟩⟩ (Or.inl hg) (by simpa [World.setCell] using hr.lt), XLoc.goesWait h.labs hd hT (Or.inl hg)⟩
  rw [getD_snoc]
  by_cases e : i = X.wl d
  · subst e
    rw [if_pos hl, List.getElem?_set_self (by omega)]
  · rw [if_neg (by omega), List.getElem?_set_ne (by omega)]
    exact hat i (by omega)

/-- There is none: a new block. -/
theorem MachM.pushGrow {w W w1 : World} {N : Cn} {X : XLoc} {m : Mh} {d gg cap : Nat} (h : MachM w N X m) (hd : d < N.nd) (v : Int) (hb : Below w.heap.size w W) (hg : W.grownBy w1 none) (ho : w1.ownsRow W.heap.size 3 1 (.slice (some ⟨gg, 0, none⟩) (X.wl d + 1) cap) (X.wl d + 1) ((m.wt d).map (Value.int .i64) ++ [.int .i64 v])) :
    MachM (w1.setCell ⟨X.dm, d * 4 + 2, none⟩ (.slice (some ⟨gg, 0, none⟩) (X.wl d + 1) cap)) N (X.waits d gg 0 (X.wl d + 1) cap) { m with wt := up1 m.wt d (m.wt d ++ [v]) }
    ∧ Goes w (w1.setCell ⟨X.dm, d * 4 + 2, none⟩ (.slice (some ⟨gg, 0, none⟩) (X.wl d + 1) cap)) X (X.waits d gg 0 (X.wl d + 1) cap) := by
  have hl : X.wl d = (m.wt d).length := (h.wait d hd).1
  have hT : Touch (fun b => ∃ o, X.wa d = some ⟨b, o, none⟩) w w1 := (Touch.of_below hb (Nat.le_refl _)).trans ⟨hg.os, hg.tape, hg.output, hg.size, fun b hb _ => hg.block b hb (by simp)⟩
  have hgl := (owns_lt ho gg rfl)
  have hg2 : w.heap.size ≤ gg := Nat.le_trans hb.size hgl.2
  refine ⟨h.setWait hd hT ⟨by simp [hl], Or.inr ?_⟩ (Or.inr hg2) hgl.1, XLoc.goesWait h.labs hd hT (Or.inr hg2)⟩
  obtain ⟨h1, h2⟩ := ho
  rcases h2 with ⟨h3, _⟩ | ⟨g', cap', cur, hv, _, hh, hn', hm, hs, ht⟩
  · cases h3
  · simp only [Value.slice.injEq, Option.some.injEq, Addr.mk.injEq] at hv
    obtain ⟨⟨rfl, _⟩, _, rfl⟩ := hv
    have hr : Row w1 gg cur.toList 3 := by unfold Row; simpa using hh
    refine ⟨gg, 0, cur.toList, rfl, hr, hn', hm, by simp [hs], fun i hi => ?_⟩
    have hlt : i < (m.wt d ++ [v]).length := by simp; omega
    have h4 : (cur.toList.take ((X.wl d + 1) * 1))[i]? = some (.int .i64 ((m.wt d ++ [v]).getD i 0)) := by
      rw [ht, show (m.wt d).map (Value.int .i64) ++ [.int .i64 v] = (m.wt d ++ [v]).map (Value.int .i64) by simp, List.getElem?_map, List.getD_eq_getElem?_getD, List.getElem?_eq_getElem hlt]
      rfl
    rw [List.getElem?_take, if_pos (by omega)] at h4
    rw [Nat.zero_add]
    exact h4
end Go.Proofs.YtehheaedbnfidaaGreat

namespace Go.Proofs.YtehheaedbnfidaaGreat
open Go.RowKit

/-- A slice value that reads as these operations. -/
structure OpsAt (w : World) (sa : Option Addr) (len cap : Nat) (os : List OpT) : Prop where
  hlen : os.length = len
  hle : len ≤ cap
  hmax : cap ≤ maxLen
  hat : ∀ i, i < len → ∃ b off, sa = some ⟨b, off, none⟩ ∧ w.cell? ⟨b, off + i * 3, none⟩ = some (.int .i64 (os.getD i opZ).1) ∧ w.cell? ⟨b, off + i * 3 + 1, none⟩ = some (.int .i64 (os.getD i opZ).2.1) ∧ w.cell? ⟨b, off + i * 3 + 2, none⟩ = some (.int .i64 (os.getD i opZ).2.2)

theorem OpsAt.below {w w' : World} {sa : Option Addr} {len cap n : Nat} {os : List OpT} (h : OpsAt w sa len cap os) (hb : Below n w w') (hn : w.heap.size ≤ n) : OpsAt w' sa len cap os :=
  ⟨h.hlen, h.hle, h.hmax, fun i hi => by
    obtain ⟨b, off, h1, h2, h3, h4⟩ := h.hat i hi
    have hl : b < n := Nat.lt_of_lt_of_le (cell_lt h2) hn
    exact ⟨b, off, h1, (hb.cell (p := ⟨b, off + i * 3, none⟩) hl).trans h2, (hb.cell (p := ⟨b, off + i * 3 + 1, none⟩) hl).trans h3, (hb.cell (p := ⟨b, off + i * 3 + 2, none⟩) hl).trans h4⟩⟩

def kindB (o : OpT) : Bool := o.1 == 0 || o.1 == 1
def opsOk (os : List OpT) : Bool := decide (os.length ≤ 64) && os.all kindB

theorem all_take {os : List OpT} {i : Nat} (hi : i < os.length) : (os.take (i + 1)).all kindB = ((os.take i).all kindB && kindB (os.getD i opZ)) := by
  rw [List.take_add_one, List.all_append, List.getElem?_eq_getElem hi, List.getD_eq_getElem?_getD, List.getElem?_eq_getElem hi]
  simp

end Go.Proofs.YtehheaedbnfidaaGreat
