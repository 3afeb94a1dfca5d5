/-
  What New makes: walls.New.
-/
import Derived.Test.YtcmcfafhllpojaaGreatClNewI
namespace Go.Proofs.YtcmcfafhllpojaaGreat
open Go.RowKit

theorem Parts.below {w w' : World} {N : Cn} {Y : YLoc} {a0 a1 a2 a3 : Nat} {lo hi : Nat → Nat} (h : Parts w N Y a0 a1 a2 a3 lo hi) (hb : Below w.heap.size w w') : Parts w' N Y a0 a1 a2 a3 lo hi := by
  have hs := hb.size
  obtain ⟨o1, o2, o3⟩ := h.ord
  have l3 := h.wks.lt
  have hcf := h.cfg.same (w' := w') (fun b hb' => hb.block b (by have := (h.cfgr b hb').2; omega))
  exact ⟨hcf.1, fun b hb' => h.cfgr b (hcf.2 b hb'), h.mem.below hb (Nat.le_refl _), h.memr, h.near.below hb (Nat.le_refl _), h.nearr, h.wks.below hb (Nat.le_refl _), h.dom.below hb (Nat.le_refl _), h.dcap, h.dmr, fun d hd => (h.prg d hd).below hb (Nat.le_refl _), fun d hd => (h.far d hd).below hb (Nat.le_refl _), h.fta, fun d hd => by have := h.rng d hd; exact ⟨this.1, by omega, this.2.2⟩, h.inc, h.ord⟩

theorem one_zero20 : zero20.toArray.all (·.oneCell') = true := by simp [Value.oneCell']
theorem size_zero20 : (Tryz.prog.info? 84).map (·.size) = some zero20.toArray.size := by rw [show zero20.toArray.size = 20 by simp]; exact Tryz.sizeMachine
theorem built0 : Tryz.prog.built 84 [] = some zero20.toArray := by kernel_rfl

set_option maxRecDepth 100000 in
set_option maxHeartbeats 3200000 in
theorem knew_bad (c : Cf) (s : Sl) (w : World) (h : CfgAt w c s) (hz : chk c ≠ 0) :
    Calls Tryz.prog 56 #[cfgV c s] w fun e w' => e = .returned (.tuple #[.agg zero20.toArray, .int .i64 (chk c)]) ∧ Below w.heap.size w w' := by
  have hb : (chk c != 0) = true := by simp [hz]
  have hb0 : ∀ A B : Obj, Below w.heap.size w ((w.alloc A).alloc B) := fun A B => ((Below.refl _ _).alloc (Nat.le_refl _) _).alloc (by simp) _
  have hR0 : Row ((w.alloc (.cells (cfgA c s) 29)).alloc (.cells zero20.toArray 84)) w.heap.size (cfgL c s) 29 := Row.alloc (heap_alloc_new w _) _
  have hC0 := check_any c s _ (h.below (hb0 (.cells (cfgA c s) 29) (.cells zero20.toArray 84)) (Nat.le_refl _))
  have hRb : Row ((w.alloc (.cells (cfgA c s) 29)).alloc (.cells zero20.toArray 84)) (w.heap.size + 1) zero20 84 := by
    have := heap_alloc_new (w.alloc (.cells (cfgA c s) 29)) (.cells zero20.toArray 84)
    rw [World.size_alloc] at this
    exact this
  have HRB0 : Hid _ := hRb
  have HB0 : Hid _ := hb0 (.cells (cfgA c s) 29) (.cells zero20.toArray 84)
  clear hz hb0 hRb hR0
  go_enter Tryz.func56, Tryz.ntmps56
  go_wp2_with fail
  refine hC0.mono ?_; rintro e w1 ⟨rfl, hb1⟩
  have B1 : Below w.heap.size w w1 := below_step HB0.out hb1 rfl
  have hrb : Row w1 (w.heap.size + 1) zero20 84 := Row.below HRB0.out hb1 (by simp)
  have HBE : Hid _ := B1
  clear hC0 B1 hb1
  go_wp2_with (first
    | (refine Go.wpList_buildTo (by rfl) 84 #[] (by rfl) (some 13) (by rfl) zero20.toArray built0 ?_)
    | (refine Go.wpList_store_rowTo (by rfl) 84 (.tmp 2) (.tmp 13) (by rfl) (by rfl) (w.heap.size + 1) zero20.toArray (by rfl) (by rfl) 84 zero20.toArray hrb size_zero20 (by rfl) one_zero20 ?_))
  have hld := run_loadVar_row (P := Tryz.prog) (w1.setRow (w.heap.size + 1) zero20.toArray) (w.heap.size + 1) 84 84 zero20.toArray (0, 0) _ (row_setRow hrb _) Tryz.underlying84 rfl size_zero20
  refine bodyPost_ret (v := .tuple #[.agg zero20.toArray, .int .i64 (chk c)]) ?_ rfl ?_
  · simp [results, Tryz.results56, asAddr, hld]
  · exact ⟨rfl, below_setRow HBE.out (by omega) _⟩

theorem built77 (N : Cn) (X : XLoc) : Tryz.prog.built 86 [(0, .agg (mchL N X 0).toArray)] = some (mchL N X 0).toArray := by kernel_rfl
theorem one_mch (N : Cn) (X : XLoc) : (mchL N X 0).toArray.all (·.oneCell') = true := by simp [mchL, Value.oneCell']
theorem size_mch (N : Cn) (X : XLoc) : (Tryz.prog.info? 84).map (·.size) = some (mchL N X 0).toArray.size := by rw [show (mchL N X 0).toArray.size = 20 by simp [mchL]]; exact Tryz.sizeMachine
theorem size_zero_mch (N : Cn) (X : XLoc) : zero20.toArray.size = (mchL N X 0).toArray.size := by simp [mchL]
theorem box77 (ev : Operand → Value) (o : Oper) (y : Operand) (L : List Value) (ho : o.op = .box 86 y) (hy : ev y = .agg L.toArray) (w : World) : (execOp ev o).run Tryz.prog w = .ok (.value (.pointer (some ⟨w.heap.size, 0, none⟩))) (w.alloc (.cells L.toArray 86)) := by
  unfold execOp
  rw [ho]
  simp [hy, go_sem]

set_option maxRecDepth 100000 in
set_option maxHeartbeats 3200000 in
theorem wnew_good (c : Cf) (s : Sl) (w : World) (h : CfgAt w c s) (hz : chk c = 0) :
    Calls Tryz.prog 25 #[cfgV c s] w fun e w' => ∃ X, e = .returned (.tuple #[.pointer (some ⟨X.g, 0, none⟩), .int .i64 0]) ∧ MachM w' (cnOf c) X (mkM (fun _ _ => []) (fun _ _ => 0) (fun _ => 0)) ∧ (∀ b, X.mine b → w.heap.size ≤ b) ∧ Below w.heap.size w w' := by
  have k0 := Kept.start w (cfgA c s) 29
  have hN := knew_good c s _ (h.below k0.below (Nat.le_refl _)) hz
  have HK0 : Hid _ := k0.below
  have HZ : Hid _ := hz
  clear hz
  go_enter Tryz.func25, Tryz.ntmps25
  go_wp2_with fail
  refine hN.mono ?_; rintro e w1 ⟨Y, a1, a2, a3, lo, hi, rfl, hP, hb1⟩
  have B1 := below_step HK0.out hb1 rfl
  have HB1 : Hid _ := B1
  have HP : Hid _ := hP
  have S1 := size_mch (cnOf c) (Y.loc 0 a3 fun _ => none)
  have S2 := size_zero_mch (cnOf c) (Y.loc 0 a3 fun _ => none)
  have S3 := one_mch (cnOf c) (Y.loc 0 a3 fun _ => none)
  have S4 := built77 (cnOf c) (Y.loc 0 a3 fun _ => none)
  obtain ⟨L, hL⟩ : ∃ L, mchL (cnOf c) (Y.loc 0 a3 fun _ => none) 0 = L := ⟨_, rfl⟩
  rw [hL] at S1 S2 S3 S4
  rw [hL]
  have HS1 : Hid _ := S1
  have HS2 : Hid _ := S2
  have HS3 : Hid _ := S3
  have HS4 : Hid _ := S4
  have HL : Hid _ := hL
  clear S1 S2 S3 S4 hL hP B1 hN k0 hb1
  go_wp2_with (first
    | (refine Go.Great.wpList_allocTo (by rfl) (some 4) (by rfl) _ _ (alloc20 _ _ (by rfl) _) ?_)
    | (refine Go.wpList_store_rowTo (by rfl) 84 (.tmp 4) (.tmp 9) (by rfl) (by rfl) w1.heap.size L.toArray (by rfl) (by rfl) 84 zero20.toArray (heap_alloc_new _ _) HS1.out HS2.out HS3.out ?_; rw [World.setRow_alloc_new])
    | (refine wpList_load_row (by rfl) 84 (.tmp 4) (by rfl) w1.heap.size (by rfl) 84 L.toArray (0, 0) _ (heap_alloc_new _ _) Tryz.underlying84 (by rfl) HS1.out ?_)
    | (refine Go.wpList_buildTo (by rfl) 86 #[(0, .tmp 14)] (by rfl) (some 15) (by rfl) L.toArray (by simp only [List.map_toArray, List.map_cons, List.map_nil]; exact HS4.out) ?_)
    | (refine Go.Great.wpList_allocTo (by rfl) (some 16) (by rfl) _ _ (box77 _ _ (.tmp 15) L (by rfl) (by rfl) _) ?_))
  go_ret2
  have hbA : Below w1.heap.size w1 (w1.alloc (.cells L.toArray 84)) := (Below.refl _ _).alloc (Nat.le_refl _) _
  obtain ⟨X, hg, hM, hX⟩ := (HP.out.below hbA).mach (N := cnOf c) ⟨rfl, HZ.out⟩
  have e : (mchL (cnOf c) (Y.loc (w1.alloc (.cells L.toArray 84)).heap.size a3 fun _ => none) 0) = L := HL.out
  rw [e] at hM
  refine ⟨X, ?_, hM, fun b hb => by have := hX b hb; rw [World.size_alloc] at this; omega, (HB1.out.alloc HB1.out.size _).alloc (by have := HB1.out.size; simp; omega) _⟩
  rw [hg, World.size_alloc]
  rfl

set_option maxRecDepth 100000 in
set_option maxHeartbeats 3200000 in
theorem wnew_bad (c : Cf) (s : Sl) (w : World) (h : CfgAt w c s) (hz : chk c ≠ 0) :
    Calls Tryz.prog 25 #[cfgV c s] w fun e w' => e = .returned (.tuple #[.pointer none, .int .i64 (chk c)]) ∧ Below w.heap.size w w' := by
  have k0 := Kept.start w (cfgA c s) 29
  have hN := knew_bad c s _ (h.below k0.below (Nat.le_refl _)) hz
  have hb : (chk c != 0) = true := by simp [hz]
  have HK0 : Hid _ := k0.below
  clear hz
  go_enter Tryz.func25, Tryz.ntmps25
  go_wp2_with fail
  refine hN.mono ?_; rintro e w1 ⟨rfl, hb1⟩
  have B1 := below_step HK0.out hb1 rfl
  have HB1 : Hid _ := B1
  clear hN k0 hb1 B1
  obtain ⟨L, hL⟩ : ∃ L, zero20 = L := ⟨_, rfl⟩
  have S1 := size_zero20
  have S3 := one_zero20
  have S2 : zero20.toArray.size = L.toArray.size := by rw [hL]
  rw [hL] at S1 S3
  have HS1 : Hid _ := S1
  have HS2 : Hid _ := S2
  have HS3 : Hid _ := S3
  rw [show zero20.toArray = L.toArray by rw [hL]]
  clear S1 S2 S3 hL
  go_wp2_with (first
    | (refine Go.Great.wpList_allocTo (by rfl) (some 4) (by rfl) _ _ (alloc20 _ _ (by rfl) _) ?_)
    | (refine Go.wpList_store_rowTo (by rfl) 84 (.tmp 4) (.tmp 9) (by rfl) (by rfl) w1.heap.size L.toArray (by rfl) (by rfl) 84 zero20.toArray (heap_alloc_new _ _) HS1.out HS2.out HS3.out ?_; rw [World.setRow_alloc_new]))
  go_ret2
  exact ⟨rfl, HB1.out.alloc (HB1.out.size) _⟩
end Go.Proofs.YtcmcfafhllpojaaGreat
