/-
  Duo, Refuse
-/
import Derived.Test.YtcmcfafhllpojabGreatClKaseE
import Derived.Test.YtcmcfafhllpojabGreatClPackAE
import Derived.Lib.SliceRun
namespace Go.Proofs.YtcmcfafhllpojabGreat
open Go.RowKit

/-- What another machine does leaves this one as it was. -/
theorem MachM.aside {w w' : World} {N : Cn} {X Y Y' : XLoc} {m : Mh} (h : MachM w N X m) (hg : Goes w w' Y Y') (hd : ∀ k, X.mine k → ¬ Y.mine k) : MachM w' N X m := by
  have k := h.kin (w' := w') (fun _ => False) (fun b l hl _ => hg.tch.block b (h.labs.lt b (by rw [hl]; simp)) (hd b (by unfold XLoc.mine; rw [hl]; simp)))
  have kc := k.cfg (fun h => h)
  exact ⟨h.nok, h.right, h.now0, h.now1, k.row (fun h => h), kc.1, k.mem (fun h => h) (fun h => h), k.near (fun h => h) (fun h => h), k.dom (fun h => h), h.dcap, fun d hd => k.prg d hd (fun h => h), k.ops (fun h => h), fun d hd => k.far d hd (fun h => h) (fun h => h), fun d hd => k.wait d hd (fun h => h), fun d hd => k.trc d hd (fun h => h), k.wks (fun h => h), h.labs.grow hg.tch.size kc.2⟩

structure Duo (w0 w : World) (N : Cn) (Xa Xb : XLoc) (ma mb : Mh) : Prop where
  a : MachM w N Xa ma
  b : MachM w N Xb mb
  ga : ∀ k, Xa.mine k → w0.heap.size ≤ k
  gb : ∀ k, Xb.mine k → w0.heap.size ≤ k
  dis : ∀ k, Xa.mine k → ¬ Xb.mine k
  bel : Below w0.heap.size w0 w

theorem Duo.swap {w0 w : World} {N : Cn} {Xa Xb : XLoc} {ma mb : Mh} (h : Duo w0 w N Xa Xb ma mb) : Duo w0 w N Xb Xa mb ma := ⟨h.b, h.a, h.gb, h.ga, fun k hb ha => h.dis k ha hb, h.bel⟩
theorem Duo.left {w0 w w' : World} {N : Cn} {Xa Xb Xa' : XLoc} {ma mb ma' : Mh} (h : Duo w0 w N Xa Xb ma mb) (hg : Goes w w' Xa Xa') (hM : MachM w' N Xa' ma') : Duo w0 w' N Xa' Xb ma' mb := by
  have hs := h.bel.size
  refine ⟨hM, h.b.aside hg (fun k hb ha => h.dis k ha hb), fun k hk => ?_, h.gb, fun k ha hb => ?_, h.bel.trans (hg.tch.below _ hs h.ga)⟩
  · by_cases c : k < w.heap.size
    · exact h.ga k (hg.lab k c hk)
    · omega
  · have c := h.b.labs.lt k hb
    exact h.dis k (hg.lab k c ha) hb
theorem Duo.right {w0 w w' : World} {N : Cn} {Xa Xb Xb' : XLoc} {ma mb mb' : Mh} (h : Duo w0 w N Xa Xb ma mb) (hg : Goes w w' Xb Xb') (hM : MachM w' N Xb' mb') : Duo w0 w' N Xa Xb' ma mb' := (h.swap.left hg hM).swap
theorem Duo.below {w0 w w' : World} {N : Cn} {Xa Xb : XLoc} {ma mb : Mh} (h : Duo w0 w N Xa Xb ma mb) (hb : Below w.heap.size w w') : Duo w0 w' N Xa Xb ma mb :=
  ⟨h.a.below hb (Nat.le_refl _), h.b.below hb (Nat.le_refl _), h.ga, h.gb, h.dis, below_step h.bel hb rfl⟩
/-- One machine, and one made behind it. -/
theorem Duo.make {w0 w w' : World} {x y : Cs} {l : Cl} {Xa Xb : XLoc} {ma mb : Mh} (hc : cnOf y.c = cnOf x.c) (h : KCtx w0 w x Xa ma) (k : KSt w w' y l Xb mb) : Duo w0 w' (cnOf x.c) Xa Xb ma mb := by
  have hs := h.bel.size
  refine ⟨h.mach.below k.bel (Nat.le_refl _), by rw [← hc]; exact k.mach, h.mine, fun b hb => by have := k.mine b hb; omega, fun b ha hb => ?_, below_step h.bel k.bel rfl⟩
  have h1 := h.mach.labs.lt b ha
  have h2 := k.mine b hb
  omega
end Go.Proofs.YtcmcfafhllpojabGreat

namespace Go.Proofs.YtcmcfafhllpojabGreat
open Go.RowKit

theorem Tryz.eqlEv (w : World) (a : Option Addr) (l c : Nat) : (binOp .eql 43 (.slice a l c) (.slice none 0 0)).run Tryz.prog w = .ok (.bool a.isNone) w :=
  Go.Lib.run_eql_slice_nil w 43 112 a l c 0 0 Tryz.underlying43
theorem Tryz.eqlCp (w : World) (a : Option Addr) (l c : Nat) : (binOp .eql 79 (.slice a l c) (.slice none 0 0)).run Tryz.prog w = .ok (.bool a.isNone) w :=
  Go.Lib.run_eql_slice_nil w 79 90 a l c 0 0 Tryz.underlying79
theorem Tryz.eqlBk (w : World) (a : Option Addr) (l c : Nat) : (binOp .eql 82 (.slice a l c) (.slice none 0 0)).run Tryz.prog w = .ok (.bool a.isNone) w :=
  Go.Lib.run_eql_slice_nil w 82 116 a l c 0 0 Tryz.underlying82
attribute [local go_sem] Tryz.eqlEv Tryz.eqlCp Tryz.eqlBk

/-- While the calls that are refused go by: the machine is as it was. -/
structure RfS (w wr : World) (N : Cn) (s : Sl) (X Y : XLoc) (m : Mh) : Prop where
  mach : MachM wr N Y m
  goes : Goes w wr X Y
  row : Row wr w.heap.size (cfgL N.c s) 29
  nm : ¬ Y.mine w.heap.size
theorem RfS.step {w wr wr' : World} {N : Cn} {s : Sl} {X Y Y' : XLoc} {m : Mh} (h : RfS w wr N s X Y m) (hM : MachM wr' N Y' m) (hg : Goes wr wr' Y Y') : RfS w wr' N s X Y' m :=
  ⟨hM, h.goes.trans hg, h.row.same (hg.tch.block _ h.row.lt h.nm), fun q => h.nm (hg.lab _ h.row.lt q)⟩
theorem RfS.below {w wr wr' : World} {N : Cn} {s : Sl} {X Y : XLoc} {m : Mh} (h : RfS w wr N s X Y m) (hb : Below wr.heap.size wr wr') : RfS w wr' N s X Y m :=
  h.step (h.mach.below hb (Nat.le_refl _)) (Goes.of_below hb)

theorem ops_one (w : World) (o : OpT) : OpsAt (w.alloc (.cells (opArr o) 78)) (some ⟨w.heap.size, 0, none⟩) 1 1 [o] := by
  have r : Row (w.alloc (.cells (opArr o) 78)) w.heap.size (opL o) 78 := heap_alloc_new w _
  refine ⟨rfl, Nat.le_refl _, by unfold maxLen; omega, fun i hi => ⟨w.heap.size, 0, rfl, ?_⟩⟩
  have : i = 0 := by omega
  subst this
  exact ⟨r.cell 0, r.cell 1, r.cell 2⟩

set_option maxRecDepth 100000 in
set_option maxHeartbeats 6400000 in
theorem krefused_any (N : Cn) (s : Sl) (X : XLoc) (m : Mh) (now : Nat) (w : World) (h : MachM w N X m) (ok : MhOk N m) (hnow : m.now = now) :
    Calls Tryz.prog 12 #[cfgV N.c s, .pointer (some ⟨X.g, 0, none⟩), .int .i64 now] w fun e w' => ∃ X', e = .returned (.bool true) ∧ MachM w' N X' m ∧ Goes w w' X X' := by
  obtain ⟨n1, n2, n3, n4, n5, n6, n7, n8, n9, n10, n11, n12, n13, n14, n15⟩ := h.nums
  have hb0 : Below w.heap.size w (w.alloc (.cells (cfgA N.c s) 29)) := (Below.refl _ _).alloc (Nat.le_refl _) _
  have S0 : RfS w (w.alloc (.cells (cfgA N.c s) 29)) N s X X m := ⟨h.below hb0 (Nat.le_refl _), Goes.of_below hb0, heap_alloc_new w _, fun q => by have := h.labs.lt _ q; omega⟩
  have now1 := h.now1
  have hn4 : now ≤ 10000 := by omega
  -- what each call answers
  have eR1 : runME m (-1) = 6 := by unfold runME; rw [if_pos (by omega)]
  have eR2 : runME m (10000 - (now : Int) + 1) = 9 := by unfold runME; rw [if_neg (by omega), if_pos (by omega)]
  have mR1 : runMM N m (-1) = m := by unfold runMM; rw [eR1, if_neg (by omega)]
  have mR2 : runMM N m (10000 - (now : Int) + 1) = m := by unfold runMM; rw [eR2, if_neg (by omega)]
  have eG : giveME N m N.c.domains 0 [] = 6 := by unfold giveME; rw [if_pos (by omega)]
  have mG : giveMM N m N.c.domains 0 [] = m := by unfold giveMM; rw [eG, if_neg (by omega)]
  have eF : fillME N m 0 N.c.priv = 6 := by unfold fillME; rw [if_pos (by omega)]
  have mF : fillMM N m 0 N.c.priv 1 = m := by unfold fillMM; rw [eF, if_neg (by omega)]
  have eS : shareME N m N.c.shared = 6 := by unfold shareME; rw [if_pos (by omega)]
  have mS : shareMM N m N.c.shared 1 = m := by unfold shareMM; rw [eS, if_neg (by omega)]
  have eT : traceME N (-1) = 6 := by unfold traceME; rw [if_pos (by omega)]
  have vT : ∀ g, traceV N m (-1) g = .slice none 0 0 := fun g => by unfold traceV; rw [if_pos (by omega)]
  have wT : ∀ w', traceW N m (-1) w' = w' := fun w' => by unfold traceW; rw [if_pos (by omega)]
  -- the calls behind the first ones
  have C1 : Hid (∀ wr Y, RfS w wr N s X Y m → Calls Tryz.prog 30 #[.pointer (some ⟨X.g, 0, none⟩), .int .i64 (-1)] wr fun e w' => e = .returned (.int .i64 6) ∧ ∃ Y', RfS w w' N s X Y' m) := fun wr Y S => by
    have := wRun_any N Y m (-1) wr S.mach ok
    rw [eR1, mR1, S.goes.g] at this
    exact this.mono fun e w' ⟨a, Y', b, c⟩ => ⟨a, Y', S.step b c⟩
  have C2 : Hid (∀ wr Y, RfS w wr N s X Y m → Calls Tryz.prog 30 #[.pointer (some ⟨X.g, 0, none⟩), .int .i64 (10000 - (now : Int) + 1)] wr fun e w' => e = .returned (.int .i64 9) ∧ ∃ Y', RfS w w' N s X Y' m) := fun wr Y S => by
    have := wRun_any N Y m (10000 - (now : Int) + 1) wr S.mach ok
    rw [eR2, mR2, S.goes.g] at this
    exact this.mono fun e w' ⟨a, Y', b, c⟩ => ⟨a, Y', S.step b c⟩
  have C3 : Hid (∀ wr Y, RfS w wr N s X Y m → Calls Tryz.prog 23 #[.pointer (some ⟨X.g, 0, none⟩), .int .i64 N.c.domains, .int .i64 0, .slice none 0 0] wr fun e w' => e = .returned (.int .i64 6) ∧ ∃ Y', RfS w w' N s X Y' m) := fun wr Y S => by
    have := wGive_any N Y m N.c.domains 0 none 0 0 [] wr S.mach (opsAt_nil wr)
    rw [eG, mG, S.goes.g] at this
    exact this.mono fun e w' ⟨a, Y', b, c⟩ => ⟨a, Y', S.step b c⟩
  have C4 : Hid (∀ wr Y, RfS w wr N s X Y m → Calls Tryz.prog 24 #[.pointer (some ⟨X.g, 0, none⟩), .int .i64 0, .int .i64 N.c.priv, .int .i64 1] wr fun e w' => e = .returned (.int .i64 6) ∧ ∃ Y', RfS w w' N s X Y' m) := fun wr Y S => by
    have := wFill_any N Y m 0 N.c.priv 1 wr S.mach
    rw [eF, mF, S.goes.g] at this
    exact this.mono fun e w' ⟨a, b, c⟩ => ⟨a, Y, S.step b c⟩
  have C5 : Hid (∀ wr Y, RfS w wr N s X Y m → Calls Tryz.prog 25 #[.pointer (some ⟨X.g, 0, none⟩), .int .i64 N.c.shared, .int .i64 1] wr fun e w' => e = .returned (.int .i64 6) ∧ ∃ Y', RfS w w' N s X Y' m) := fun wr Y S => by
    have := wShare_any N Y m N.c.shared 1 wr S.mach
    rw [eS, mS, S.goes.g] at this
    exact this.mono fun e w' ⟨a, b, c⟩ => ⟨a, Y, S.step b c⟩
  have C6 : Hid (∀ wr Y, RfS w wr N s X Y m → Calls Tryz.prog 15 #[.pointer (some ⟨X.g, 0, none⟩), .int .i64 (-1)] wr fun e w' => e = .returned (.tuple #[.slice none 0 0, .int .i64 6]) ∧ RfS w w' N s X Y m) := fun wr Y S => by
    have := wTrace_any N Y m (-1) wr S.mach ok
    rw [eT, vT, wT, S.goes.g] at this
    exact this.mono fun e w' ⟨a, b⟩ => ⟨a, by rw [b]; exact S⟩
  have C7 : Hid (∀ wr Y, RfS w wr N s X Y m → Calls Tryz.prog 32 #[.pointer (some ⟨X.g, 0, none⟩), .int .i64 N.c.cores] wr fun e w' => e = .returned (.tuple #[.slice none 0 0, .int .i64 6]) ∧ RfS w w' N s X Y m) := fun wr Y S => by
    have := wNear_bad N Y m N.c.cores wr S.mach (Or.inr (Int.le_refl _))
    rw [S.goes.g] at this
    exact this.mono fun e w' ⟨a, b⟩ => ⟨a, by rw [b]; exact S⟩
  have C8 : Hid (∀ wr Y, RfS w wr N s X Y m → Calls Tryz.prog 33 #[.pointer (some ⟨X.g, 0, none⟩), .int .i64 N.c.domains] wr fun e w' => e = .returned (.tuple #[.slice none 0 0, .int .i64 6]) ∧ RfS w w' N s X Y m) := fun wr Y S => by
    have := wFar_bad N Y m N.c.domains wr S.mach (Or.inr (Int.le_refl _))
    rw [S.goes.g] at this
    exact this.mono fun e w' ⟨a, b⟩ => ⟨a, by rw [b]; exact S⟩
  have C9 : Hid (∀ wr Y, RfS w wr N s X Y m → Calls Tryz.prog 34 #[.pointer (some ⟨X.g, 0, none⟩), .int .i64 0, .int .i64 (N.c.priv + N.c.shared)] wr fun e w' => e = .returned (.tuple #[.int .i64 0, .int .i64 6]) ∧ RfS w w' N s X Y m) := fun wr Y S => by
    have := wMemory_bad N Y m 0 (N.c.priv + N.c.shared) wr S.mach (Or.inr (Or.inr (Or.inr (Int.le_refl _))))
    rw [S.goes.g] at this
    exact this.mono fun e w' ⟨a, b⟩ => ⟨a, S.below b⟩
  have C10 : Hid (∀ wr Y, RfS w wr N s X Y m → Calls Tryz.prog 31 #[.pointer (some ⟨X.g, 0, none⟩)] wr fun e w' => e = .returned (.int .i64 now) ∧ RfS w w' N s X Y m) := fun wr Y S => by
    have := wNow_any N Y m wr S.mach
    rw [hnow, S.goes.g] at this
    exact this.mono fun e w' ⟨a, b⟩ => ⟨a, by rw [b]; exact S⟩
  have CG : Hid (0 < now → ∀ wr Y, RfS w wr N s X Y m → Calls Tryz.prog 23 #[.pointer (some ⟨X.g, 0, none⟩), .int .i64 0, .int .i64 0, .slice (some ⟨wr.heap.size, 0, none⟩) 1 1] (wr.alloc (.cells (opArr (1, 0, 1)) 78)) fun e w' => e = .returned (.int .i64 7) ∧ ∃ Y', RfS w w' N s X Y' m) := fun hp wr Y S => by
    have S' := S.below ((Below.refl wr.heap.size wr).alloc (Nat.le_refl _) (.cells (opArr (1, 0, 1)) 78))
    have := wGive_any N Y m 0 0 _ 1 1 [(1, 0, 1)] _ S'.mach (ops_one wr (1, 0, 1))
    have e : giveME N m 0 0 [(1, 0, 1)] = 7 := by unfold giveME; rw [if_neg (by omega), if_pos (by omega)]
    have mm : giveMM N m 0 0 [(1, 0, 1)] = m := by unfold giveMM; rw [e, if_neg (by omega)]
    rw [e, mm, S'.goes.g] at this
    exact this.mono fun e w' ⟨a, Y', b, c⟩ => ⟨a, Y', S'.step b c⟩
  have CF : Hid (0 < now → ∀ wr Y, RfS w wr N s X Y m → Calls Tryz.prog 24 #[.pointer (some ⟨X.g, 0, none⟩), .int .i64 0, .int .i64 0, .int .i64 1] wr fun e w' => e = .returned (.int .i64 7) ∧ ∃ Y', RfS w w' N s X Y' m) := fun hp wr Y S => by
    have := wFill_any N Y m 0 0 1 wr S.mach
    have e : fillME N m 0 0 = 7 := by unfold fillME; rw [if_neg (by omega), if_pos (by omega)]
    have mm : fillMM N m 0 0 1 = m := by unfold fillMM; rw [e, if_neg (by omega)]
    rw [e, mm, S.goes.g] at this
    exact this.mono fun e w' ⟨a, b, c⟩ => ⟨a, Y, S.step b c⟩
  have CS : Hid (0 < now → ∀ wr Y, RfS w wr N s X Y m → Calls Tryz.prog 25 #[.pointer (some ⟨X.g, 0, none⟩), .int .i64 0, .int .i64 1] wr fun e w' => (∃ v : Int, e = .returned (.int .i64 v) ∧ (0 < N.c.shared → v = 7)) ∧ ∃ Y', RfS w w' N s X Y' m) := fun hp wr Y S => by
    have := wShare_any N Y m 0 1 wr S.mach
    have mm : shareMM N m 0 1 = m := by
      unfold shareMM
      rw [if_neg]
      unfold shareME
      by_cases q : (0 : Int) < 0 ∨ N.c.shared ≤ 0
      · rw [if_pos q]; omega
      · rw [if_neg q, if_pos (by omega)]; omega
    rw [mm, S.goes.g] at this
    exact this.mono fun e w' ⟨a, b, c⟩ => ⟨⟨_, a, fun q => by unfold shareME; rw [if_neg (by omega), if_pos (by omega)]⟩, Y, S.step b c⟩
  have hsh0 : 0 ≤ N.c.shared := by omega
  have hsh1 : N.c.shared ≤ 32 := by omega
  have hp0 : 0 ≤ N.c.priv := by omega
  have hp1 : N.c.priv ≤ 64 := by omega
  have hws : IntKind.i64.wrap (N.c.priv + N.c.shared) = N.c.priv + N.c.shared := by rw [IntKind.wrap_i64]; omega
  have hwr : IntKind.i64.wrap (10000 - (now : Int) + 1) = 10000 - (now : Int) + 1 := by rw [IntKind.wrap_i64]; omega
  have HS0 : Hid _ := S0
  have HN0 : Hid _ := hnow
  clear S0 hb0 h ok hnow n1 n2 n3 n4 n5 n6 n7 n8 n9 n10 n11 n12 n13 n14 n15 eR1 eR2 mR1 mR2 eG mG eF mF eS mS eT vT wT now1
  go_enter Tryz.func12, Tryz.ntmps12
  obtain ⟨wB, hwB⟩ : ∃ wB, w.alloc (.cells (cfgA N.c s) 29) = wB := ⟨_, rfl⟩
  have hszB : (w.alloc (.cells (cfgA N.c s) 29)).heap.size = w.heap.size + 1 := by simp
  rw [hwB] at HS0 hszB
  have HWB : Hid _ := hwB
  clear hwB
  rcases Nat.eq_zero_or_pos now with hz | hp
  · subst hz
    have c0 := C1.out wB X HS0.out
    clear hszB
    go_wp2_with fail
    rw [HWB.out]
    refine c0.mono ?_; rintro e v0 ⟨rfl, Y0, S0⟩
    have HS0 : Hid _ := S0
    clear c0 S0
    have c1 := C2.out v0 Y0 HS0.out
    go_wp2_with fail
    refine c1.mono ?_; rintro e v1 ⟨rfl, Y1, S1⟩
    have HS1 : Hid _ := S1
    clear c1 S1
    have c2 := C3.out v1 Y1 HS1.out
    have y21 : v1.cell? ⟨w.heap.size, 1, none⟩ = some (.int .i64 N.c.domains) := HS1.out.row.cell 1
    have ly2 := HS1.out.row.lt
    go_wp2_with fail
    refine c2.mono ?_; rintro e v2 ⟨rfl, Y2, S2⟩
    have HS2 : Hid _ := S2
    clear c2 S2 y21 ly2
    have c3 := C4.out v2 Y2 HS2.out
    have y33 : v2.cell? ⟨w.heap.size, 3, none⟩ = some (.int .i64 N.c.priv) := HS2.out.row.cell 3
    have ly3 := HS2.out.row.lt
    go_wp2_with fail
    refine c3.mono ?_; rintro e v3 ⟨rfl, Y3, S3⟩
    have HS3 : Hid _ := S3
    clear c3 S3 y33 ly3
    have c4 := C5.out v3 Y3 HS3.out
    have y44 : v3.cell? ⟨w.heap.size, 4, none⟩ = some (.int .i64 N.c.shared) := HS3.out.row.cell 4
    have ly4 := HS3.out.row.lt
    go_wp2_with fail
    refine c4.mono ?_; rintro e v4 ⟨rfl, Y4, S4⟩
    have HS4 : Hid _ := S4
    clear c4 S4 y44 ly4
    have c5 := C6.out v4 Y4 HS4.out
    go_wp2_with fail
    refine c5.mono ?_; rintro e v5 ⟨rfl, S5⟩
    have HS5 : Hid _ := S5
    clear c5 S5
    have c6 := C7.out v5 Y4 HS5.out
    have y60 : v5.cell? ⟨w.heap.size, 0, none⟩ = some (.int .i64 N.c.cores) := HS5.out.row.cell 0
    have ly6 := HS5.out.row.lt
    go_wp2_with fail
    refine c6.mono ?_; rintro e v6 ⟨rfl, S6⟩
    have HS6 : Hid _ := S6
    clear c6 S6 y60 ly6
    have c7 := C8.out v6 Y4 HS6.out
    have y71 : v6.cell? ⟨w.heap.size, 1, none⟩ = some (.int .i64 N.c.domains) := HS6.out.row.cell 1
    have ly7 := HS6.out.row.lt
    go_wp2_with fail
    refine c7.mono ?_; rintro e v7 ⟨rfl, S7⟩
    have HS7 : Hid _ := S7
    clear c7 S7 y71 ly7
    have c8 := C9.out v7 Y4 HS7.out
    have y83 : v7.cell? ⟨w.heap.size, 3, none⟩ = some (.int .i64 N.c.priv) := HS7.out.row.cell 3
    have y84 : v7.cell? ⟨w.heap.size, 4, none⟩ = some (.int .i64 N.c.shared) := HS7.out.row.cell 4
    have ly8 := HS7.out.row.lt
    go_wp2_with fail
    refine c8.mono ?_; rintro e v8 ⟨rfl, S8⟩
    have HS8 : Hid _ := S8
    clear c8 S8 y83 y84 ly8
    have c9 := C10.out v8 Y4 HS8.out
    go_wp2_with fail
    refine c9.mono ?_; rintro e v9 ⟨rfl, S9⟩
    have HS9 : Hid _ := S9
    clear c9 S9
    go_wp2
    go_ret
    exact ⟨Y4, rfl, HS9.out.mach, HS9.out.goes⟩
  · have g0 := CG.out hp wB X HS0.out
    rw [hszB] at g0
    clear hszB
    go_wp2_with fail
    rw [HWB.out]
    refine g0.mono ?_; rintro e u0 ⟨rfl, Z0, T0⟩
    have g1 := CF.out hp u0 Z0 T0
    clear g0 T0
    go_wp2_with fail
    refine g1.mono ?_; rintro e u1 ⟨rfl, Z1, T1⟩
    have g2 := CS.out hp u1 Z1 T1
    clear g1 T1
    go_wp2_with fail
    refine g2.mono ?_; rintro e u2 ⟨⟨vs, rfl, hvs⟩, Z2, T2⟩
    have HT2 : Hid _ := T2
    have y4 : u2.cell? ⟨w.heap.size, 4, none⟩ = some (.int .i64 N.c.shared) := T2.row.cell 4
    have ly := T2.row.lt
    clear g2 T2
    by_cases hs1 : 0 < N.c.shared
    · have hv := hvs hs1
      subst hv
      clear hvs
      have c0 := C1.out u2 Z2 HT2.out
      go_wp2_with fail
      refine c0.mono ?_; rintro e v0 ⟨rfl, Y0, S0⟩
      have HS0 : Hid _ := S0
      clear c0 S0
      have c1 := C2.out v0 Y0 HS0.out
      go_wp2_with fail
      refine c1.mono ?_; rintro e v1 ⟨rfl, Y1, S1⟩
      have HS1 : Hid _ := S1
      clear c1 S1
      have c2 := C3.out v1 Y1 HS1.out
      have y21 : v1.cell? ⟨w.heap.size, 1, none⟩ = some (.int .i64 N.c.domains) := HS1.out.row.cell 1
      have ly2 := HS1.out.row.lt
      go_wp2_with fail
      refine c2.mono ?_; rintro e v2 ⟨rfl, Y2, S2⟩
      have HS2 : Hid _ := S2
      clear c2 S2 y21 ly2
      have c3 := C4.out v2 Y2 HS2.out
      have y33 : v2.cell? ⟨w.heap.size, 3, none⟩ = some (.int .i64 N.c.priv) := HS2.out.row.cell 3
      have ly3 := HS2.out.row.lt
      go_wp2_with fail
      refine c3.mono ?_; rintro e v3 ⟨rfl, Y3, S3⟩
      have HS3 : Hid _ := S3
      clear c3 S3 y33 ly3
      have c4 := C5.out v3 Y3 HS3.out
      have y44 : v3.cell? ⟨w.heap.size, 4, none⟩ = some (.int .i64 N.c.shared) := HS3.out.row.cell 4
      have ly4 := HS3.out.row.lt
      go_wp2_with fail
      refine c4.mono ?_; rintro e v4 ⟨rfl, Y4, S4⟩
      have HS4 : Hid _ := S4
      clear c4 S4 y44 ly4
      have c5 := C6.out v4 Y4 HS4.out
      go_wp2_with fail
      refine c5.mono ?_; rintro e v5 ⟨rfl, S5⟩
      have HS5 : Hid _ := S5
      clear c5 S5
      have c6 := C7.out v5 Y4 HS5.out
      have y60 : v5.cell? ⟨w.heap.size, 0, none⟩ = some (.int .i64 N.c.cores) := HS5.out.row.cell 0
      have ly6 := HS5.out.row.lt
      go_wp2_with fail
      refine c6.mono ?_; rintro e v6 ⟨rfl, S6⟩
      have HS6 : Hid _ := S6
      clear c6 S6 y60 ly6
      have c7 := C8.out v6 Y4 HS6.out
      have y71 : v6.cell? ⟨w.heap.size, 1, none⟩ = some (.int .i64 N.c.domains) := HS6.out.row.cell 1
      have ly7 := HS6.out.row.lt
      go_wp2_with fail
      refine c7.mono ?_; rintro e v7 ⟨rfl, S7⟩
      have HS7 : Hid _ := S7
      clear c7 S7 y71 ly7
      have c8 := C9.out v7 Y4 HS7.out
      have y83 : v7.cell? ⟨w.heap.size, 3, none⟩ = some (.int .i64 N.c.priv) := HS7.out.row.cell 3
      have y84 : v7.cell? ⟨w.heap.size, 4, none⟩ = some (.int .i64 N.c.shared) := HS7.out.row.cell 4
      have ly8 := HS7.out.row.lt
      go_wp2_with fail
      refine c8.mono ?_; rintro e v8 ⟨rfl, S8⟩
      have HS8 : Hid _ := S8
      clear c8 S8 y83 y84 ly8
      have c9 := C10.out v8 Y4 HS8.out
      go_wp2_with fail
      refine c9.mono ?_; rintro e v9 ⟨rfl, S9⟩
      have HS9 : Hid _ := S9
      clear c9 S9
      go_wp2
      go_ret
      exact ⟨Y4, rfl, HS9.out.mach, HS9.out.goes⟩
    · clear hvs
      have c0 := C1.out u2 Z2 HT2.out
      go_wp2_with fail
      refine c0.mono ?_; rintro e v0 ⟨rfl, Y0, S0⟩
      have HS0 : Hid _ := S0
      clear c0 S0
      have c1 := C2.out v0 Y0 HS0.out
      go_wp2_with fail
      refine c1.mono ?_; rintro e v1 ⟨rfl, Y1, S1⟩
      have HS1 : Hid _ := S1
      clear c1 S1
      have c2 := C3.out v1 Y1 HS1.out
      have y21 : v1.cell? ⟨w.heap.size, 1, none⟩ = some (.int .i64 N.c.domains) := HS1.out.row.cell 1
      have ly2 := HS1.out.row.lt
      go_wp2_with fail
      refine c2.mono ?_; rintro e v2 ⟨rfl, Y2, S2⟩
      have HS2 : Hid _ := S2
      clear c2 S2 y21 ly2
      have c3 := C4.out v2 Y2 HS2.out
      have y33 : v2.cell? ⟨w.heap.size, 3, none⟩ = some (.int .i64 N.c.priv) := HS2.out.row.cell 3
      have ly3 := HS2.out.row.lt
      go_wp2_with fail
      refine c3.mono ?_; rintro e v3 ⟨rfl, Y3, S3⟩
      have HS3 : Hid _ := S3
      clear c3 S3 y33 ly3
      have c4 := C5.out v3 Y3 HS3.out
      have y44 : v3.cell? ⟨w.heap.size, 4, none⟩ = some (.int .i64 N.c.shared) := HS3.out.row.cell 4
      have ly4 := HS3.out.row.lt
      go_wp2_with fail
      refine c4.mono ?_; rintro e v4 ⟨rfl, Y4, S4⟩
      have HS4 : Hid _ := S4
      clear c4 S4 y44 ly4
      have c5 := C6.out v4 Y4 HS4.out
      go_wp2_with fail
      refine c5.mono ?_; rintro e v5 ⟨rfl, S5⟩
      have HS5 : Hid _ := S5
      clear c5 S5
      have c6 := C7.out v5 Y4 HS5.out
      have y60 : v5.cell? ⟨w.heap.size, 0, none⟩ = some (.int .i64 N.c.cores) := HS5.out.row.cell 0
      have ly6 := HS5.out.row.lt
      go_wp2_with fail
      refine c6.mono ?_; rintro e v6 ⟨rfl, S6⟩
      have HS6 : Hid _ := S6
      clear c6 S6 y60 ly6
      have c7 := C8.out v6 Y4 HS6.out
      have y71 : v6.cell? ⟨w.heap.size, 1, none⟩ = some (.int .i64 N.c.domains) := HS6.out.row.cell 1
      have ly7 := HS6.out.row.lt
      go_wp2_with fail
      refine c7.mono ?_; rintro e v7 ⟨rfl, S7⟩
      have HS7 : Hid _ := S7
      clear c7 S7 y71 ly7
      have c8 := C9.out v7 Y4 HS7.out
      have y83 : v7.cell? ⟨w.heap.size, 3, none⟩ = some (.int .i64 N.c.priv) := HS7.out.row.cell 3
      have y84 : v7.cell? ⟨w.heap.size, 4, none⟩ = some (.int .i64 N.c.shared) := HS7.out.row.cell 4
      have ly8 := HS7.out.row.lt
      go_wp2_with fail
      refine c8.mono ?_; rintro e v8 ⟨rfl, S8⟩
      have HS8 : Hid _ := S8
      clear c8 S8 y83 y84 ly8
      have c9 := C10.out v8 Y4 HS8.out
      go_wp2_with fail
      refine c9.mono ?_; rintro e v9 ⟨rfl, S9⟩
      have HS9 : Hid _ := S9
      clear c9 S9
      go_wp2
      go_ret
      exact ⟨Y4, rfl, HS9.out.mach, HS9.out.goes⟩
end Go.Proofs.YtcmcfafhllpojabGreat
