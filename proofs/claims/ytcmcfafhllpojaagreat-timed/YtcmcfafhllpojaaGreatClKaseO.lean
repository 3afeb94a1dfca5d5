/-
  A case of wallskeep: whole.
-/
import Derived.Test.YtcmcfafhllpojaaGreatClPackZ
namespace Go.Proofs.YtcmcfafhllpojaaGreat
open Go.RowKit

set_option maxRecDepth 100000 in
set_option maxHeartbeats 3200000 in
theorem kwhole_any (x : Cs) (l : Cl) (hz : chk x.c = 0) (X : XLoc) (w0 w : World) (hc : CaseAt w0 x l) (hk : KCtx w0 w x X (machK x)) :
    Calls Tryz.prog 18 #[csV x l, .pointer (some ⟨X.g, 0, none⟩)] w fun e w' => ∃ X' T, T ≤ 10000 ∧ e = .returned (.tuple #[.int .i64 (T : Nat), .bool true]) ∧ X'.g = X.g ∧ KCtx w0 w' x X' (Mh.runs (cnOf x.c) T (machK x)) := by
  have hb0 : Below w.heap.size w (w.alloc (.cells (csA x l) 33)) := (Below.refl _ _).alloc (Nat.le_refl _) _
  have hR0 : Row (w.alloc (.cells (csA x l) 33)) w.heap.size (csL x l) 33 := heap_alloc_new w _
  have HR0 : Hid (Row (w.alloc (.cells (csA x l) 33)) w.heap.size (csL x l) 33) := hR0
  have HK0 : Hid _ := hk.below hb0
  have HNM : Hid (¬ X.mine w.heap.size) := fun hm => by have := hk.mach.labs.lt _ hm; omega
  have HC : Hid _ := hc
  have HZ : Hid _ := hz
  have HRL : Hid _ := hc.runs.hlen
  have hrm := hc.runs.hmax
  have hrle := hc.runs.hle
  unfold maxLen at hrm
  clear hb0 hR0 hk hc hz
  go_enter Tryz.func18, Tryz.ntmps18
  go_wp2_with fail
  go_loopw [6, 7] (fun v u wr => ∃ (i T : Nat) (X' : XLoc), i ≤ l.rl ∧ T ≤ 10000 ∧ u = .int .i64 i ∧ v = .int .i64 T ∧ X'.g = X.g ∧ KCtx w0 wr x X' (Mh.runs (cnOf x.c) T (machK x)) ∧ Row wr w.heap.size (csL x l) 33 ∧ ¬ X'.mine w.heap.size) (fun _ u _ => l.rl - (intOf u).toNat)
  case atStart => exact ⟨0, 0, X, by omega, by omega, rfl, rfl, rfl, HK0.out, HR0.out, HNM.out⟩
  case round =>
    obtain ⟨i, T, X1, hi, hT, rfl, rfl, hg, hk, hr, hn⟩ := hrel
    have lr := hr.lt
    by_cases hlt : i < l.rl
    · obtain ⟨b, off, hra, e1⟩ := (HC.out.below hk.bel (Nat.le_refl _)).runs.hat i hlt
      have y16 : wr.cell? ⟨w.heap.size, 16, none⟩ = some (.slice (some ⟨b, off, none⟩) l.rl l.rc) := by rw [← hra]; exact hr.cell 16
      have lb := cell_lt e1
      obtain ⟨n, hn2⟩ : ∃ n, x.runs.getD i 0 = n := ⟨_, rfl⟩
      rw [hn2] at e1
      have hGo := kgoes_any x HZ.out X1 T hT n wr hk.mach
      rw [hg] at hGo
      have HKK : Hid _ := hk
      have HRR : Hid (Row wr w.heap.size (csL x l) 33) := hr
      have HNN : Hid _ := hn
      have HGG : Hid _ := hg
      have hT2 := goT_le n hT
      clear hra hn2 hk hr hn hg
      go_wp2_with fail
      refine hGo.mono ?_; rintro e w1 ⟨X2, rfl, hM2, hG2⟩
      have HK2 : Hid _ := HKK.out.goes hG2 hM2
      have HR2 : Hid (Row w1 w.heap.size (csL x l) 33) := Row.same HRR.out (hG2.tch.block _ lr HNN.out)
      have HN2 : Hid (¬ X2.mine w.heap.size) := fun hm => HNN.out (hG2.lab _ lr hm)
      have HG2 : Hid (X2.g = X.g) := hG2.g.trans HGG.out
      obtain ⟨T2, hTe⟩ : ∃ T2, goT T n = T2 := ⟨_, rfl⟩
      rw [hTe] at HK2 hT2
      rw [hTe]
      clear hGo hM2 hG2 y16 e1 hTe
      go_wp2_with fail
      go_roundw
      case rel => exact ⟨i + 1, T2, X2, by omega, hT2.2, by go_num, rfl, HG2.out, HK2.out, HR2.out, HN2.out⟩
      case measure => simp [intOf]; omega
    · have y16 : wr.cell? ⟨w.heap.size, 16, none⟩ = some (.slice l.ra l.rl l.rc) := hr.cell 16
      have HKK : Hid _ := hk
      have HGG : Hid _ := hg
      clear hk hr hn hg
      go_wp2
      go_ret2
      exact ⟨X1, T, hT, rfl, HGG.out, HKK.out⟩
end Go.Proofs.YtcmcfafhllpojaaGreat
