/-
  KaseK, KaseL, KaseN
-/
import Derived.Test.YtcmcfafhllpojabGreatClPackZ
import Derived.Deep.DeepCutAuto
namespace Go.Proofs.YtcmcfafhllpojabGreat
open Go.RowKit

/-- A domain's words as a row. -/
def wl (n pv : Nat) (g s : Nat → Int) : List Value := (List.range n).map fun a => .int .i64 (if a < pv then g a else s (a - pv))
theorem wl_at {n pv : Nat} {g s : Nat → Int} {a : Nat} (h : a < n) : (wl n pv g s)[a]? = some (.int .i64 (if a < pv then g a else s (a - pv))) := by
  unfold wl
  rw [List.getElem?_map, List.getElem?_range h]
  rfl
theorem wl_len (n pv : Nat) (g s : Nat → Int) : (wl n pv g s).length = n := by simp [wl]
theorem wl_zero (n pv : Nat) : wl n pv (fun _ => 0) (fun _ => 0) = List.replicate n (.int .i64 0) := by
  apply List.ext_getElem?
  intro a
  by_cases h : a < n
  · rw [wl_at h, List.getElem?_replicate, if_pos h]
    simp
  · rw [List.getElem?_eq_none (by rw [wl_len]; omega), List.getElem?_eq_none (by simp; omega)]
theorem wl_own {n pv : Nat} {g s : Nat → Int} {a : Nat} {v : Int} (h : a < pv) : (wl n pv g s).set a (.int .i64 v) = wl n pv (up1 g a v) s := by
  apply List.ext_getElem?
  intro b
  by_cases hb : b < n
  · rw [List.getElem?_set, wl_at hb, wl_at hb, wl_len]
    by_cases e : a = b
    · subst e
      simp [hb, h, up1]
    · have e' : ¬ b = a := fun q => e q.symm
      simp [e, e', up1]
  · rw [List.getElem?_eq_none (by simp [wl_len]; omega), List.getElem?_eq_none (by rw [wl_len]; omega)]
theorem wl_com {n pv : Nat} {g s : Nat → Int} {a : Nat} {v : Int} : (wl n pv g s).set (pv + a) (.int .i64 v) = wl n pv g (up1 s a v) := by
  apply List.ext_getElem?
  intro b
  by_cases hb : b < n
  · rw [List.getElem?_set, wl_at hb, wl_at hb, wl_len]
    by_cases e : pv + a = b
    · subst e
      have q : ¬ pv + a < pv := by omega
      simp [hb, up1, q]
    · by_cases q : b < pv
      · simp [e, q]
      · have e' : ¬ b - pv = a := by omega
        simp [e, q, e', up1]
  · rw [List.getElem?_eq_none (by simp [wl_len]; omega), List.getElem?_eq_none (by rw [wl_len]; omega)]
theorem own_row (c : Cf) (g : Nat → Nat → Int) (o : OpT) (d : Nat) (hd : (d : Int) < c.domains) : ownStep c g o d = if o.1 = (d : Int) ∧ 0 ≤ o.2.1 ∧ o.2.1 < c.priv then up1 (g d) o.2.1.toNat o.2.2 else g d := by
  unfold ownStep
  by_cases h : o.1 = (d : Int) ∧ 0 ≤ o.2.1 ∧ o.2.1 < c.priv
  · rw [if_pos h, if_pos ⟨by omega, by omega, h.2.1, h.2.2⟩, h.1, Int.toNat_natCast, up1_same]
  · rw [if_neg h]
    by_cases h2 : 0 ≤ o.1 ∧ o.1 < c.domains ∧ 0 ≤ o.2.1 ∧ o.2.1 < c.priv
    · rw [if_pos h2, up1_other _ _ (by omega)]
    · rw [if_neg h2]

set_option maxRecDepth 100000 in
set_option maxHeartbeats 6400000 in
theorem kwords_any (x : Cs) (l : Cl) (hz : chk x.c = 0) (d : Nat) (hd : (d : Int) < x.c.domains) (pv sn : Nat) (hpv : (pv : Int) = x.c.priv) (hsn : (sn : Int) = x.c.shared) (w : World) (h : CaseAt w x l) :
    Calls Tryz.prog 116 #[csV x l, .int .i64 d] w fun e w' => e = .returned (.slice (some ⟨w.heap.size + 1, 0, none⟩) (pv + sn) (pv + sn)) ∧ Row w' (w.heap.size + 1) (wl (pv + sn) pv (ownK x.c x.own d) (shK x.c x.com)) 3 ∧ Below w.heap.size w w' := by
  obtain ⟨i0, hi0, hz0, hz1, hz2⟩ := info_parts Tryz.infoInt
  have sb := shape_bounds (chk_zero hz).1
  have hb0 : Below w.heap.size w (w.alloc (.cells (csA x l) 33)) := (Below.refl _ _).alloc (Nat.le_refl _) _
  have hR0 : Row (w.alloc (.cells (csA x l) 33)) w.heap.size (csL x l) 33 := heap_alloc_new w _
  have y3 : (w.alloc (.cells (csA x l) 33)).cell? ⟨w.heap.size, 3, none⟩ = some (.int .i64 pv) := by rw [hpv]; exact hR0.cell 3
  have y4 : (w.alloc (.cells (csA x l) 33)).cell? ⟨w.heap.size, 4, none⟩ = some (.int .i64 sn) := by rw [hsn]; exact hR0.cell 4
  have p64 : pv ≤ 64 := by omega
  have s32 : sn ≤ 32 := by omega
  have HPV : Hid _ := hpv
  have HSN : Hid _ := hsn
  have HCA : Hid _ := h
  have HD : Hid _ := hd
  have HOL : Hid _ := h.own.hlen
  have hom : l.ol ≤ l.oc ∧ l.oc ≤ maxLen := ⟨h.own.hle, h.own.hmax⟩
  have HML : Hid _ := h.com.hlen
  have hmm : l.ml ≤ l.mc ∧ l.mc ≤ maxLen := ⟨h.com.hle, h.com.hmax⟩
  unfold maxLen at hom hmm
  have HR0 : Hid (Row ((w.alloc (.cells (csA x l) 33)).alloc (.cells (madeCells #[.int .i64 0] (pv + sn)) 3)) w.heap.size (csL x l) 33) := Row.alloc hR0 _
  have HG0 : Hid (Row ((w.alloc (.cells (csA x l) 33)).alloc (.cells (madeCells #[.int .i64 0] (pv + sn)) 3)) (w.heap.size + 1) (wl (pv + sn) pv (ownK x.c (x.own.take 0) d) (fun _ => 0)) 3) := by
    unfold Hid
    have e : madeCells #[Value.int .i64 0] (pv + sn) = (List.replicate (pv + sn) (Value.int .i64 0)).toArray := made_int (pv + sn)
    have := heap_alloc_new (w.alloc (.cells (csA x l) 33)) (.cells (madeCells #[.int .i64 0] (pv + sn)) 3)
    rw [World.size_alloc] at this
    have e2 : wl (pv + sn) pv (ownK x.c (x.own.take 0) d) (fun _ => 0) = List.replicate (pv + sn) (.int .i64 0) := wl_zero (pv + sn) pv
    rw [e2]
    unfold Row
    rw [this, e]
  have HB0 : Hid (Below w.heap.size w ((w.alloc (.cells (csA x l) 33)).alloc (.cells (madeCells #[.int .i64 0] (pv + sn)) 3))) := hb0.alloc (by simp) _
  clear hR0 hb0 sb hd hpv hsn h hz
  go_enter Tryz.func116, Tryz.ntmps116
  go_wp2_with (at_make; refine wpList_make_exact _ rfl _ _ 25 rfl 3 i0 (.int .i64 0) Tryz.underlying25 hi0 hz0 .i64 .i64 _ _ (pv + sn) rfl rfl (by simp) (by simp) (by rw [hz2]; omega) (by unfold maxLen; omega) ?_; rw [hz1])
  go_loopw [6] (fun u wr => ∃ (i : Nat), i ≤ l.ol ∧ u = .int .i64 i ∧ Row wr w.heap.size (csL x l) 33 ∧ Row wr (w.heap.size + 1) (wl (pv + sn) pv (ownK x.c (x.own.take i) d) (fun _ => 0)) 3 ∧ Below w.heap.size w wr) (fun u _ => l.ol - (intOf u).toNat)
  case atStart => exact ⟨0, by omega, rfl, HR0.out, HG0.out, HB0.out⟩
  case round =>
    obtain ⟨i, hi, rfl, hr, hgw, hb⟩ := hrel
    have lb := hr.lt
    have lg := hgw.lt
    by_cases hlt : i < l.ol
    · obtain ⟨b, off, hoa, e1, e2, e3⟩ := (HCA.out.below hb (Nat.le_refl _)).own.hat i hlt
      have y14 : wr.cell? ⟨w.heap.size, 14, none⟩ = some (.slice (some ⟨b, off, none⟩) l.ol l.oc) := by rw [← hoa]; exact hr.cell 14
      have lbb := cell_lt e1
      have HTK : Hid _ := ownK_take x.c x.own (i := i) (by rw [HOL.out]; exact hlt)
      obtain ⟨o, ho⟩ : ∃ o, x.own.getD i opZ = o := ⟨_, rfl⟩
      rw [ho] at e1 e2 e3 HTK
      have HRO : Hid _ := own_row x.c (ownK x.c (x.own.take i)) o d HD.out
      obtain ⟨od, oa, ov⟩ := o
      simp only at e1 e2 e3 lbb
      have hbA : Below wr.heap.size wr (wr.alloc (.cells #[.int .i64 od, .int .i64 oa, .int .i64 ov] 67)) := (Below.refl _ _).alloc (Nat.le_refl _) _
      have r2 := hr.below hbA lb
      have g2 := hgw.below hbA lg
      have B2 := below_step hb hbA rfl
      have HR2 : Hid (Row (wr.alloc (.cells #[.int .i64 od, .int .i64 oa, .int .i64 ov] 67)) w.heap.size (csL x l) 33) := r2
      have HG2 : Hid (Row (wr.alloc (.cells #[.int .i64 od, .int .i64 oa, .int .i64 ov] 67)) (w.heap.size + 1) (wl (pv + sn) pv (ownK x.c (x.own.take i) d) (fun _ => 0)) 3) := g2
      have HB2 : Hid _ := B2
      have y3 : wr.cell? ⟨w.heap.size, 3, none⟩ = some (.int .i64 pv) := by rw [HPV.out]; exact hr.cell 3
      by_cases c1 : od = (d : Int) ∧ 0 ≤ oa ∧ oa < (pv : Int)
      · obtain ⟨c1, c2, c3⟩ := c1
        obtain ⟨a, rfl⟩ := Int.eq_ofNat_of_zero_le c2
        have ha : a < pv := by omega
        have q1 : wr.cell? ⟨w.heap.size + 1, a, none⟩ = some (.int .i64 (ownK x.c (x.own.take i) d a)) := by rw [hgw.cell, wl_at (by omega), if_pos ha]
        have f1 : wr.frozen? ⟨w.heap.size + 1, a, none⟩ = false := hgw.frozen _
        have HW : Hid (wl (pv + sn) pv (ownK x.c (x.own.take (i + 1)) d) (fun _ => 0) = (wl (pv + sn) pv (ownK x.c (x.own.take i) d) (fun _ => 0)).set a (.int .i64 ov)) := by
          unfold Hid
          rw [wl_own ha, HTK.out, HRO.out, if_pos ⟨c1, by show (0 : Int) ≤ a; omega, by show (a : Int) < x.c.priv; rw [← HPV.out]; omega⟩]
          rfl
        subst c1
        have HR4 : Hid (Row ((wr.setCell ⟨w.heap.size + 1, a, none⟩ (.int .i64 ov)).alloc (.cells #[.int .i64 d, .int .i64 a, .int .i64 ov] 67)) w.heap.size (csL x l) 33) := Row.alloc (hr.setCellOther (g := w.heap.size + 1) a _ (by omega)) _
        have HG4 : Hid (Row ((wr.setCell ⟨w.heap.size + 1, a, none⟩ (.int .i64 ov)).alloc (.cells #[.int .i64 d, .int .i64 a, .int .i64 ov] 67)) (w.heap.size + 1) (wl (pv + sn) pv (ownK x.c (x.own.take (i + 1)) d) (fun _ => 0)) 3) := by unfold Hid; rw [HW.out]; exact Row.alloc (hgw.setCell a _) _
        have HB4 : Hid (Below w.heap.size w ((wr.setCell ⟨w.heap.size + 1, a, none⟩ (.int .i64 ov)).alloc (.cells #[.int .i64 d, .int .i64 a, .int .i64 ov] 67))) := (hb.setCell (show w.heap.size ≤ w.heap.size + 1 by omega) _).alloc (by have := hb.size; simp [World.setCell]; exact this) _
        clear hr hgw hb ho hoa hbA r2 g2 B2
        go_wp2_with fail
        go_roundw
        case rel => exact ⟨i + 1, by omega, by go_num, HR4.out, HG4.out, HB4.out⟩
        case measure => simp [intOf]; omega
      · have HW : Hid (wl (pv + sn) pv (ownK x.c (x.own.take (i + 1)) d) (fun _ => 0) = wl (pv + sn) pv (ownK x.c (x.own.take i) d) (fun _ => 0)) := by
          unfold Hid
          rw [HTK.out, HRO.out, if_neg (fun q => c1 ⟨q.1, q.2.1, by have : oa < x.c.priv := q.2.2; rw [HPV.out]; exact this⟩)]
        clear hr hgw hb ho hoa hbA r2 g2 B2
        have hcs : (¬ od = (d : Int)) ∨ (od = (d : Int) ∧ ¬ 0 ≤ oa) ∨ (od = (d : Int) ∧ 0 ≤ oa ∧ ¬ oa < (pv : Int)) := by omega
        clear c1
        rcases hcs with c1 | ⟨c1, c2⟩ | ⟨c1, c2, c3⟩
        · have c1b : (od == (d : Int)) = false := by simp [c1]
          go_wp2_with fail
          go_roundw
          case rel => exact ⟨i + 1, by omega, by go_num, HR2.out, by rw [HW.out]; exact HG2.out, HB2.out⟩
          case measure => simp [intOf]; omega
        · subst c1
          go_wp2_with fail
          go_roundw
          case rel => exact ⟨i + 1, by omega, by go_num, HR2.out, by rw [HW.out]; exact HG2.out, HB2.out⟩
          case measure => simp [intOf]; omega
        · subst c1
          go_wp2_with fail
          go_roundw
          case rel => exact ⟨i + 1, by omega, by go_num, HR2.out, by rw [HW.out]; exact HG2.out, HB2.out⟩
          case measure => simp [intOf]; omega
    · have y14 : wr.cell? ⟨w.heap.size, 14, none⟩ = some (.slice l.oa l.ol l.oc) := hr.cell 14
      have ht : x.own.take i = x.own := List.take_of_length_le (by rw [HOL.out]; omega)
      rw [ht] at hgw
      have HRX : Hid (Row wr w.heap.size (csL x l) 33) := hr
      have HGX : Hid (Row wr (w.heap.size + 1) (wl (pv + sn) pv (ownK x.c x.own d) (fun _ => 0)) 3) := hgw
      have HBX : Hid _ := hb
      clear hr hgw hb ht
      go_wp2_with fail
      go_loopw [8] (fun u wr => ∃ (i : Nat), i ≤ l.ml ∧ u = .int .i64 i ∧ Row wr w.heap.size (csL x l) 33 ∧ Row wr (w.heap.size + 1) (wl (pv + sn) pv (ownK x.c x.own d) (shK x.c (x.com.take i))) 3 ∧ Below w.heap.size w wr) (fun u _ => l.ml - (intOf u).toNat)
      case atStart => exact ⟨0, by omega, rfl, HRX.out, HGX.out, HBX.out⟩
      case round =>
        obtain ⟨n, hn, rfl, hr, hgw, hb⟩ := hrel
        have lb2 := hr.lt
        have lg2 := hgw.lt
        by_cases hltn : n < l.ml
        · obtain ⟨b, off, hoa, e1, e2, e3⟩ := (HCA.out.below hb (Nat.le_refl _)).com.hat n hltn
          have y15 : wr.cell? ⟨w.heap.size, 15, none⟩ = some (.slice (some ⟨b, off, none⟩) l.ml l.mc) := by rw [← hoa]; exact hr.cell 15
          have lbb := cell_lt e1
          have HTK : Hid _ := shK_take x.c x.com (i := n) (by rw [HML.out]; exact hltn)
          obtain ⟨o, ho⟩ : ∃ o, x.com.getD n opZ = o := ⟨_, rfl⟩
          rw [ho] at e1 e2 e3 HTK
          obtain ⟨od, oa, ov⟩ := o
          simp only at e1 e2 e3 lbb
          have HSS : Hid (shStep x.c (shK x.c (x.com.take n)) (od, oa, ov) = if 0 ≤ oa ∧ oa < x.c.shared then up1 (shK x.c (x.com.take n)) oa.toNat ov else shK x.c (x.com.take n)) := rfl
          have y3 : wr.cell? ⟨w.heap.size, 3, none⟩ = some (.int .i64 pv) := by rw [HPV.out]; exact hr.cell 3
          have y4 : wr.cell? ⟨w.heap.size, 4, none⟩ = some (.int .i64 sn) := by rw [HSN.out]; exact hr.cell 4
          by_cases c1 : 0 ≤ oa ∧ oa < (sn : Int)
          · obtain ⟨c2, c3⟩ := c1
            obtain ⟨a, rfl⟩ := Int.eq_ofNat_of_zero_le c2
            have ha : a < sn := by omega
            have q1 : wr.cell? ⟨w.heap.size + 1, pv + a, none⟩ = some (.int .i64 (if pv + a < pv then ownK x.c x.own d (pv + a) else shK x.c (x.com.take n) (pv + a - pv))) := by rw [hgw.cell, wl_at (by omega)]
            have f1 : wr.frozen? ⟨w.heap.size + 1, pv + a, none⟩ = false := hgw.frozen _
            have HW : Hid (wl (pv + sn) pv (ownK x.c x.own d) (shK x.c (x.com.take (n + 1))) = (wl (pv + sn) pv (ownK x.c x.own d) (shK x.c (x.com.take n))).set (pv + a) (.int .i64 ov)) := by
              unfold Hid
              rw [wl_com, HTK.out, HSS.out, if_pos ⟨by omega, by rw [← HSN.out]; omega⟩]
              rfl
            have HR4 : Hid (Row ((wr.setCell ⟨w.heap.size + 1, pv + a, none⟩ (.int .i64 ov)).alloc (.cells #[.int .i64 od, .int .i64 a, .int .i64 ov] 67)) w.heap.size (csL x l) 33) := Row.alloc (hr.setCellOther (g := w.heap.size + 1) (pv + a) _ (by omega)) _
            have HG4 : Hid (Row ((wr.setCell ⟨w.heap.size + 1, pv + a, none⟩ (.int .i64 ov)).alloc (.cells #[.int .i64 od, .int .i64 a, .int .i64 ov] 67)) (w.heap.size + 1) (wl (pv + sn) pv (ownK x.c x.own d) (shK x.c (x.com.take (n + 1)))) 3) := by unfold Hid; rw [HW.out]; exact Row.alloc (hgw.setCell (pv + a) _) _
            have HB4 : Hid (Below w.heap.size w ((wr.setCell ⟨w.heap.size + 1, pv + a, none⟩ (.int .i64 ov)).alloc (.cells #[.int .i64 od, .int .i64 a, .int .i64 ov] 67))) := (hb.setCell (show w.heap.size ≤ w.heap.size + 1 by omega) _).alloc (by have := hb.size; simp [World.setCell]; exact this) _
            clear hr hgw hb ho hoa
            go_wp2_with fail
            go_roundw
            case rel => exact ⟨n + 1, by omega, by go_num, HR4.out, HG4.out, HB4.out⟩
            case measure => simp [intOf]; omega
          · have HW : Hid (wl (pv + sn) pv (ownK x.c x.own d) (shK x.c (x.com.take (n + 1))) = wl (pv + sn) pv (ownK x.c x.own d) (shK x.c (x.com.take n))) := by
              unfold Hid
              rw [HTK.out, HSS.out, if_neg (fun q => c1 ⟨q.1, by rw [HSN.out]; exact q.2⟩)]
            have hbA : Below wr.heap.size wr (wr.alloc (.cells #[.int .i64 od, .int .i64 oa, .int .i64 ov] 67)) := (Below.refl _ _).alloc (Nat.le_refl _) _
            have HR2 : Hid (Row (wr.alloc (.cells #[.int .i64 od, .int .i64 oa, .int .i64 ov] 67)) w.heap.size (csL x l) 33) := hr.below hbA lb2
            have HG2 : Hid (Row (wr.alloc (.cells #[.int .i64 od, .int .i64 oa, .int .i64 ov] 67)) (w.heap.size + 1) (wl (pv + sn) pv (ownK x.c x.own d) (shK x.c (x.com.take n))) 3) := hgw.below hbA lg2
            have HB2 : Hid _ := below_step hb hbA rfl
            clear hr hgw hb ho hoa hbA
            have hcs : (¬ 0 ≤ oa) ∨ (0 ≤ oa ∧ ¬ oa < (sn : Int)) := by omega
            clear c1
            rcases hcs with c2 | ⟨c2, c3⟩
            · go_wp2_with fail
              go_roundw
              case rel => exact ⟨n + 1, by omega, by go_num, HR2.out, by rw [HW.out]; exact HG2.out, HB2.out⟩
              case measure => simp [intOf]; omega
            · go_wp2_with fail
              go_roundw
              case rel => exact ⟨n + 1, by omega, by go_num, HR2.out, by rw [HW.out]; exact HG2.out, HB2.out⟩
              case measure => simp [intOf]; omega
        · have y15 : wr.cell? ⟨w.heap.size, 15, none⟩ = some (.slice l.ma l.ml l.mc) := hr.cell 15
          have ht : x.com.take n = x.com := List.take_of_length_le (by rw [HML.out]; omega)
          rw [ht] at hgw
          have HGY : Hid (Row wr (w.heap.size + 1) (wl (pv + sn) pv (ownK x.c x.own d) (shK x.c x.com)) 3) := hgw
          have HBY : Hid _ := hb
          clear hr hgw hb ht
          go_wp2
          go_ret
          exact ⟨rfl, HGY.out, HBY.out⟩
end Go.Proofs.YtcmcfafhllpojabGreat

namespace Go.Proofs.YtcmcfafhllpojabGreat
open Go.RowKit

set_option maxRecDepth 100000 in
set_option maxHeartbeats 3200000 in
theorem kfaultOf_any (c : Cf) (s : Sl) (o : OpT) (w : World) (hz : chk c = 0) :
    Calls Tryz.prog 156 #[cfgV c s, .agg (opArr o)] w fun e w' => e = .returned (.int .i64 (faultF c o)) ∧ Below w.heap.size w w' := by
  have sb := shape_bounds (chk_zero hz).1
  have hb : Below w.heap.size w ((w.alloc (.cells (cfgA c s) 29)).alloc (.cells (opArr o) 78)) := ((Below.refl _ _).alloc (Nat.le_refl _) _).alloc (by simp) _
  have HB : Hid _ := hb
  obtain ⟨o1, o2, o3⟩ := o
  have HF : Hid (faultF c (o1, o2, o3) = if o2 < 0 ∨ c.priv + c.shared ≤ o2 then 1 else if o1 = 1 ∧ c.priv ≤ o2 then 2 else 0) := rfl
  have p1 : 0 ≤ c.priv := by omega
  have p2 : c.priv ≤ 64 := by omega
  have p3 : 0 ≤ c.shared := by omega
  have p4 : c.shared ≤ 32 := by omega
  clear sb hb hz
  have hcs : (o2 < 0) ∨ (¬ o2 < 0 ∧ c.priv + c.shared ≤ o2) ∨ (¬ o2 < 0 ∧ ¬ c.priv + c.shared ≤ o2 ∧ o1 = 1 ∧ c.priv ≤ o2) ∨ (¬ o2 < 0 ∧ ¬ c.priv + c.shared ≤ o2 ∧ o1 = 1 ∧ ¬ c.priv ≤ o2) ∨ (¬ o2 < 0 ∧ ¬ c.priv + c.shared ≤ o2 ∧ ¬ o1 = 1) := by omega
  rcases hcs with a | ⟨a, b⟩ | ⟨a, b, e, f⟩ | ⟨a, b, e, f⟩ | ⟨a, b, e⟩
  · have HR : Hid (faultF c (o1, o2, o3) = 1) := by unfold Hid; rw [HF.out, if_pos (Or.inl a)]
    go_enter Tryz.func156, Tryz.ntmps156
    go_wp2
    go_ret
    exact ⟨ret_int HR.out.symm, HB.out⟩
  · have HR : Hid (faultF c (o1, o2, o3) = 1) := by unfold Hid; rw [HF.out, if_pos (Or.inr b)]
    go_enter Tryz.func156, Tryz.ntmps156
    go_wp2
    go_ret
    exact ⟨ret_int HR.out.symm, HB.out⟩
  · have HR : Hid (faultF c (o1, o2, o3) = 2) := by unfold Hid; rw [HF.out, if_neg (by omega), if_pos ⟨e, f⟩]
    subst e
    go_enter Tryz.func156, Tryz.ntmps156
    go_wp2
    go_ret
    exact ⟨ret_int HR.out.symm, HB.out⟩
  · have HR : Hid (faultF c (o1, o2, o3) = 0) := by unfold Hid; rw [HF.out, if_neg (by omega), if_neg (by omega)]
    subst e
    go_enter Tryz.func156, Tryz.ntmps156
    go_wp2
    go_ret
    exact ⟨ret_int HR.out.symm, HB.out⟩
  · have HR : Hid (faultF c (o1, o2, o3) = 0) := by unfold Hid; rw [HF.out, if_neg (by omega), if_neg (by omega)]
    have eb : (o1 == 1) = false := by simp [e]
    go_enter Tryz.func156, Tryz.ntmps156
    go_wp2
    go_ret
    exact ⟨ret_int HR.out.symm, HB.out⟩

/-- A row of integers by a function. -/
def fl (n : Nat) (f : Nat → Int) : List Value := (List.range n).map fun a => .int .i64 (f a)
theorem fl_at {n : Nat} {f : Nat → Int} {a : Nat} (h : a < n) : (fl n f)[a]? = some (.int .i64 (f a)) := by
  unfold fl
  rw [List.getElem?_map, List.getElem?_range h]
  rfl
theorem fl_set {n : Nat} {f : Nat → Int} {a : Nat} {v : Int} : (fl n f).set a (.int .i64 v) = fl n (up1 f a v) := by
  have hl : ∀ g, (fl n g).length = n := fun g => by simp [fl]
  apply List.ext_getElem?
  intro b
  by_cases hb : b < n
  · rw [List.getElem?_set, fl_at hb, fl_at hb, hl]
    by_cases e : a = b
    · subst e; simp [hb, up1]
    · have e' : ¬ b = a := fun q => e q.symm
      simp [e, e', up1]
  · rw [List.getElem?_eq_none (by simp [hl]; omega), List.getElem?_eq_none (by rw [hl]; omega)]

/-- A book in memory. -/
structure BookS (w wx : World) (gB gw gs n nc : Nat) (W S : Nat → Int) : Prop where
  bk : Row wx gB [.slice (some ⟨gw, 0, none⟩) n n, .slice (some ⟨gs, 0, none⟩) nc nc] 129
  wd : Row wx gw (fl n W) 3
  sn : Row wx gs (fl nc S) 3
  tch : Touch (fun b => b = gw ∨ b = gs) w wx

theorem BookS.below {w wx wy : World} {gB gw gs n nc : Nat} {W S : Nat → Int} (h : BookS w wx gB gw gs n nc W S) (hb : Below wx.heap.size wx wy) : BookS w wy gB gw gs n nc W S :=
  ⟨h.bk.below hb h.bk.lt, h.wd.below hb h.wd.lt, h.sn.below hb h.sn.lt, h.tch.trans (Touch.of_below hb (Nat.le_refl _))⟩
theorem BookS.seen {w wx : World} {gB gw gs n nc : Nat} {W S : Nat → Int} (h : BookS w wx gB gw gs n nc W S) (h1 : gB ≠ gs) (h2 : gw ≠ gs) (k : Nat) (v : Int) : BookS w (wx.setCell ⟨gs, k, none⟩ (.int .i64 v)) gB gw gs n nc W (up1 S k v) :=
  ⟨h.bk.setCellOther k _ h1, h.wd.setCellOther k _ h2, by have := h.sn.setCell k (.int .i64 v); rw [fl_set] at this; exact this, h.tch.trans (Touch.setCell _ _ _ _ (Or.inr rfl))⟩
theorem BookS.word {w wx : World} {gB gw gs n nc : Nat} {W S : Nat → Int} (h : BookS w wx gB gw gs n nc W S) (h1 : gB ≠ gw) (h2 : gs ≠ gw) (k : Nat) (v : Int) : BookS w (wx.setCell ⟨gw, k, none⟩ (.int .i64 v)) gB gw gs n nc (up1 W k v) S :=
  ⟨h.bk.setCellOther k _ h1, by have := h.wd.setCell k (.int .i64 v); rw [fl_set] at this; exact this, h.sn.setCellOther k _ h2, h.tch.trans (Touch.setCell _ _ _ _ (Or.inl rfl))⟩
theorem BookS.drew {w wx : World} {gB gw gs n nc : Nat} {W S : Nat → Int} (h : BookS w wx gB gw gs n nc W S) (j : Nat) : BookS w (wx.drewN j) gB gw gs n nc W S := ⟨h.bk, h.wd, h.sn, h.tch.drewN j⟩
end Go.Proofs.YtcmcfafhllpojabGreat

namespace Go.Proofs.YtcmcfafhllpojabGreat
open Go.RowKit

set_option maxRecDepth 100000 in
set_option maxHeartbeats 3200000 in
theorem kprogram_base (x : Cs) (l : Cl) (d k nc : Nat) (w0 w : World) (h : CaseAt w0 x l) (hb0 : Below w0.heap.size w0 w) (hn : (nc : Int) = x.c.cores) (hc : nc ≤ 3) (hd : d ≤ 4) (hk : k ≤ 3) :
    Calls Tryz.prog 22 #[csV x l, .int .i64 d, .int .i64 k] w fun e w' => ∃ sa len cap, e = .returned (.slice sa len cap) ∧ OpsAt w0 sa len cap (progK x (d * nc + k)) ∧ Below w.heap.size w w' := by
  obtain ⟨s, pa, pl, pc, oa, ol, oc, ma, ml, mc, ra, rl, rc⟩ := l
  have k0 := Kept.start w (csA x ⟨s, pa, pl, pc, oa, ol, oc, ma, ml, mc, ra, rl, rc⟩) 33
  have hmul : (d : Int) * (nc : Int) = ((d * nc : Nat) : Int) := by simp
  have hb1 : d * nc ≤ 12 := by have := Nat.mul_le_mul hd hc; omega
  have HB : Hid (Below w.heap.size w (w.alloc (.cells (csA x ⟨s, pa, pl, pc, oa, ol, oc, ma, ml, mc, ra, rl, rc⟩) 33))) := k0.below
  have c0 : (w.alloc (.cells (csA x ⟨s, pa, pl, pc, oa, ol, oc, ma, ml, mc, ra, rl, rc⟩) 33)).cell? ⟨w.heap.size, 0, none⟩ = some (.int .i64 nc) := by rw [hn]; exact k0.box 0
  have c13 : (w.alloc (.cells (csA x ⟨s, pa, pl, pc, oa, ol, oc, ma, ml, mc, ra, rl, rc⟩) 33)).cell? ⟨w.heap.size, 13, none⟩ = some (.slice pa pl pc) := k0.box 13
  have hpl := h.progs.hlen
  have hple := h.progs.hle
  have hpm := h.progs.hmax
  simp only at hpl hple hpm
  unfold maxLen at hpm
  obtain ⟨q, hq⟩ : ∃ q, d * nc = q := ⟨_, rfl⟩
  rw [hq] at hmul hb1 ⊢
  have HN : Hid _ := hn
  clear hq hn
  obtain ⟨i, hi⟩ : ∃ i, q + k = i := ⟨_, rfl⟩
  rw [hi]
  have hsum : (q : Int) + (k : Int) = (i : Int) := by omega
  have HI : Hid _ := hi
  have hi15 : i ≤ 15 := by omega
  clear hi
  by_cases a1 : i < pl
  · obtain ⟨b, off, ia, il, ic, e1, e2, e3⟩ := h.progs.hat i a1
    simp only at e1
    subst e1
    have HBD0 : b < w0.heap.size := cell_lt e2
    have e2 : w.cell? ⟨b, off + i, none⟩ = some (.slice ia il ic) := (hb0.cell (p := ⟨b, off + i, none⟩) HBD0).trans e2
    have HBD : b < w.heap.size := cell_lt e2
    have HO0 : Hid _ := e3
    have hO : OpsAt (w.alloc (.cells (csA x ⟨s, some ⟨b, off, none⟩, pl, pc, oa, ol, oc, ma, ml, mc, ra, rl, rc⟩) 33)) ia il ic (x.progs.getD i []) := (e3.below hb0 (Nat.le_refl _)).below k0.below (Nat.le_refl _)
    have cp : (w.alloc (.cells (csA x ⟨s, some ⟨b, off, none⟩, pl, pc, oa, ol, oc, ma, ml, mc, ra, rl, rc⟩) 33)).cell? ⟨b, off + i, none⟩ = some (.slice ia il ic) := by rw [k0.below.cell (p := ⟨b, off + i, none⟩) HBD]; exact e2
    have HP : Hid (progK x i = if opsOk (x.progs.getD i []) = true then x.progs.getD i [] else []) := rfl
    obtain ⟨os, hos⟩ : ∃ os, x.progs.getD i [] = os := ⟨_, rfl⟩
    rw [hos] at hO HP HO0
    clear hos e3 e2 k0 h HBD HBD0 hb0
    have hil := hO.hlen
    have hile := hO.hle
    have hilm := hO.hmax
    unfold maxLen at hilm
    by_cases a2 : 64 < il
    · have HR : Hid (progK x i = []) := by
        unfold Hid; rw [HP.out, if_neg]; unfold opsOk; simp; omega
      clear hO
      go_enter Tryz.func22, Tryz.ntmps22
      go_wp2
      go_ret
      refine ⟨_, _, _, rfl, ?_, HB.out⟩
      rw [HR.out]; exact opsAt_nil _
    · have HR : Hid (opsOk os = os.all kindB) := by unfold Hid opsOk; rw [decide_eq_true (by omega)]; rfl
      have HL : Hid _ := hil
      clear hil
      go_enter Tryz.func22, Tryz.ntmps22
      go_wp2_with fail
      generalize hW : w.alloc (.cells (csA x ⟨s, some ⟨b, off, none⟩, pl, pc, oa, ol, oc, ma, ml, mc, ra, rl, rc⟩) 33) = W at *
      clear hW
      go_loop [9] (fun u => ∃ i : Nat, i ≤ il ∧ u = .int .i64 i ∧ (os.take i).all kindB = true) (fun u => il - (intOf u).toNat)
      case atStart => exact ⟨0, by omega, rfl, by simp⟩
      case round =>
        obtain ⟨n, hi, rfl, hall⟩ := hrel
        have HA : Hid _ := hall
        clear hall
        by_cases hlt : n < il
        · obtain ⟨b, off, rfl, e1, _, _⟩ := hO.hat n hlt
          have HS : Hid _ := all_take (os := os) (i := n) (by rw [HL.out]; exact hlt)
          have HF : Hid (kindB (os.getD n opZ) = ((os.getD n opZ).1 == 0 || (os.getD n opZ).1 == 1)) := rfl
          have HN : Hid (kindB (os.getD n opZ) = false → os.all kindB = false) := fun hf => by
            have hm : os.getD n opZ ∈ os := by rw [List.getD_eq_getElem?_getD, List.getElem?_eq_getElem (by rw [HL.out]; exact hlt)]; exact List.getElem_mem _
            rw [List.all_eq_false]
            exact ⟨_, hm, by rw [hf]; simp⟩
          generalize (os.getD n opZ).1 = kd at *
          by_cases b1 : kd = 0
          · have b1b : (kd == 0) = true := by simp [b1]
            have HK : Hid (kindB (os.getD n opZ) = true) := by unfold Hid; rw [HF.out, b1b]; rfl
            subst b1
            clear b1b
            go_wp2
            go_round
            case rel => exact ⟨n + 1, by omega, by go_num, by rw [HS.out, HA.out, HK.out]; rfl⟩
            case measure => simp [intOf]; omega
          · have b1b : (kd == 0) = false := by simp [b1]
            by_cases b2 : kd = 1
            · have b2b : (kd == 1) = true := by simp [b2]
              have HK : Hid (kindB (os.getD n opZ) = true) := by unfold Hid; rw [HF.out, b1b, b2b]; rfl
              subst b2
              clear b1 b1b b2b
              go_wp2
              go_round
              case rel => exact ⟨n + 1, by omega, by go_num, by rw [HS.out, HA.out, HK.out]; rfl⟩
              case measure => simp [intOf]; omega
            · have b2b : (kd == 1) = false := by simp [b2]
              have HK : Hid (os.all kindB = false) := HN.out (by rw [HF.out, b1b, b2b]; rfl)
              have b1c : (kd != 0) = true := by simp [b1]
              have b2c : (kd != 1) = true := by simp [b2]
              go_wp2
              go_ret
              refine ⟨_, _, _, rfl, ?_, HB.out⟩
              rw [HP.out, HR.out, HK.out]; exact opsAt_nil _
        · have HK : Hid (os.all kindB = true) := by have := HA.out; rw [List.take_of_length_le (by rw [HL.out]; omega)] at this; exact this
          go_wp2
          go_ret
          refine ⟨_, _, _, rfl, ?_, HB.out⟩
          rw [HP.out, HR.out, HK.out]; exact HO0.out
  · have HR : Hid (progK x i = []) := by
      unfold Hid progK
      have : x.progs.getD i [] = [] := by rw [List.getD_eq_getElem?_getD, List.getElem?_eq_none (by omega)]; rfl
      rw [this]; rfl
    clear h k0 hb0
    go_enter Tryz.func22, Tryz.ntmps22
    go_wp2
    go_ret
    refine ⟨_, _, _, rfl, ?_, HB.out⟩
    rw [HR.out]; exact opsAt_nil _
end Go.Proofs.YtcmcfafhllpojabGreat
