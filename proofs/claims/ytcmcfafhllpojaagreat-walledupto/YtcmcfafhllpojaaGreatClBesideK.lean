/-
  A case of wallskeep: beside.
-/
import Derived.Test.YtcmcfafhllpojaaGreatClPackAK
import Derived.Deep.RegionLaw
namespace Go.Proofs.YtcmcfafhllpojaaGreat
open Go.RowKit

theorem own_take {os : List OpT} {i : Nat} (h : i < os.length) : os.take (i + 1) = os.take i ++ [os.getD i opZ] := by
  rw [List.take_add_one, List.getElem?_eq_getElem h, List.getD_eq_getElem?_getD, List.getElem?_eq_getElem h]
  rfl

set_option maxRecDepth 100000 in
set_option maxHeartbeats 6400000 in
theorem kbeside_any (x o : Cs) (l lo : Cl) (hz : chk x.c = 0) (d : Nat) (hd : (d : Int) < x.c.domains) (w : World) (hX : CaseAt w x l) (hO : CaseAt w o lo) (h1 : x.own.length ≤ 1000000000) (h2 : o.own.length ≤ 1000000000) :
    Calls Tryz.prog 14 #[csV x l, csV o lo, .int .i64 d] w fun e w' => ∃ ly, e = .returned (csV (besK x o d) ly) ∧ CaseAt w' (besK x o d) ly ∧ Below w.heap.size w w' := by
  have hbA : Below w.heap.size w (((w.alloc (.cells (csA x l) 33)).alloc (.cells (csA o lo) 33)).alloc (.cells zero17.toArray 33)) := (((Below.refl _ _).alloc (Nat.le_refl _) _).alloc (by simp) _).alloc (by simp; omega) _
  have RX : Row (((w.alloc (.cells (csA x l) 33)).alloc (.cells (csA o lo) 33)).alloc (.cells zero17.toArray 33)) w.heap.size (csL x l) 33 := Row.alloc (Row.alloc (heap_alloc_new w _) _) _
  have RO : Row (((w.alloc (.cells (csA x l) 33)).alloc (.cells (csA o lo) 33)).alloc (.cells zero17.toArray 33)) (w.heap.size + 1) (csL o lo) 33 := by
    refine Row.alloc ?_ _
    have := heap_alloc_new (w.alloc (.cells (csA x l) 33)) (.cells (csA o lo) 33)
    rw [World.size_alloc] at this
    exact this
  have RR : Row (((w.alloc (.cells (csA x l) 33)).alloc (.cells (csA o lo) 33)).alloc (.cells zero17.toArray 33)) (w.heap.size + 2) zero17 33 := by
    have := heap_alloc_new ((w.alloc (.cells (csA x l) 33)).alloc (.cells (csA o lo) 33)) (.cells zero17.toArray 33)
    rw [World.size_alloc, World.size_alloc] at this
    exact this
  have hsz : (((w.alloc (.cells (csA x l) 33)).alloc (.cells (csA o lo) 33)).alloc (.cells zero17.toArray 33)).heap.size = w.heap.size + 3 := by simp
  obtain ⟨W3, hW3⟩ : ∃ W3, ((w.alloc (.cells (csA x l) 33)).alloc (.cells (csA o lo) 33)).alloc (.cells zero17.toArray 33) = W3 := ⟨_, rfl⟩
  rw [hW3] at hbA RX RO RR hsz
  have HW3 : Hid _ := hW3
  have HSZ : Hid _ := hsz
  have HBA : Hid _ := hbA
  have HRX : Hid (Row W3 w.heap.size (csL x l) 33) := RX
  have HRO : Hid (Row W3 (w.heap.size + 1) (csL o lo) 33) := RO
  have HRR : Hid (Row W3 (w.heap.size + 2) zero17 33) := RR
  have HX : Hid _ := hX
  have HO : Hid _ := hO
  have HZ : Hid _ := hz
  clear hW3 hsz hbA RO RR hX hO hz
  go_enter Tryz.func14, Tryz.ntmps14
  go_upto_region 1 with fail
  rw [HW3.out]
  go_cut [7] (fun u wx => u = .pointer (some ⟨w.heap.size + 3, 0, none⟩) ∧ BS w wx x l (csL o lo) (mk17 x l none 0 0 none 0 0))
  case first =>
    obtain ⟨x0, x1, x2, x3, x4, x5, x6, x7, x8, x9, x10, x11, x12⟩ := cs_cells RX
    have x15 : W3.cell? ⟨w.heap.size, 15, none⟩ = some (.slice l.ma l.ml l.mc) := RX.cell 15
    have x16 : W3.cell? ⟨w.heap.size, 16, none⟩ = some (.slice l.ra l.rl l.rc) := RX.cell 16
    have lx := RX.lt
    go_wp2_with fail
    go_meet
    have hbN : Below W3.heap.size W3 (W3.alloc (.cells (mk17 x l none 0 0 none 0 0).toArray 33)) := (Below.refl _ _).alloc (Nat.le_refl _) _
    have RY : Row (W3.alloc (.cells (mk17 x l none 0 0 none 0 0).toArray 33)) (w.heap.size + 3) (mk17 x l none 0 0 none 0 0) 33 := by
      have := heap_alloc_new W3 (.cells (mk17 x l none 0 0 none 0 0).toArray 33)
      rw [HSZ.out] at this
      exact this
    exact ⟨by rw [HSZ.out], Row.alloc HRX.out _, Row.alloc HRO.out _, Row.alloc HRR.out _, RY, below_step HBA.out hbN rfl⟩
  case rest =>
    obtain ⟨rfl, B1⟩ := hcut
    have HB1 : Hid _ := B1
    clear RX HRX HRO HRR HBA HSZ HW3
    go_upto_region 2 with fail
    go_cut [] (fun wx => BS w wx x l (ocL x l o lo) (mk17 x l none 0 0 none 0 0))
    case first =>
      obtain ⟨x0, x1, x2, x3, x4, x5, x6, x7, x8, x9, x10, x11, x12⟩ := cs_cells B1.bx
      have o0 : wc.cell? ⟨w.heap.size + 1, 0, none⟩ = some (.int .i64 o.c.cores) := B1.bo.cell 0
      have f0 : wc.frozen? ⟨w.heap.size + 1, 0, none⟩ = false := B1.bo.frozen 0
      have o1 : wc.cell? ⟨w.heap.size + 1, 1, none⟩ = some (.int .i64 o.c.domains) := B1.bo.cell 1
      have f1 : wc.frozen? ⟨w.heap.size + 1, 1, none⟩ = false := B1.bo.frozen 1
      have o2 : wc.cell? ⟨w.heap.size + 1, 2, none⟩ = some (.int .i64 o.c.line) := B1.bo.cell 2
      have f2 : wc.frozen? ⟨w.heap.size + 1, 2, none⟩ = false := B1.bo.frozen 2
      have o3 : wc.cell? ⟨w.heap.size + 1, 3, none⟩ = some (.int .i64 o.c.priv) := B1.bo.cell 3
      have f3 : wc.frozen? ⟨w.heap.size + 1, 3, none⟩ = false := B1.bo.frozen 3
      have o4 : wc.cell? ⟨w.heap.size + 1, 4, none⟩ = some (.int .i64 o.c.shared) := B1.bo.cell 4
      have f4 : wc.frozen? ⟨w.heap.size + 1, 4, none⟩ = false := B1.bo.frozen 4
      have o5 : wc.cell? ⟨w.heap.size + 1, 5, none⟩ = some (.int .i64 o.c.near) := B1.bo.cell 5
      have f5 : wc.frozen? ⟨w.heap.size + 1, 5, none⟩ = false := B1.bo.frozen 5
      have o6 : wc.cell? ⟨w.heap.size + 1, 6, none⟩ = some (.int .i64 o.c.sets) := B1.bo.cell 6
      have f6 : wc.frozen? ⟨w.heap.size + 1, 6, none⟩ = false := B1.bo.frozen 6
      have o7 : wc.cell? ⟨w.heap.size + 1, 7, none⟩ = some (.slice lo.s.wa lo.s.wl lo.s.wc) := B1.bo.cell 7
      have f7 : wc.frozen? ⟨w.heap.size + 1, 7, none⟩ = false := B1.bo.frozen 7
      have o8 : wc.cell? ⟨w.heap.size + 1, 8, none⟩ = some (.int .i64 o.c.slot) := B1.bo.cell 8
      have f8 : wc.frozen? ⟨w.heap.size + 1, 8, none⟩ = false := B1.bo.frozen 8
      have o9 : wc.cell? ⟨w.heap.size + 1, 9, none⟩ = some (.slice lo.s.sa lo.s.sl lo.s.sc) := B1.bo.cell 9
      have f9 : wc.frozen? ⟨w.heap.size + 1, 9, none⟩ = false := B1.bo.frozen 9
      have o10 : wc.cell? ⟨w.heap.size + 1, 10, none⟩ = some (.slice lo.s.ta lo.s.tl lo.s.tc) := B1.bo.cell 10
      have f10 : wc.frozen? ⟨w.heap.size + 1, 10, none⟩ = false := B1.bo.frozen 10
      have o11 : wc.cell? ⟨w.heap.size + 1, 11, none⟩ = some (.int .i64 o.c.quantum) := B1.bo.cell 11
      have f11 : wc.frozen? ⟨w.heap.size + 1, 11, none⟩ = false := B1.bo.frozen 11
      have o12 : wc.cell? ⟨w.heap.size + 1, 12, none⟩ = some (.int .i64 o.c.flush) := B1.bo.cell 12
      have f12 : wc.frozen? ⟨w.heap.size + 1, 12, none⟩ = false := B1.bo.frozen 12
      have lb1 := B1.bx.lt
      have lb2 := B1.bo.lt
      clear B1
      go_wp2_with fail
      go_meet
      exact (((((((((((((HB1.out).setO 0 (.int .i64 x.c.cores)).setO 1 (.int .i64 x.c.domains)).setO 2 (.int .i64 x.c.line)).setO 3 (.int .i64 x.c.priv)).setO 4 (.int .i64 x.c.shared)).setO 5 (.int .i64 x.c.near)).setO 6 (.int .i64 x.c.sets)).setO 7 (.slice l.s.wa l.s.wl l.s.wc)).setO 8 (.int .i64 x.c.slot)).setO 9 (.slice l.s.sa l.s.sl l.s.sc)).setO 10 (.slice l.s.ta l.s.tl l.s.tc)).setO 11 (.int .i64 x.c.quantum)).setO 12 (.int .i64 x.c.flush)
    case rest =>
      have B2 := hcut
      clear B1 HB1
      obtain ⟨j0, hj0, hy0, hy1, hy2⟩ := info_parts Tryz.infoOpsB
      have R := right_of HZ.out
      obtain ⟨nc, hnc⟩ : ∃ nc, x.c.cores.toNat = nc := ⟨_, rfl⟩
      obtain ⟨nd, hnd⟩ : ∃ nd, x.c.domains.toNat = nd := ⟨_, rfl⟩
      have HEC : Hid ((nc : Int) = x.c.cores) := by unfold Hid; have := R.c1; omega
      have HED : Hid ((nd : Int) = x.c.domains) := by unfold Hid; have := R.d1; omega
      have hc3 : nc ≤ 3 := by have := R.c2; omega
      have hc1 : 1 ≤ nc := by have := R.c1; omega
      have hd4 : nd ≤ 4 := by have := R.d2; omega
      have HCO : Hid (CaseAt w ⟨x.c, o.progs, o.own, o.com, o.runs⟩ ⟨l.s, lo.pa, lo.pl, lo.pc, lo.oa, lo.ol, lo.oc, lo.ma, lo.ml, lo.mc, lo.ra, lo.rl, lo.rc⟩) := ⟨HX.out.cfg, HO.out.progs, HO.out.own, HO.out.com, HO.out.runs⟩
      have HP0 : Hid (PS w wc x l o lo d nc 0 none 0 (fun _ => none) (fun _ => 0) (fun _ => 0)) := ⟨B2, by simp [World.ownsRow], fun j hj => by omega, by have := B2.by'.lt; omega⟩
      have HNC : Hid _ := hnc
      have HND : Hid _ := hnd
      clear B2 hcut R hnc hnd
      go_wp2_with fail
      go_loopw [8] (fun u wr => ∃ (I : Nat) (pa : Option Addr) (pc : Nat) (A : Nat → Option Addr) (Ln Cp : Nat → Nat), I ≤ nd ∧ u = .int .i64 I ∧ PS w wr x l o lo d nc (I * nc) pa pc A Ln Cp) (fun u _ => nd - (intOf u).toNat)
      case atStart => exact ⟨0, none, 0, _, _, _, by omega, rfl, by rw [Nat.zero_mul]; exact HP0.out⟩
      case round =>
        obtain ⟨I, pa, pc, A, Ln, Cp, hI, rfl, P⟩ := hrel
        have HP : Hid _ := P
        by_cases hlt : I < nd
        · have y1 : wr.cell? ⟨w.heap.size, 1, none⟩ = some (.int .i64 nd) := by rw [HED.out]; exact P.bs.bx.cell 1
          have lbx := P.bs.bx.lt
          clear P
          go_wp2_with fail
          go_loopw [9] (fun u wr => ∃ (K : Nat) (pa : Option Addr) (pc : Nat) (A : Nat → Option Addr) (Ln Cp : Nat → Nat), K ≤ nc ∧ u = .int .i64 K ∧ PS w wr x l o lo d nc (I * nc + K) pa pc A Ln Cp) (fun u _ => nc - (intOf u).toNat)
          case atStart => exact ⟨0, pa, pc, A, Ln, Cp, by omega, rfl, HP.out⟩
          case round =>
            obtain ⟨K, pa, pc, A, Ln, Cp, hK, rfl, P⟩ := hrel
            have HPK : Hid _ := P
            have y0 : wr.cell? ⟨w.heap.size, 0, none⟩ = some (.int .i64 nc) := by rw [HEC.out]; exact P.bs.bx.cell 0
            have lbx := P.bs.bx.lt
            by_cases hlk : K < nc
            · have hb12 : I * nc ≤ 12 := by have := Nat.mul_le_mul (show I ≤ 4 by omega) hc3; omega
              have hdiv : (I * nc + K) / nc = I := by rw [Nat.mul_comm, Nat.mul_add_div (by omega), Nat.div_eq_of_lt hlk]; omega
              have LM : Hid (I * nc + K + 1 ≤ maxLen) := by unfold Hid maxLen; omega
              have L8 : Hid ((I * nc + K + 1) * 24 ≤ 140737488355328) := by unfold Hid; omega
              have hPo := kprog_at ⟨x.c, o.progs, o.own, o.com, o.runs⟩ ⟨l.s, lo.pa, lo.pl, lo.pc, lo.oa, lo.ol, lo.oc, lo.ma, lo.ml, lo.mc, lo.ra, lo.rl, lo.rc⟩ I K nc w wr HCO.out P.bs.bel HEC.out hc3 (by omega) (by omega)
              have hrowO := P.bs.bo
              have HDIV : Hid _ := hdiv
              clear P hb12 hdiv
              go_wp2_with (refine wpList_load_row (by rfl) 33 (.tmp 4) (by rfl) (w.heap.size + 1) (by rfl) 33 (ocL x l o lo).toArray (0, 0) _ hrowO Tryz.underlying33 (by rfl) (size_case ⟨x.c, o.progs, o.own, o.com, o.runs⟩ ⟨l.s, lo.pa, lo.pl, lo.pc, lo.oa, lo.ol, lo.oc, lo.ma, lo.ml, lo.mc, lo.ra, lo.rl, lo.rc⟩) ?_)
              refine hPo.mono ?_; rintro e w1 ⟨sa, len, cap, rfl, hO1, hb1⟩
              have V1 := HPK.out.below hb1
              have hsl := hO1.hle
              have hsm := hO1.hmax
              unfold maxLen at hsm
              by_cases hId : I = d
              · subst hId
                have hPx := kprog_at x l I K nc w w1 HX.out V1.bs.bel HEC.out hc3 (by omega) (by omega)
                have hrowX := V1.bs.bx
                have HV1 : Hid _ := V1
                clear hPo hrowO hO1 hb1 V1 y0 hsl hsm
                go_wp2_with (refine wpList_load_row (by rfl) 33 (.tmp 3) (by rfl) w.heap.size (by rfl) 33 (csL x l).toArray (0, 0) _ hrowX Tryz.underlying33 (by rfl) (size_case x l) ?_)
                refine hPx.mono ?_; rintro e w2 ⟨sa, len, cap, rfl, hO2, hb2⟩
                have HV : Hid _ := HV1.out.below hb2
                have HOP : Hid (OpsAt w sa len cap (if (I * nc + K) / nc = I then progK x (I * nc + K) else progK o (I * nc + K))) := by unfold Hid; rw [if_pos HDIV.out]; exact hO2
                clear hPx hrowX hO2 hb2
                have cb : w2.cell? ⟨w.heap.size + 3, 13, none⟩ = some (.slice pa (I * nc + K) pc) := HV.out.bs.by'.cell 13
                have fb := HV.out.bs.by'.frozen 13
                have lb := HV.out.bs.by'.lt
                have HRJ : Hid _ := HV.out.own
                have hszv := HV.out.siz
                go_wp2_with (at_builtin; refine wpList_append_lies _ rfl _ _ 30 rfl (w.heap.size + 4) 53 j0 _ 1 24 Tryz.underlying30 hj0 hy0 hy1 hy2 rfl (by decide) (.slice pa (I * nc + K) pc) (I * nc + K) ((List.range (I * nc + K)).map fun j => .slice (A j) (Ln j) (Cp j)) rfl ?p1 ⟨w2.heap.size, 0, none⟩ 1 1 [.slice sa len cap] ?p9 rfl ?p3 ?p4 (by omega) ?p5 ?p6 ?p7 _ rfl ?p8)
                case p1 => exact World.ownsRow.alloc HRJ.out _
                try case p3 => exact World.news_of_block (cs := #[.slice sa len cap]) (t := 53) (fr := (0, 0)) (heap_alloc_new w2 _)
                case p4 => simp [Value.oneCell']
                case p5 => exact LM.out
                case p6 => exact L8.out
                case p7 => simp; omega
                try case p9 => rfl
                case p8 =>
                  intro gg cap2 w4 hown4 hgrow4 hat4 hlt4
                  obtain ⟨B4, P4⟩ := HV.out.more HOP.out hgrow4 hown4
                  have c4 : w4.cell? ⟨w.heap.size + 3, 13, none⟩ = some (.slice pa (I * nc + K) pc) := B4.by'.cell 13
                  have f4 := B4.by'.frozen 13
                  have HP4 : Hid _ := P4
                  clear hown4 hgrow4 hat4 B4 P4 cb fb lb
                  go_wp2_with fail
                  go_roundw
                  case rel => first | exact ⟨K + 1, _, _, _, _, _, by omega, by go_num, HP4.out⟩ | ((repeat apply Exists.intro); exact ⟨⟨K + 1, _, _, _, _, _, by omega, by go_num, HP4.out⟩, rfl⟩)
                  case measure => simp [intOf]; omega
              · have hId1 : ((I : Int) == (d : Int)) = false := by simp; omega
                have HV : Hid _ := V1
                have HOP : Hid (OpsAt w sa len cap (if (I * nc + K) / nc = d then progK x (I * nc + K) else progK o (I * nc + K))) := by unfold Hid; rw [if_neg (by rw [HDIV.out]; exact hId)]; exact hO1
                clear hPo hrowO hO1 hb1 V1 y0 hsl hsm
                have cb : w1.cell? ⟨w.heap.size + 3, 13, none⟩ = some (.slice pa (I * nc + K) pc) := HV.out.bs.by'.cell 13
                have fb := HV.out.bs.by'.frozen 13
                have lb := HV.out.bs.by'.lt
                have HRJ : Hid _ := HV.out.own
                have hszv := HV.out.siz
                go_wp2_with (at_builtin; refine wpList_append_lies _ rfl _ _ 30 rfl (w.heap.size + 4) 53 j0 _ 1 24 Tryz.underlying30 hj0 hy0 hy1 hy2 rfl (by decide) (.slice pa (I * nc + K) pc) (I * nc + K) ((List.range (I * nc + K)).map fun j => .slice (A j) (Ln j) (Cp j)) rfl ?p1 ⟨w1.heap.size, 0, none⟩ 1 1 [.slice sa len cap] ?p9 rfl ?p3 ?p4 (by omega) ?p5 ?p6 ?p7 _ rfl ?p8)
                case p1 => exact World.ownsRow.alloc HRJ.out _
                try case p3 => exact World.news_of_block (cs := #[.slice sa len cap]) (t := 53) (fr := (0, 0)) (heap_alloc_new w1 _)
                case p4 => simp [Value.oneCell']
                case p5 => exact LM.out
                case p6 => exact L8.out
                case p7 => simp; omega
                try case p9 => rfl
                case p8 =>
                  intro gg cap2 w4 hown4 hgrow4 hat4 hlt4
                  obtain ⟨B4, P4⟩ := HV.out.more HOP.out hgrow4 hown4
                  have c4 : w4.cell? ⟨w.heap.size + 3, 13, none⟩ = some (.slice pa (I * nc + K) pc) := B4.by'.cell 13
                  have f4 := B4.by'.frozen 13
                  have HP4 : Hid _ := P4
                  clear hown4 hgrow4 hat4 B4 P4 cb fb lb
                  go_wp2_with fail
                  go_roundw
                  case rel => first | exact ⟨K + 1, _, _, _, _, _, by omega, by go_num, HP4.out⟩ | ((repeat apply Exists.intro); exact ⟨⟨K + 1, _, _, _, _, _, by omega, by go_num, HP4.out⟩, rfl⟩)
                  case measure => simp [intOf]; omega
            · have eK : K = nc := by omega
              have HPN : Hid (PS w wr x l o lo d nc ((I + 1) * nc) pa pc A Ln Cp) := by
                unfold Hid
                rw [Nat.succ_mul, ← eK]
                rw [← eK] at P
                exact P
              clear P eK
              go_wp2_with fail
              go_roundw
              case rel => first | exact ⟨I + 1, pa, pc, A, Ln, Cp, by omega, by go_num, HPN.out⟩ | ((repeat apply Exists.intro); exact ⟨⟨I + 1, pa, pc, A, Ln, Cp, by omega, by go_num, HPN.out⟩, rfl⟩)
              case measure => simp [intOf]; omega
        · have y1 : wr.cell? ⟨w.heap.size, 1, none⟩ = some (.int .i64 nd) := by rw [HED.out]; exact P.bs.bx.cell 1
          have eI : I = nd := by omega
          have HQ0 : Hid (QS w wr x l o lo (I * nc) pa pc ((List.range (I * nc)).map fun j => .slice (A j) (Ln j) (Cp j)) none 0 ((x.own.take 0).filter fun c => c.1 == (d : Int))) := ⟨P.bs, P.own, by simp [World.ownsRow], P.siz⟩
          have HOPS : Hid _ := P.ops
          have HEI : Hid _ := eI
          have HXL : Hid _ := HX.out.own.hlen
          have hxl : l.ol ≤ 1000000000 := by rw [← HX.out.own.hlen]; exact h1
          have hxm := HX.out.own.hmax
          have hxe := HX.out.own.hle
          unfold maxLen at hxm
          obtain ⟨k0, hk0, hu0, hu1, hu2⟩ := info_parts Tryz.infoCellB
          obtain ⟨SV, hSV⟩ : ∃ SV : List Value, ((List.range (I * nc)).map fun j => Value.slice (A j) (Ln j) (Cp j)) = SV := ⟨_, rfl⟩
          rw [hSV] at HQ0
          have HSV : Hid _ := hSV
          clear P eI hSV
          go_wp2_with fail
          go_loopw [11] (fun u wr => ∃ (i : Nat) (oa : Option Addr) (oc : Nat), i ≤ l.ol ∧ u = .int .i64 i ∧ QS w wr x l o lo (I * nc) pa pc SV oa oc ((x.own.take i).filter fun c => c.1 == (d : Int))) (fun u _ => l.ol - (intOf u).toNat)
          case atStart => exact ⟨0, none, 0, by omega, rfl, HQ0.out⟩
          case round =>
            obtain ⟨i, oa, oc, hi, rfl, Q⟩ := hrel
            have HQ : Hid _ := Q
            by_cases hlt : i < l.ol
            · obtain ⟨b, off, hoa, e1, e2, e3⟩ := (HX.out.below Q.bs.bel (Nat.le_refl _)).own.hat i hlt
              have y14 : wr.cell? ⟨w.heap.size, 14, none⟩ = some (.slice (some ⟨b, off, none⟩) l.ol l.oc) := by rw [← hoa]; exact Q.bs.bx.cell 14
              have lb := cell_lt e1
              have lx := Q.bs.bx.lt
              have ly := Q.bs.by'.lt
              have HTK : Hid _ := own_take (os := x.own) (i := i) (by rw [HXL.out]; exact hlt)
              obtain ⟨c, hc⟩ : ∃ c, x.own.getD i opZ = c := ⟨_, rfl⟩
              rw [hc] at e1 e2 e3 HTK
              obtain ⟨c1, c2, c3⟩ := c
              simp only at e1 e2 e3
              have hcl : ((x.own.take i).filter fun c => c.1 == (d : Int)).length ≤ i := Nat.le_trans (List.length_filter_le _ _) (by rw [List.length_take]; omega)
              clear hoa hc
              by_cases hcd : c1 = (d : Int)
              · subst hcd
                have HF : Hid ((x.own.take (i + 1)).filter (fun c => c.1 == (d : Int)) = ((x.own.take i).filter fun c => c.1 == (d : Int)) ++ [((d : Int), c2, c3)]) := by unfold Hid; rw [HTK.out, List.filter_append]; simp
                obtain ⟨cs, hcs⟩ : ∃ cs, ((x.own.take i).filter fun c => c.1 == (d : Int)) = cs := ⟨_, rfl⟩
                rw [hcs] at HQ HF hcl Q
                have z14 : wr.cell? ⟨w.heap.size + 3, 14, none⟩ = some (.slice oa cs.length oc) := Q.bs.by'.cell 14
                have f14 := Q.bs.by'.frozen 14
                clear Q hcs HTK
                go_wp2_with fail
                have LM : Hid (cs.length + 1 ≤ maxLen) := by unfold Hid maxLen; omega
                have L8 : Hid ((cs.length + 1) * 24 ≤ 140737488355328) := by unfold Hid; omega
                have hsz := HQ.out.siz
                have HD : Hid _ := HQ.out.below ((Below.refl wr.heap.size wr).drew)
                have hi0 : (0 : Int) ≤ (i : Int) := by omega
                have hi1 : (i : Int) < (l.ol : Int) := by omega
                go_region_law
                  ((refine step_append_lies _ (by rfl) _ _ _ (by rfl) (w.heap.size + 4) 71 k0 _ 3 24 Tryz.underlying31 hk0 hu0 hu1 hu2 rfl (by omega) (.slice oa cs.length oc) cs.length (cs.flatMap opL) (by rfl) ((World.ownsRow.alloc HQ.out.own _).drew)
                      ⟨wr.heap.size, 0, none⟩ 1 1 [.int .i64 (d : Int), .int .i64 c2, .int .i64 c3] (by rfl) (by rfl) (World.news_of_block (cs := #[.int .i64 (d : Int), .int .i64 c2, .int .i64 c3]) (t := 71) (fr := (0, 0)) (heap_alloc_new wr _)) (by simp [Value.oneCell'])
                      (by omega) LM.out L8.out (by simp; omega) (wr.heap.size + 1) (by simp) ?_; intro gg cap2 w4 hown4 hgrow4 hat4 hlt4; have M4 := QS.more (c := ((d : Int), c2, c3)) HD.out (by exact hgrow4) (by exact hown4); have c4 : w4.cell? ⟨w.heap.size + 3, 14, none⟩ = some (.slice oa cs.length oc) := M4.1.by'.cell 14; have f4 := M4.1.by'.frozen 14))
                all_goals
                  have HM4 : Hid _ := M4.2
                  clear M4 hown4 hgrow4 hat4 c4 f4 e1 e2 e3 y14 z14 f14
                all_goals go_wp2_with fail
                all_goals go_roundw
                all_goals try (case rel => first | exact ⟨i + 1, _, _, by omega, by go_num, by rw [HF.out]; exact HM4.out⟩ | ((repeat apply Exists.intro); exact ⟨⟨i + 1, _, _, by omega, by go_num, by rw [HF.out]; exact HM4.out⟩, rfl⟩))
                all_goals try (case measure => simp [intOf]; omega)
              · have hcd1 : (c1 == (d : Int)) = false := by simp [hcd]
                have HF : Hid ((x.own.take (i + 1)).filter (fun c => c.1 == (d : Int)) = (x.own.take i).filter fun c => c.1 == (d : Int)) := by unfold Hid; rw [HTK.out, List.filter_append]; simp [hcd]
                clear Q HTK hcl
                go_wp2_with fail
                go_roundw
                case rel => exact ⟨i + 1, oa, oc, by omega, by go_num, by rw [HF.out]; exact HQ.out⟩
                case measure => simp [intOf]; omega
            · have y14 : wr.cell? ⟨w.heap.size, 14, none⟩ = some (.slice l.oa l.ol l.oc) := Q.bs.bx.cell 14
              have lx := Q.bs.bx.lt
              obtain ⟨cs0, hcs0⟩ : ∃ cs0, x.own.filter (fun c => c.1 == (d : Int)) = cs0 := ⟨_, rfl⟩
              have hcl0 : cs0.length ≤ 1000000000 := by rw [← hcs0]; exact Nat.le_trans (List.length_filter_le _ _) h1
              have HQ1 : Hid (QS w wr x l o lo (I * nc) pa pc SV oa oc (cs0 ++ (o.own.take 0).filter fun c => c.1 != (d : Int))) := by
                have q := HQ.out
                rw [List.take_of_length_le (by rw [HXL.out]; omega), hcs0] at q
                unfold Hid
                simpa using q
              have HCS0 : Hid _ := hcs0
              have HOL : Hid _ := HO.out.own.hlen
              have hol : lo.ol ≤ 1000000000 := by rw [← HO.out.own.hlen]; exact h2
              have hom := HO.out.own.hmax
              have hoe := HO.out.own.hle
              unfold maxLen at hom
              clear Q hcs0 HQ
              go_wp2_with fail
              go_loopw [12] (fun u wr => ∃ (i : Nat) (oa : Option Addr) (oc : Nat), i ≤ lo.ol ∧ u = .int .i64 i ∧ QS w wr x l o lo (I * nc) pa pc SV oa oc (cs0 ++ (o.own.take i).filter fun c => c.1 != (d : Int))) (fun u _ => lo.ol - (intOf u).toNat)
              case atStart => exact ⟨0, oa, oc, by omega, rfl, HQ1.out⟩
              case round =>
                obtain ⟨i, oa, oc, hi, rfl, Q⟩ := hrel
                have HQ : Hid _ := Q
                by_cases hlt : i < lo.ol
                · obtain ⟨b, off, hoa, e1, e2, e3⟩ := (HO.out.below Q.bs.bel (Nat.le_refl _)).own.hat i hlt
                  have y14 : wr.cell? ⟨w.heap.size + 1, 14, none⟩ = some (.slice (some ⟨b, off, none⟩) lo.ol lo.oc) := by rw [← hoa]; exact Q.bs.bo.cell 14
                  have lb := cell_lt e1
                  have lx := Q.bs.bo.lt
                  have ly := Q.bs.by'.lt
                  have HTK : Hid _ := own_take (os := o.own) (i := i) (by rw [HOL.out]; exact hlt)
                  obtain ⟨c, hc⟩ : ∃ c, o.own.getD i opZ = c := ⟨_, rfl⟩
                  rw [hc] at e1 e2 e3 HTK
                  obtain ⟨c1, c2, c3⟩ := c
                  simp only at e1 e2 e3
                  have hcl : (cs0 ++ (o.own.take i).filter fun c => c.1 != (d : Int)).length ≤ 1000000000 + i := by
                    have : ((o.own.take i).filter fun c => c.1 != (d : Int)).length ≤ i := Nat.le_trans (List.length_filter_le _ _) (by rw [List.length_take]; omega)
                    rw [List.length_append]
                    omega
                  clear hoa hc
                  by_cases hcd : c1 = (d : Int)
                  · have HF : Hid ((o.own.take (i + 1)).filter (fun c => c.1 != (d : Int)) = (o.own.take i).filter fun c => c.1 != (d : Int)) := by unfold Hid; rw [HTK.out, List.filter_append]; simp [hcd]
                    subst hcd
                    clear Q HTK hcl
                    go_wp2_with fail
                    go_roundw
                    case rel => exact ⟨i + 1, oa, oc, by omega, by go_num, by rw [HF.out]; exact HQ.out⟩
                    case measure => simp [intOf]; omega
                  · have hcd1 : (c1 != (d : Int)) = true := by simp [hcd]
                    have HF : Hid (cs0 ++ (o.own.take (i + 1)).filter (fun c => c.1 != (d : Int)) = (cs0 ++ (o.own.take i).filter fun c => c.1 != (d : Int)) ++ [(c1, c2, c3)]) := by unfold Hid; rw [HTK.out, List.filter_append, List.append_assoc]; simp [hcd]
                    obtain ⟨cs, hcs⟩ : ∃ cs, (cs0 ++ (o.own.take i).filter fun c => c.1 != (d : Int)) = cs := ⟨_, rfl⟩
                    rw [hcs] at HQ HF hcl Q
                    have z14 : wr.cell? ⟨w.heap.size + 3, 14, none⟩ = some (.slice oa cs.length oc) := Q.bs.by'.cell 14
                    have f14 := Q.bs.by'.frozen 14
                    clear Q hcs HTK hcd
                    go_wp2_with fail
                    have LM : Hid (cs.length + 1 ≤ maxLen) := by unfold Hid maxLen; omega
                    have L8 : Hid ((cs.length + 1) * 24 ≤ 140737488355328) := by unfold Hid; omega
                    have hsz := HQ.out.siz
                    have HD : Hid _ := HQ.out.below ((Below.refl wr.heap.size wr).drew)
                    have hi0 : (0 : Int) ≤ (i : Int) := by omega
                    have hi1 : (i : Int) < (lo.ol : Int) := by omega
                    go_region_law
                      ((refine step_append_lies _ (by rfl) _ _ _ (by rfl) (w.heap.size + 4) 71 k0 _ 3 24 Tryz.underlying31 hk0 hu0 hu1 hu2 rfl (by omega) (.slice oa cs.length oc) cs.length (cs.flatMap opL) (by rfl) ((World.ownsRow.alloc HQ.out.own _).drew)
                          ⟨wr.heap.size, 0, none⟩ 1 1 [.int .i64 c1, .int .i64 c2, .int .i64 c3] (by rfl) (by rfl) (World.news_of_block (cs := #[.int .i64 c1, .int .i64 c2, .int .i64 c3]) (t := 71) (fr := (0, 0)) (heap_alloc_new wr _)) (by simp [Value.oneCell'])
                          (by omega) LM.out L8.out (by simp; omega) (wr.heap.size + 1) (by simp) ?_; intro gg cap2 w4 hown4 hgrow4 hat4 hlt4; have M4 := QS.more (c := (c1, c2, c3)) HD.out (by exact hgrow4) (by exact hown4); have c4 : w4.cell? ⟨w.heap.size + 3, 14, none⟩ = some (.slice oa cs.length oc) := M4.1.by'.cell 14; have f4 := M4.1.by'.frozen 14))
                    all_goals
                      have HM4 : Hid _ := M4.2
                      clear M4 hown4 hgrow4 hat4 c4 f4 e1 e2 e3 y14 z14 f14
                    all_goals go_wp2_with fail
                    all_goals go_roundw
                    all_goals try (case rel => first | exact ⟨i + 1, _, _, by omega, by go_num, by rw [HF.out]; exact HM4.out⟩ | ((repeat apply Exists.intro); exact ⟨⟨i + 1, _, _, by omega, by go_num, by rw [HF.out]; exact HM4.out⟩, rfl⟩))
                    all_goals try (case measure => simp [intOf]; omega)
                · have y14 : wr.cell? ⟨w.heap.size + 1, 14, none⟩ = some (.slice lo.oa lo.ol lo.oc) := Q.bs.bo.cell 14
                  have HQ2 : Hid (QS w wr x l o lo (I * nc) pa pc SV oa oc (besO x o d)) := by
                    unfold Hid besO
                    rw [HCS0.out]
                    rw [List.take_of_length_le (by rw [HOL.out]; omega)] at Q
                    exact Q
                  have lx := Q.bs.bo.lt
                  have ly := Q.bs.by'.lt
                  have hrowY : Row wr (w.heap.size + 3) (mk17 x l pa (I * nc) pc oa (besO x o d).length oc) 33 := HQ2.out.bs.by'
                  have hrowR : Row wr (w.heap.size + 1 + 1) zero17 33 := HQ2.out.bs.br
                  obtain ⟨nb, hnb⟩ : ∃ nb, (besO x o d).length = nb := ⟨_, rfl⟩
                  rw [hnb] at hrowY
                  have HNB : Hid _ := hnb
                  have HS1 : Hid ((Tryz.prog.info? 33).map (·.size) = some (mk17 x l pa (I * nc) pc oa nb oc).toArray.size) := by unfold Hid; rw [show (mk17 x l pa (I * nc) pc oa nb oc).toArray.size = 17 by simp]; exact Tryz.sizeCaseB
                  have HS2 : Hid (zero17.toArray.size = (mk17 x l pa (I * nc) pc oa nb oc).toArray.size) := by unfold Hid; simp
                  have HS3 : Hid ((mk17 x l pa (I * nc) pc oa nb oc).toArray.all (·.oneCell') = true) := by unfold Hid; simp [Value.oneCell']
                  clear Q HQ hnb
                  go_wp2_with (first
                    | (refine wpList_load_row (by rfl) 33 (.tmp 7) (by rfl) (w.heap.size + 3) (by rfl) 33 (mk17 x l pa (I * nc) pc oa nb oc).toArray (0, 0) _ hrowY Tryz.underlying33 (by rfl) HS1.out ?_)
                    | (refine Go.wpList_store_rowTo (by rfl) 33 (.tmp 6) (.tmp 104) (by rfl) (by rfl) (w.heap.size + 1 + 1) (mk17 x l pa (I * nc) pc oa nb oc).toArray (by rfl) (by rfl) 33 zero17.toArray hrowR HS1.out HS2.out HS3.out ?_))
                  have hld := run_loadVar_row (P := Tryz.prog) (wr.setRow (w.heap.size + 1 + 1) (mk17 x l pa (I * nc) pc oa nb oc).toArray) (w.heap.size + 1 + 1) 33 33 (mk17 x l pa (I * nc) pc oa nb oc).toArray (0, 0) _ (row_setRow hrowR _) Tryz.underlying33 rfl HS1.out
                  have hld2 := run_loadVar_row (P := Tryz.prog) (wr.setRow (w.heap.size + 2) (mk17 x l pa (I * nc) pc oa nb oc).toArray) (w.heap.size + 2) 33 33 (mk17 x l pa (I * nc) pc oa nb oc).toArray (0, 0) _ (row_setRow (show Row wr (w.heap.size + 2) zero17 33 from hrowR) _) Tryz.underlying33 rfl HS1.out
                  refine bodyPost_ret (v := .agg (mk17 x l pa (I * nc) pc oa nb oc).toArray) ?_ rfl ?_
                  · first
                      | (simp [results, Tryz.results14, Act.put, asAddr, hld]; done)
                      | (simp [results, Tryz.results14, Act.put, asAddr, hld2]; done)
                      | (simp [results, Tryz.results14, Act.put, asAddr, go_sem, hld2]; done)
                      | (simp [results, Tryz.results14, Act.put, asAddr, go_sem, hld]; done)
                  · have eI : I = x.c.domains.toNat := HEI.out.trans HND.out.symm
                    have hq := HQ2.out
                    unfold Hid at hq
                    rw [← HSV.out] at hq
                    have hops := HOPS.out
                    unfold Hid at hops
                    have hnb := HNB.out
                    unfold Hid at hnb
                    subst eI
                    subst hnb
                    have := hq.case (cs := mk17 x l pa (x.c.domains.toNat * nc) pc oa (besO x o d).length oc) HX.out HNC.out hops
                    exact ⟨_, rfl, this.1, this.2⟩
end Go.Proofs.YtcmcfafhllpojaaGreat
