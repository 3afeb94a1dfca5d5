/-
  The lists that came out still read as the caller has written them: looks.
-/
import Derived.Test.YtehheaedbnfidaaGreatClOutsM
import Derived.Test.YtehheaedbnfidaaGreatClRefS9
namespace Go.Proofs.YtehheaedbnfidaaGreat
open Go.RowKit

def markE (i : Nat) : List Value := [.int .i64 (-1000 - i), .int .i64 (-1000 - i), .int .i64 (-1000 - i), .int .i64 (-1000 - i), .int .i64 (-1000 - i), .int .i64 (-1000 - i)]
def markP (i : Nat) : List Value := [.int .i64 (-1000 - i), .int .i64 (-1000 - i), .int .i64 (-1000 - i)]
def markB (i : Nat) : List Value := [.int .i64 (-1000 - i), .bool true]

theorem kmarkEvent_any (n : Nat) (h : n ≤ 140737488355328) (w : World) : Calls Tryz.prog 22 #[.int .i64 n] w fun e w' => e = .returned (.agg #[.int .i64 (-1000 - n), .int .i64 (-1000 - n), .int .i64 (-1000 - n), .int .i64 (-1000 - n), .int .i64 (-1000 - n), .int .i64 (-1000 - n)]) ∧ w' = w.alloc (.cells #[.int .i64 (-1000 - n), .int .i64 (-1000 - n), .int .i64 (-1000 - n), .int .i64 (-1000 - n), .int .i64 (-1000 - n), .int .i64 (-1000 - n)] 58) := by
  have h' : (n : Int) ≤ 140737488355328 := by omega
  go_enter Tryz.func22, Tryz.ntmps22
  go_wp2
  refine bodyPost_ret (v := .agg #[.int .i64 (-1000 - n), .int .i64 (-1000 - n), .int .i64 (-1000 - n), .int .i64 (-1000 - n), .int .i64 (-1000 - n), .int .i64 (-1000 - n)]) (by simp [results, Tryz.results22, go_sem, alloc_cell]) rfl ⟨rfl, rfl⟩
theorem kmarkCopy_any (n : Nat) (h : n ≤ 140737488355328) (w : World) : Calls Tryz.prog 23 #[.int .i64 n] w fun e w' => e = .returned (.agg #[.int .i64 (-1000 - n), .int .i64 (-1000 - n), .int .i64 (-1000 - n)]) ∧ w' = w.alloc (.cells #[.int .i64 (-1000 - n), .int .i64 (-1000 - n), .int .i64 (-1000 - n)] 62) := by
  have h' : (n : Int) ≤ 140737488355328 := by omega
  go_enter Tryz.func23, Tryz.ntmps23
  go_wp2
  refine bodyPost_ret (v := .agg #[.int .i64 (-1000 - n), .int .i64 (-1000 - n), .int .i64 (-1000 - n)]) (by simp [results, Tryz.results23, go_sem, alloc_cell]) rfl ⟨rfl, rfl⟩
theorem kmarkBlock_any (n : Nat) (h : n ≤ 140737488355328) (w : World) : Calls Tryz.prog 24 #[.int .i64 n] w fun e w' => e = .returned (.agg #[.int .i64 (-1000 - n), .bool true]) ∧ w' = w.alloc (.cells #[.int .i64 (-1000 - n), .bool true] 66) := by
  have h' : (n : Int) ≤ 140737488355328 := by omega
  go_enter Tryz.func24, Tryz.ntmps24
  go_wp2
  refine bodyPost_ret (v := .agg #[.int .i64 (-1000 - n), .bool true]) (by simp [results, Tryz.results24, go_sem, alloc_cell]) rfl ⟨rfl, rfl⟩

theorem Outs.item {w : World} {base : Nat} {rt et : TypeId} {mark : Nat → List Value} {sa : Option Addr} {n c : Nat} {a : Nat → Option Addr} {l : Nat → Nat} (h : Outs w base rt et mark (.slice sa n c) n a l) {i : Nat} (hi : i < n) : ∃ g, sa = some ⟨g, 0, none⟩ ∧ g < w.heap.size ∧ w.cell? ⟨g, i, none⟩ = some (.slice (a i) (l i) (l i)) := by
  obtain ⟨g, e1, _, _, e2, e3⟩ := owns_cell h.row (by omega)
  refine ⟨g, e1, e2, ?_⟩
  rw [e3 i (by omega), List.getElem?_map, List.getElem?_range hi]
  rfl

set_option maxRecDepth 100000 in
set_option maxHeartbeats 6400000 in
theorem looks_any (gw base : Nat) (o : Own) (m : Value) (ea pa ba : Option Addr) (en ec pn pc bn bc : Nat) (ts : List Int) (os : List (Int × Int × Int)) (aE aP aB : Nat → Option Addr) (lE lP lB : Nat → Nat) (w : World) (h : WSt w gw base o m (.slice ea en ec) (.slice pa pn pc) (.slice ba bn bc) ts os)
    (hE : Outs w base 56 58 markE (.slice ea en ec) en aE lE) (hP : Outs w base 60 62 markP (.slice pa pn pc) pn aP lP) (hB : Outs w base 64 66 markB (.slice ba bn bc) bn aB lB)
    (h1 : en ≤ 140737488355328) (h2 : pn ≤ 140737488355328) (h3 : bn ≤ 140737488355328) :
    Calls Tryz.prog 10 #[.pointer (some ⟨gw, 0, none⟩)] w fun x w' => x = .returned (.bool true) ∧ Below w.heap.size w w' := by
  have HR : Hid (Row w gw (ownL o m (.slice ea en ec) (.slice pa pn pc) (.slice ba bn bc)) 34) := h.row
  have HE : Hid _ := hE
  have HP : Hid _ := hP
  have HB : Hid _ := hB
  have lg := h.row.lt
  clear h hE hP hB
  go_enter Tryz.func10, Tryz.ntmps10
  go_wp2_with fail
  go_loopw [3] (fun u wr => ∃ (i : Nat), i ≤ en ∧ u = .int .i64 i ∧ Below w.heap.size w wr) (fun u _ => en - (intOf u).toNat)
  case atStart => exact ⟨0, by omega, rfl, Below.refl _ _⟩
  case round =>
    obtain ⟨i, hi, rfl, hb⟩ := hrel
    have HBW : Hid _ := hb
    have rW := Row.below HR.out hb lg
    have c4 : wr.cell? ⟨gw, 4, none⟩ = some (.slice ea en ec) := rW.cell 4
    have lgw : gw < wr.heap.size := rW.lt
    clear hb rW
    by_cases hlt : i < en
    · go_wp2_with fail
      go_loopw [4] (fun u wq => ∃ (j : Nat), j ≤ lE i ∧ u = .int .i64 j ∧ Below w.heap.size w wq) (fun u _ => lE i - (intOf u).toNat)
      case atStart => exact ⟨0, by omega, rfl, HBW.out⟩
      case round =>
        obtain ⟨j, hj, rfl, hb⟩ := hrel
        have HBQ : Hid _ := hb
        have hO := HE.out.below hb
        obtain ⟨ge, e1, e2, e3⟩ := hO.item hlt
        have rW := Row.below HR.out hb lg
        have hlb := hO.bnd i hlt
        have hsat := hO.sat i hlt
        have c4 : wr.cell? ⟨gw, 4, none⟩ = some (.slice (some ⟨ge, 0, none⟩) en ec) := by rw [← e1]; exact rW.cell 4
        have lgw : gw < wr.heap.size := rW.lt
        clear hb rW hO e1
        generalize lE i = li at *
        generalize aE i = ai at *
        by_cases hjl : j < li
        · obtain ⟨g, rfl, _, hr⟩ := hsat (by omega)
          have d0 : wr.cell? ⟨g, j * 6, none⟩ = some (.int .i64 (-1000 - (i : Int))) := (hr.cell _).trans (markL_at (markE i) 6 rfl li j 0 hjl (by omega))
          have d1 : wr.cell? ⟨g, j * 6 + 1, none⟩ = some (.int .i64 (-1000 - (i : Int))) := (hr.cell _).trans (markL_at (markE i) 6 rfl li j 1 hjl (by omega))
          have d2 : wr.cell? ⟨g, j * 6 + 2, none⟩ = some (.int .i64 (-1000 - (i : Int))) := (hr.cell _).trans (markL_at (markE i) 6 rfl li j 2 hjl (by omega))
          have d3 : wr.cell? ⟨g, j * 6 + 3, none⟩ = some (.int .i64 (-1000 - (i : Int))) := (hr.cell _).trans (markL_at (markE i) 6 rfl li j 3 hjl (by omega))
          have d4 : wr.cell? ⟨g, j * 6 + 4, none⟩ = some (.int .i64 (-1000 - (i : Int))) := (hr.cell _).trans (markL_at (markE i) 6 rfl li j 4 hjl (by omega))
          have d5 : wr.cell? ⟨g, j * 6 + 5, none⟩ = some (.int .i64 (-1000 - (i : Int))) := (hr.cell _).trans (markL_at (markE i) 6 rfl li j 5 hjl (by omega))
          have lr := hr.lt
          clear hr hsat
          go_wp2_with fail
          have nw1 := World.new_ne _ _ c4
          have nw2 := World.new_ne _ _ e3
          have nw3 := World.new_ne _ _ d0
          go_region_held3 (fun w' => w'.cell? ⟨gw, 4, none⟩ = some (.slice (some ⟨ge, 0, none⟩) en ec) ∧ w'.cell? ⟨ge, i, none⟩ = some (.slice (some ⟨g, 0, none⟩) li li) ∧ w'.cell? ⟨g, j * 6, none⟩ = some (.int .i64 (-1000 - (i : Int))) ∧ w'.cell? ⟨g, j * 6 + 1, none⟩ = some (.int .i64 (-1000 - (i : Int))) ∧ w'.cell? ⟨g, j * 6 + 2, none⟩ = some (.int .i64 (-1000 - (i : Int))) ∧ w'.cell? ⟨g, j * 6 + 3, none⟩ = some (.int .i64 (-1000 - (i : Int))) ∧ w'.cell? ⟨g, j * 6 + 4, none⟩ = some (.int .i64 (-1000 - (i : Int))) ∧ w'.cell? ⟨g, j * 6 + 5, none⟩ = some (.int .i64 (-1000 - (i : Int)))) (go_keep) (first | (go_at_call 22; refine (kmarkEvent_any i (by omega) _).mono ?_; rintro e wv ⟨rfl, rfl⟩))
          all_goals
            go_wp2_with fail
            go_roundw
            case rel => exact ⟨j + 1, by omega, by go_num, below_step HBQ.out (((Below.refl _ _).alloc (Nat.le_refl _) _).drew) rfl⟩
            case measure => simp [intOf]; omega
        · clear hsat
          go_wp2_with fail
          go_roundw
          case rel => exact ⟨i + 1, by omega, by go_num, HBQ.out⟩
          case measure => simp [intOf]; omega
    · have HPV1 : Hid (Below w.heap.size w wr) := HBW.out
      clear HBW
      go_wp2_with fail
      clear c4 lgw
      go_loopw [5] (fun u wr => ∃ (i : Nat), i ≤ pn ∧ u = .int .i64 i ∧ Below w.heap.size w wr) (fun u _ => pn - (intOf u).toNat)
      case atStart => exact ⟨0, by omega, rfl, HPV1.out⟩
      case round =>
        obtain ⟨i, hi, rfl, hb⟩ := hrel
        have HBW : Hid _ := hb
        have rW := Row.below HR.out hb lg
        have c4 : wr.cell? ⟨gw, 5, none⟩ = some (.slice pa pn pc) := rW.cell 5
        have lgw : gw < wr.heap.size := rW.lt
        clear hb rW
        by_cases hlt : i < pn
        · go_wp2_with fail
          go_loopw [6] (fun u wq => ∃ (j : Nat), j ≤ lP i ∧ u = .int .i64 j ∧ Below w.heap.size w wq) (fun u _ => lP i - (intOf u).toNat)
          case atStart => exact ⟨0, by omega, rfl, HBW.out⟩
          case round =>
            obtain ⟨j, hj, rfl, hb⟩ := hrel
            have HBQ : Hid _ := hb
            have hO := HP.out.below hb
            obtain ⟨ge, e1, e2, e3⟩ := hO.item hlt
            have rW := Row.below HR.out hb lg
            have hlb := hO.bnd i hlt
            have hsat := hO.sat i hlt
            have c4 : wr.cell? ⟨gw, 5, none⟩ = some (.slice (some ⟨ge, 0, none⟩) pn pc) := by rw [← e1]; exact rW.cell 5
            have lgw : gw < wr.heap.size := rW.lt
            clear hb rW hO e1
            generalize lP i = li at *
            generalize aP i = ai at *
            by_cases hjl : j < li
            · obtain ⟨g, rfl, _, hr⟩ := hsat (by omega)
              have d0 : wr.cell? ⟨g, j * 3, none⟩ = some (.int .i64 (-1000 - (i : Int))) := (hr.cell _).trans (markL_at (markP i) 3 rfl li j 0 hjl (by omega))
              have d1 : wr.cell? ⟨g, j * 3 + 1, none⟩ = some (.int .i64 (-1000 - (i : Int))) := (hr.cell _).trans (markL_at (markP i) 3 rfl li j 1 hjl (by omega))
              have d2 : wr.cell? ⟨g, j * 3 + 2, none⟩ = some (.int .i64 (-1000 - (i : Int))) := (hr.cell _).trans (markL_at (markP i) 3 rfl li j 2 hjl (by omega))
              have lr := hr.lt
              clear hr hsat
              go_wp2_with fail
              have nw1 := World.new_ne _ _ c4
              have nw2 := World.new_ne _ _ e3
              have nw3 := World.new_ne _ _ d0
              go_region_held3 (fun w' => w'.cell? ⟨gw, 5, none⟩ = some (.slice (some ⟨ge, 0, none⟩) pn pc) ∧ w'.cell? ⟨ge, i, none⟩ = some (.slice (some ⟨g, 0, none⟩) li li) ∧ w'.cell? ⟨g, j * 3, none⟩ = some (.int .i64 (-1000 - (i : Int))) ∧ w'.cell? ⟨g, j * 3 + 1, none⟩ = some (.int .i64 (-1000 - (i : Int))) ∧ w'.cell? ⟨g, j * 3 + 2, none⟩ = some (.int .i64 (-1000 - (i : Int)))) (go_keep) (first | (go_at_call 23; refine (kmarkCopy_any i (by omega) _).mono ?_; rintro e wv ⟨rfl, rfl⟩))
              all_goals
                go_wp2_with fail
                go_roundw
                case rel => exact ⟨j + 1, by omega, by go_num, below_step HBQ.out (((Below.refl _ _).alloc (Nat.le_refl _) _).drew) rfl⟩
                case measure => simp [intOf]; omega
            · clear hsat
              go_wp2_with fail
              go_roundw
              case rel => exact ⟨i + 1, by omega, by go_num, HBQ.out⟩
              case measure => simp [intOf]; omega
        · have HPV2 : Hid (Below w.heap.size w wr) := HBW.out
          clear HBW
          go_wp2_with fail
          clear c4 lgw
          go_loopw [7] (fun u wr => ∃ (i : Nat), i ≤ bn ∧ u = .int .i64 i ∧ Below w.heap.size w wr) (fun u _ => bn - (intOf u).toNat)
          case atStart => exact ⟨0, by omega, rfl, HPV2.out⟩
          case round =>
            obtain ⟨i, hi, rfl, hb⟩ := hrel
            have HBW : Hid _ := hb
            have rW := Row.below HR.out hb lg
            have c4 : wr.cell? ⟨gw, 6, none⟩ = some (.slice ba bn bc) := rW.cell 6
            have lgw : gw < wr.heap.size := rW.lt
            clear hb rW
            by_cases hlt : i < bn
            · go_wp2_with fail
              go_loopw [8] (fun u wq => ∃ (j : Nat), j ≤ lB i ∧ u = .int .i64 j ∧ Below w.heap.size w wq) (fun u _ => lB i - (intOf u).toNat)
              case atStart => exact ⟨0, by omega, rfl, HBW.out⟩
              case round =>
                obtain ⟨j, hj, rfl, hb⟩ := hrel
                have HBQ : Hid _ := hb
                have hO := HB.out.below hb
                obtain ⟨ge, e1, e2, e3⟩ := hO.item hlt
                have rW := Row.below HR.out hb lg
                have hlb := hO.bnd i hlt
                have hsat := hO.sat i hlt
                have c4 : wr.cell? ⟨gw, 6, none⟩ = some (.slice (some ⟨ge, 0, none⟩) bn bc) := by rw [← e1]; exact rW.cell 6
                have lgw : gw < wr.heap.size := rW.lt
                clear hb rW hO e1
                generalize lB i = li at *
                generalize aB i = ai at *
                by_cases hjl : j < li
                · obtain ⟨g, rfl, _, hr⟩ := hsat (by omega)
                  have d0 : wr.cell? ⟨g, j * 2, none⟩ = some (.int .i64 (-1000 - (i : Int))) := (hr.cell _).trans (markL_at (markB i) 2 rfl li j 0 hjl (by omega))
                  have d1 : wr.cell? ⟨g, j * 2 + 1, none⟩ = some (.bool true) := (hr.cell _).trans (markL_at (markB i) 2 rfl li j 1 hjl (by omega))
                  have lr := hr.lt
                  clear hr hsat
                  go_wp2_with fail
                  have nw1 := World.new_ne _ _ c4
                  have nw2 := World.new_ne _ _ e3
                  have nw3 := World.new_ne _ _ d0
                  go_region_held3 (fun w' => w'.cell? ⟨gw, 6, none⟩ = some (.slice (some ⟨ge, 0, none⟩) bn bc) ∧ w'.cell? ⟨ge, i, none⟩ = some (.slice (some ⟨g, 0, none⟩) li li) ∧ w'.cell? ⟨g, j * 2, none⟩ = some (.int .i64 (-1000 - (i : Int))) ∧ w'.cell? ⟨g, j * 2 + 1, none⟩ = some (.bool true)) (go_keep) (first | (go_at_call 24; refine (kmarkBlock_any i (by omega) _).mono ?_; rintro e wv ⟨rfl, rfl⟩))
                  all_goals
                    go_wp2_with fail
                    go_roundw
                    case rel => exact ⟨j + 1, by omega, by go_num, below_step HBQ.out (((Below.refl _ _).alloc (Nat.le_refl _) _).drew) rfl⟩
                    case measure => simp [intOf]; omega
                · clear hsat
                  go_wp2_with fail
                  go_roundw
                  case rel => exact ⟨i + 1, by omega, by go_num, HBQ.out⟩
                  case measure => simp [intOf]; omega
            · have HPV3 : Hid (Below w.heap.size w wr) := HBW.out
              go_wp2
              go_ret
              exact ⟨rfl, HPV3.out⟩
end Go.Proofs.YtehheaedbnfidaaGreat
