/-
  One domain's play: chosen.
-/
import Derived.Test.YtehheaedbnfidaaGreatClRefS4
import Derived.Test.YtehheaedbnfidaaGreatClRefS7
import Derived.Test.YtehheaedbnfidaaGreatClRefV
import Derived.Deep.RegionLaw
import Derived.Deep.AppendLies
namespace Go.Proofs.YtehheaedbnfidaaGreat
open Go.RowKit

/-- A row of numbers that a value owns, as a list that reads. -/
theorem owns_ints {w : World} {base : Nat} {sa : Option Addr} {len cap : Nat} {ts : List Int} (h : w.ownsRow base 3 1 (.slice sa len cap) ts.length (ts.map (Value.int .i64))) : Ints w sa len cap ts := by
  obtain ⟨h1, h2⟩ := h
  rcases h2 with ⟨h3, h4⟩ | ⟨g, cap', cur, hv, hg, hh, hn, hm, hs, ht⟩
  · simp only [Value.slice.injEq] at h3
    obtain ⟨e1, e2, e3⟩ := h3
    rw [e1, e2, e3]
    have : ts = [] := List.eq_nil_of_length_eq_zero h4
    subst this
    exact ⟨rfl, Nat.le_refl _, by unfold maxLen; omega, fun _ => rfl, fun i hi => absurd hi (Nat.not_lt_zero _)⟩
  · simp only [Value.slice.injEq] at hv
    obtain ⟨e1, e2, e3⟩ := hv
    rw [e1, e2, e3]
    refine ⟨rfl, hn, hm, (fun h => by cases h), fun i hi => ⟨g, 0, rfl, ?_⟩⟩
    have hr : Row w g cur.toList 3 := by unfold Row; simpa using hh
    rw [Nat.zero_add, hr.cell]
    have e4 : cur.toList[i]? = (cur.toList.take (ts.length * 1))[i]? := by
      rw [List.getElem?_take, if_pos (by omega)]
    rw [e4, ht, List.getElem?_map]
    simp [List.getD, List.getElem?_eq_getElem hi]

theorem touched_snoc {p : Ent → Bool} (log : List Ent) (k : Nat) (h : k < log.length) : ((log.reverse.take (k + 1)).filter p).map Ent.way = ((log.reverse.take k).filter p).map Ent.way ++ (if p (log.reverse.getD k ent0) = true then [(log.reverse.getD k ent0).way] else []) := by
  have hk : k < log.reverse.length := by simpa using h
  have e : log.reverse.getD k ent0 = log.reverse[k] := by rw [List.getD_eq_getElem?_getD, List.getElem?_eq_getElem hk, Option.getD_some]
  rw [List.take_succ_eq_append_getElem hk, List.filter_append, List.map_append, e]
  generalize log.reverse[k] = x
  cases hp : p x <;> simp [hp]

theorem chosen_hit {c : Cf} {n k : Nat} {set : Int} {log : List Ent} (h : emptyF c set log n 0 = (k : Int)) (hk : k < n) : chosenF c n set log = k := by
  unfold chosenF
  rw [h]
  simp [hk]
theorem chosen_full {c : Cf} {n : Nat} {set : Int} {log : List Ent} (h : emptyF c set log n 0 = (n : Int)) : chosenF c n set log = victimZ n (touchedF c set log) := by
  unfold chosenF
  rw [h]
  simp

set_option maxRecDepth 100000 in
set_option maxHeartbeats 6400000 in
theorem rchosen_any (X : SLoc) (c : Cf) (sl : Sl) (L : RLoc) (T set : Int) (log : List Ent) (w : World) (h : SoR w X c sl L T) (hw : Ints w sl.wa sl.wl sl.wc c.ways) (hl : LogAt w X.la X.ll log) (hok : ∀ e ∈ log, EntOk e) (hn : smallB (c.ways.count (X.d : Int) : Nat) = true) :
    Calls Tryz.prog 130 #[.pointer (some ⟨X.gs, 0, none⟩), .int .i64 set] w fun e w' => e = .returned (.int .i64 (chosenF c (c.ways.count (X.d : Int)) set log)) ∧ Below w.heap.size w w' := by
  have hm := hl.hmax
  have HL : Hid (log.length = X.ll) := hl.hlen
  have HW := rsways_any X c sl L T w h hw
  have HC1 : Hid (∀ k : Nat, emptyF c set log (c.ways.count (X.d : Int)) 0 = (k : Int) → k < c.ways.count (X.d : Int) → chosenF c (c.ways.count (X.d : Int)) set log = k) := fun k h1 h2 => chosen_hit h1 h2
  have HC2 : Hid (emptyF c set log (c.ways.count (X.d : Int)) 0 = ((c.ways.count (X.d : Int) : Nat) : Int) → chosenF c (c.ways.count (X.d : Int)) set log = victimZ (c.ways.count (X.d : Int) : Nat) (touchedF c set log)) := fun h1 => chosen_full h1
  have hn4 : c.ways.count (X.d : Int) ≤ 4 := by rcases (small_iff _).1 hn with e | e | e <;> omega
  have HN : Hid _ := hn
  generalize chosenF c (c.ways.count (X.d : Int)) set log = res at *
  generalize c.ways.count (X.d : Int) = n at *
  clear hn
  obtain ⟨i0, hi0, hz0, hz1, hz2⟩ := info_parts Tryz.infoInt
  obtain ⟨_, _, _, _, _, hsets, _⟩ := shape_bounds (chk_zero h.ok).1
  have y1 : 0 < c.sets := by omega
  have y0 : ¬ c.sets = 0 := by omega
  clear hsets
  go_enter Tryz.func130, Tryz.ntmps130
  go_wp2_with (go_at_call 89; refine Calls.mono HW ?_; rintro e w1 ⟨rfl, hb1⟩)
  go_loopw [6] (fun j wr => ∃ k : Nat, k ≤ n ∧ j = .int .i64 k ∧ emptyF c set log n 0 = emptyF c set log (n - k) k ∧ Below w.heap.size w wr) (fun j _ => (n - intOf j).toNat)
  case atStart => exact ⟨0, by omega, rfl, by simp, hb1⟩
  case round =>
    obtain ⟨k, hk, rfl, hf, hb⟩ := hrel
    have HF : Hid _ := hf
    clear hf
    by_cases hlt : k < n
    · by_cases a1 : liesF c set k log < 0
      · go_wp2_with fail
        refine (rlies_any X c sl L T set k log _ (h.below hb (Nat.le_refl _)) (hl.below hb (Nat.le_refl _)) hok).mono ?_; rintro e w2 ⟨rfl, hb2⟩
        go_wp2
        go_ret
        exact ⟨ret_int (HC1.out k (by rw [HF.out, emptyF_hit a1 _ (by omega)]) hlt).symm, below_step hb hb2 rfl⟩
      · go_wp2_with fail
        refine (rlies_any X c sl L T set k log _ (h.below hb (Nat.le_refl _)) (hl.below hb (Nat.le_refl _)) hok).mono ?_; rintro e w2 ⟨rfl, hb2⟩
        go_wp2
        go_roundw
        case rel =>
          refine ⟨k + 1, by omega, by go_num, ?_, below_step hb hb2 rfl⟩
          rw [HF.out, show n - k = (n - (k + 1)) + 1 by omega, emptyF_miss (by omega), show ((k + 1 : Nat) : Int) = (k : Int) + 1 by omega]
        case measure => simp [intOf]; omega
    · have ek : k = n := by omega
      subst ek
      have HV := HC2.out (by rw [HF.out, Nat.sub_self]; rfl)
      have HV : Hid _ := HV
      have HF0 : Hid _ := hb
      go_wp2_with fail
      go_loopw [8, 9] (fun v i wr2 => ∃ (q : Nat) (sa : Option Addr) (cap : Nat) (ts : List Int), q ≤ X.ll ∧ i = .int .i64 q ∧ v = .slice sa ts.length cap ∧ ts = ((log.reverse.take q).filter fun e => e.what == 3 && (e.line % c.sets == set)).map Ent.way ∧ ts.length ≤ q ∧ wr2.ownsRow w.heap.size 3 1 (.slice sa ts.length cap) ts.length (ts.map (Value.int .i64)) ∧ Below w.heap.size w wr2) (fun _ i _ => (X.ll - intOf i).toNat)
      case atStart => exact ⟨0, none, 0, [], by omega, rfl, rfl, by simp, by simp, World.ownsRow_nil _ _ _ _, hb⟩
      case round =>
        obtain ⟨q, sa, cap, ts, hq, rfl, rfl, hts, htl, hown, hbr⟩ := hrel
        have HTS : Hid _ := hts
        have HTL : Hid _ := htl
        clear hts htl
        by_cases hql : q < X.ll
        · obtain ⟨b, hla, hlb, hcs⟩ := (hl.below hbr (Nat.le_refl _)).hat q hql
          have HSN : Hid _ := touched_snoc (p := fun e => e.what == 3 && (e.line % c.sets == set)) log q (by rw [HL.out]; exact hql)
          have HO : EntOk (log.reverse.getD q ent0) := hok _ (getD_mem_rev log q (by rw [HL.out]; omega))
          unfold ent0 at HSN HO
          have hR := h.below hbr (Nat.le_refl _)
          have cr2 := hR.row.cell 2
          have cr0 : wr.cell? ⟨X.gs, 0, none⟩ = some (.pointer (some ⟨X.gr, 0, none⟩)) := by rw [hR.row.cell]; rfl
          have cr6 : wr.cell? ⟨X.gr, 6, none⟩ = some (.int .i64 c.sets) := by rw [hR.mrow.cell]; rfl
          have z1 := hcs 1 (by omega)
          have z3 := hcs 3 (by omega)
          have z4 := hcs 4 (by omega)
          generalize log.reverse.getD q ⟨0, 0, 0, 0, 0, false, false, 0, 0⟩ = e at *
          obtain ⟨et, ewhat, ecore, eline, eway, est, elo, eaddr, eval⟩ := e
          simp only [List.getElem?_cons_zero, List.getElem?_cons_succ] at z1 z3 z4 cr2
          rw [hla] at cr2
          obtain ⟨l0, l1, t0, t1⟩ := HO
          dsimp only at l0 l1 t0 t1
          have HLA : Hid _ := hla
          clear hcs hla hb1
          rcases Bool.eq_false_or_eq_true (ewhat == 3) with a1 | a1
          · rcases Bool.eq_false_or_eq_true (eline % c.sets == set) with a2 | a2
            · go_wp2_with fail
              go_quiet (fail)
              have hownW : (wr.drewN nq).ownsRow w.heap.size 3 1 (.slice sa ts.length cap) ts.length (ts.map (Value.int .i64)) := owns_same hown (fun _ _ => rfl)
              have OW : Hid _ := hownW
              have HB0 : Hid (Below w.heap.size w (wr.drewN nq)) := below_drewN hbr _
              have HNW : Hid (((wr.drewN nq).alloc (.cells #[.int .i64 eway] 3)).heap[wr.heap.size]? = some (.cells #[.int .i64 eway] 3 (0, 0))) := heap_alloc_new (wr.drewN nq) _
              have LM : Hid (ts.length + 1 ≤ maxLen) := by have := HTL.out; unfold Hid maxLen; omega
              have L8 : Hid ((ts.length + 1) * 8 ≤ 140737488355328) := by have := HTL.out; unfold Hid; omega
              have LB : Hid (w.heap.size ≤ ((wr.drewN nq).alloc (.cells #[.int .i64 eway] 3)).heap.size) := by
                have := hbr.size
                unfold Hid
                simp
                omega
              clear hownW hown
              go_wp2_with (at_builtin; refine wpList_append_lies _ rfl _ _ 25 rfl w.heap.size 3 i0 (.int .i64 0) 1 8 Tryz.underlying25 hi0 hz0 hz1 hz2 rfl (by decide) (.slice sa ts.length cap) ts.length (ts.map (Value.int .i64)) rfl ?o1 ⟨wr.heap.size, 0, none⟩ 1 1 [.int .i64 eway] ?o9 rfl ?o3 ?o4 (by omega) ?o5 ?o6 ?o7 _ rfl ?o8)
              case o1 => exact World.ownsRow.alloc OW.out _
              case o3 => exact World.news_of_block (cs := #[.int .i64 eway]) (t := 3) (fr := (0, 0)) HNW.out
              case o4 => simp [Value.oneCell']
              case o5 => exact LM.out
              case o6 => exact L8.out
              case o7 => exact LB.out
              case o9 => rfl
              case o8 =>
                intro gg cap2 w4 hown4 hgrow4 hat4 hlt4
                go_wp2
                go_roundw
                case rel =>
                  refine ⟨q + 1, some ⟨gg, 0, none⟩, cap2, ts ++ [eway], by omega, by go_num, by simp, by rw [HSN.out, ← HTS.out]; simp [a1, a2], by have := HTL.out; simp; omega, ?_, ?_⟩
                  · rw [List.length_append, List.map_append]; exact hown4
                  · exact below_grown (HB0.out.alloc HB0.out.size _) LB.out hgrow4 (fun g hg => (owns_lt OW.out g hg).2)
                case measure => simp [intOf]; omega
            · go_wp2_with fail
              go_quiet (fail)
              go_wp2
              go_roundw
              case rel => exact ⟨q + 1, sa, cap, ts, by omega, by go_num, rfl, by rw [HSN.out, ← HTS.out]; simp [a1, a2], by have := HTL.out; omega, owns_same hown (fun _ _ => rfl), below_drewN hbr _⟩
              case measure => simp [intOf]; omega
          · go_wp2_with fail
            go_quiet (fail)
            go_wp2
            go_roundw
            case rel => exact ⟨q + 1, sa, cap, ts, by omega, by go_num, rfl, by rw [HSN.out, ← HTS.out]; simp [a1], by have := HTL.out; omega, owns_same hown (fun _ _ => rfl), below_drewN hbr _⟩
            case measure => simp [intOf]; omega
        · have eq : q = X.ll := by omega
          have cr2 := (h.below hbr (Nat.le_refl _)).row.cell 2
          simp only [List.getElem?_cons_zero, List.getElem?_cons_succ] at cr2
          go_wp2_with fail
          refine (rvictim_any _ _ _ _ ts _ (owns_ints hown) HN.out).mono ?_; rintro e w2 ⟨rfl, rfl⟩
          go_wp2
          go_ret
          refine ⟨ret_int ?_, hbr⟩
          rw [HV.out, HTS.out]
          unfold touchedF
          rw [List.take_of_length_le (by rw [List.length_reverse, HL.out]; omega)]
end Go.Proofs.YtehheaedbnfidaaGreat
