import Derived.Test.YtehheaedbnfidaaGreatClWOwner2
set_option maxRecDepth 100000
namespace Go.Proofs.YtehheaedbnfidaaGreat
open Go.RowKit
set_option maxHeartbeats 3200000 in
theorem owner_opT (gw base:Nat)(o:Own)(m e p b:Value)(ts:List Int)(os:List (Int × Int × Int))(st:St)(w:World)(h:WSt w gw base o m e p b ts os)(hk:st.k=3)(hn:(os.length+1)*24≤140737488355328) :
  Calls Tryz.prog 11 #[.pointer (some ⟨gw,0,none⟩),opV st] w fun x w'=>x = .returned (.bool true)∧∃ o',o'.ca=o.ca∧o'.cl=o.cl∧o'.cc=o.cc∧WSt w' gw base o' m e p b ts (os++[(st.a,st.b,st.c)])∧Below base w w'∧KeepO w w'∧OwnGo gw o o' w w':=by
 obtain ⟨k,a,bb,cc,dd⟩:=st
 simp only at hk
 subst hk
 obtain ⟨i0,hi0,hz0,hz1,hz2⟩:=info_parts Tryz.infoOp
 have c1:w.cell? ⟨gw,2,none⟩=some (.slice o.oa o.ol o.oc):=by rw [h.row.cell];rfl
 have f1:w.frozen? ⟨gw,2,none⟩=false:=h.row.frozen 2
 have lg:=h.row.lt
 have ag:=own_ne h.ops h.row (by decide)
 have hown:=h.ops
 have hbase:base≤w.heap.size:=by have:=h.hb;omega
 have HN:Hid _:=hn
 clear hn
 go_enter Tryz.func11,Tryz.ntmps11
 go_wp2_with fail
 have rO:Row (w.alloc (.cells (opA ⟨3,a,bb,cc,dd⟩) 36)) w.heap.size [.int .i64 3,.int .i64 a,.int .i64 bb,.int .i64 cc,.int .i64 dd] 36:=heap_alloc_new w _
 have b1:Below w.heap.size w (w.alloc (.cells (opA ⟨3,a,bb,cc,dd⟩) 36)):=(Below.refl _ _).alloc (Nat.le_refl _) _
 have hown1:=hown.alloc (.cells (opA ⟨3,a,bb,cc,dd⟩) 36)
 have htou1:=h.tou.alloc (.cells (opA ⟨3,a,bb,cc,dd⟩) 36)
 have row1:=h.row.alloc (.cells (opA ⟨3,a,bb,cc,dd⟩) 36)
 have sz1:(w.alloc (.cells (opA ⟨3,a,bb,cc,dd⟩) 36)).heap.size=w.heap.size+1:=by simp
 have SZ:Hid _:=sz1
 clear sz1 c1 f1 hown
 generalize w.alloc (.cells (opA ⟨3,a,bb,cc,dd⟩) 36)=W at *
 have c1:W.cell? ⟨gw,2,none⟩=some (.slice o.oa o.ol o.oc):=by rw [row1.cell];rfl
 have f1:W.frozen? ⟨gw,2,none⟩=false:=row1.frozen 2
 have c2:W.cell? ⟨w.heap.size,1,none⟩=some (.int .i64 a):=by rw [rO.cell];rfl
 have c5:W.cell? ⟨w.heap.size,2,none⟩=some (.int .i64 bb):=by rw [rO.cell];rfl
 have c6:W.cell? ⟨w.heap.size,3,none⟩=some (.int .i64 cc):=by rw [rO.cell];rfl
 have l1:=row1.lt
 have l2:=rO.lt
 have ao:=own_ne hown1 rO (by decide)
 have hbW:base≤W.heap.size:=by have:=b1.size;omega
 go_region_law
  ((refine step_append_lies _ (by rfl) _ _ _ (by rfl) base 69 i0 _ 3 24 Tryz.underlying28 hi0 hz0 hz1 hz2 rfl (by omega) (.slice o.oa o.ol o.oc) os.length (opsL os) (by rfl) ((hown1.alloc _).drew) ⟨W.heap.size,0,none⟩ 1 1 [.int .i64 a,.int .i64 bb,.int .i64 cc] (by rfl) (by rfl) (World.news_of_block (cs:=#[.int .i64 a,.int .i64 bb,.int .i64 cc]) (t:=69) (fr:=(0,0)) (heap_alloc_new W _)) (by simp [Value.oneCell']) (by omega) (by have:=HN.out;unfold maxLen;omega) HN.out (by simp;omega) (W.heap.size+1) (by simp) ?_;intro gg cap w1 hown2 hgrow hat hlt;have f2:w1.frozen? ⟨gw,2,none⟩=false:=(hgrow.frozen_far ⟨gw,2,none⟩ (by simp;omega) (Ne.symm ag)).trans ((row1.alloc _).frozen 2);have c3:w1.cell? ⟨gw,2,none⟩=some (.slice o.oa o.ol o.oc):=(hgrow.cell_far ⟨gw,2,none⟩ (by simp;omega) (Ne.symm ag)).trans ((row1.alloc _).cell 2)))
 all_goals go_wp2
 all_goals go_ret
 all_goals
  have hW:WSt W gw base o m e p b ts os:=⟨row1,h.hb,htou1,hown1⟩
  have hX:WSt (W.alloc (.cells #[.int .i64 a,.int .i64 bb,.int .i64 cc] 69)).drew gw base o m e p b ts os:=(hW.below ((Below.refl _ _).alloc (Nat.le_refl _) _) rfl).below ((Below.refl _ _).drew) rfl
  obtain ⟨g1,g2,g3⟩:=hX.op hgrow ((((b1.mono hbase).alloc hbW _)).drew) hown2
  exact ⟨rfl,{ o with oa:=some ⟨gg,0,none⟩,ol:=os.length+1,oc:=cap },rfl,rfl,rfl,g1,g2,((KeepO.below b1 rfl).trans (KeepO.below ((Below.refl _ _).alloc (Nat.le_refl _) _) rfl)).trans ((KeepO.below ((Below.refl _ _).drew) rfl).trans g3),ownGo_op (below_step (below_step b1 ((Below.refl _ _).alloc (Nat.le_refl _) _) rfl) ((Below.refl _ _).drew) rfl) hgrow (hat.imp id (fun q=>by have:=SZ.out;omega)) _⟩
end Go.Proofs.YtehheaedbnfidaaGreat
