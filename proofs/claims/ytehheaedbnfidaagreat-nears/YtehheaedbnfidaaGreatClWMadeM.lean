import Derived.Test.YtehheaedbnfidaaGreatClWPairD
set_option maxRecDepth 100000
namespace Go.Proofs.YtehheaedbnfidaaGreat
open Go.RowKit
theorem MI.made {W w w6 wX w8:World}{o:Own}{e p b:Value}{ts:List Int}{os:List (Int × Int × Int)}{zone:Nat→Option Nat}{n:Nat}{X:Nat→XLoc}{m:Nat→Mh}{L:Nat→RLoc}{M:Nat→RDat}{ma:Option Addr}{mc gg cap:Nat}{X':XLoc}{m':Mh}{L':RLoc}{M':RDat}(h:MI W w o e p b ts os zone n X m L M ma mc)(hb6:Below w.heap.size w w6)
  (hM:MachM w6 (cnOf M'.c) X' m') (hR:RefM w6 L' M') (hx:∀ b,X'.mine b→w.heap.size≤b) (hl:∀ b,L'.own b→w.heap.size≤b∧b<w6.heap.size) (hd:∀ b,X'.mine b→¬L'.own b) (hc:CfgAt W M'.c M'.s) (hp:PairD M' m') (hbX:Below w6.heap.size w6 wX)
  (hgrow:wX.grownBy w8 (Value.slice ma n mc).ownBlock) (hown:w8.ownsRow W.heap.size 50 2 (.slice (some ⟨gg,0,none⟩) (n+1) cap) (n+1) (pairsL X L n++[.pointer (some ⟨X'.g,0,none⟩),.pointer (some ⟨L'.gr,0,none⟩)])) (hat:(Value.slice ma n mc).ownBlock=some gg∨w6.heap.size≤gg) :
  ∃ zone' X2 m2 L2 M2,MI W (w8.setCell ⟨W.heap.size,3,none⟩ (.slice (some ⟨gg,0,none⟩) (n+1) cap)) o e p b ts os zone' (n+1) X2 m2 L2 M2 (some ⟨gg,0,none⟩) cap∧Touch (MZ W.heap.size o zone (.slice ma n mc)) w (w8.setCell ⟨W.heap.size,3,none⟩ (.slice (some ⟨gg,0,none⟩) (n+1) cap))∧
   ∀ b,b<w.heap.size→MZ W.heap.size o zone' (.slice (some ⟨gg,0,none⟩) (n+1) cap) b→MZ W.heap.size o zone (.slice ma n mc) b:=by
 have IX:=(h.below hb6).below hbX
 have s6:=hb6.size
 have sX:=hbX.size
 have s8:=hgrow.size
 have hWw:=h.bel.size
 have gwlt:=h.ws.row.lt
 have olt:∀ g,(Value.slice ma n mc).ownBlock=some g→g<w.heap.size:=fun g hg=>(owns_lt h.own g hg).1
 have ag:(Value.slice ma n mc).ownBlock≠some W.heap.size:=own_ne IX.own IX.ws.row (by decide)
 have sF:(w8.setCell ⟨W.heap.size,3,none⟩ (.slice (some ⟨gg,0,none⟩) (n+1) cap)).heap.size=w8.heap.size:=by simp [World.setCell]
 -- blocks that are neither the caller's box nor the machines' list
 have bF:∀ g,g<w6.heap.size→g≠W.heap.size→(Value.slice ma n mc).ownBlock≠some g→(w8.setCell ⟨W.heap.size,3,none⟩ (.slice (some ⟨gg,0,none⟩) (n+1) cap)).heap[g]? = w6.heap[g]? := fun g h1 h2 h3=>by
  rw [Below.heap_setCell _ _ _ _ (by exact h2),hgrow.block g (by omega) (fun q=>h3 q.symm)]
  exact hbX.block g h1
 have bW:∀ g,g<w.heap.size→g≠W.heap.size→(Value.slice ma n mc).ownBlock≠some g→(w8.setCell ⟨W.heap.size,3,none⟩ (.slice (some ⟨gg,0,none⟩) (n+1) cap)).heap[g]? = w.heap[g]? := fun g h1 h2 h3=>(bF g (by omega) h2 h3).trans (hb6.block g h1)
 have hk:∀ g,zone g≠none→(w8.setCell ⟨W.heap.size,3,none⟩ (.slice (some ⟨gg,0,none⟩) (n+1) cap)).heap[g]? = w.heap[g]? := fun g hz=>bW g (h.ms.zlt g hz).2 (fun q=>hz (h.zu g (Or.inl q))) (fun q=>hz (h.zm g q))
 have hMF:=hM.same (w':=w8.setCell ⟨W.heap.size,3,none⟩ (.slice (some ⟨gg,0,none⟩) (n+1) cap)) (by omega) (fun g hg=>bF g (hM.labs.lt g hg) (by have:=hx g hg;omega) (fun q=>by have:=hx g hg;have:=olt g q;omega))
 have hRF:=hR.same (w':=w8.setCell ⟨W.heap.size,3,none⟩ (.slice (some ⟨gg,0,none⟩) (n+1) cap)) (fun g hg=>bF g (hl g hg).2 (by have:=(hl g hg).1;omega) (fun q=>by have:=(hl g hg).1;have:=olt g q;omega))
 obtain ⟨zone',hms,hz,hnew⟩:=h.ms.more hWw hMF hRF hx (fun g hg=>⟨(hl g hg).1,by have:=(hl g hg).2;omega⟩) hd hc hp (by omega) hk
 have hgg:zone' gg=none:=by
  rcases hat with q|q
  ·
   rw [hz gg (olt gg q)]
   exact h.zm gg q
  ·
   refine Classical.byContradiction fun hne=>?_
   rcases hnew gg (by omega) hne with r|r
   ·
    have:=hM.labs.lt gg r
    omega
   ·
    have:=(hl gg r).2
    omega
 have r8:Row w8 W.heap.size (ownL o (.slice ma n mc) e p b) 34:=IX.ws.row.same (hgrow.block _ IX.ws.row.lt (Ne.symm ag))
 have rF:=r8.setCell 3 (.slice (some ⟨gg,0,none⟩) (n+1) cap)
 have gne:gg≠W.heap.size:=fun q=>own_ne hown r8 (by decide) (by rw [q];rfl)
 refine ⟨zone',_,_,_,_,⟨⟨rF,h.ws.hb,owns_same h.ws.tou (fun g hg=>bW g (owns_lt h.ws.tou g hg).1 (fun q=>by subst q;exact own_ne h.ws.tou h.ws.row (by decide) hg) (fun q=>h.apart q (Or.inr (Or.inl hg)))),owns_same h.ws.ops (fun g hg=>bW g (owns_lt h.ws.ops g hg).1 (fun q=>by subst q;exact own_ne h.ws.ops h.ws.row (by decide) hg) (fun q=>h.apart q (Or.inr (Or.inr hg))))⟩,hms,?_,fun g hu=>?_,fun g hg=>?_,?_⟩,⟨?_,?_,?_,by omega,fun g hg hf=>bW g hg (fun q=>hf (Or.inr (Or.inl (Or.inl q)))) (fun q=>hf (Or.inr (Or.inr q)))⟩,fun g hg hq=>?_⟩
 ·
  rw [pairs_more]
  refine owns_same hown (fun g hg=>Below.heap_setCell _ _ _ _ ?_)
  have:gg=g:=by simpa [Value.ownBlock] using hg
  subst this
  exact gne
 ·
  rw [hz g (h.ub_lt hu)]
  exact h.zu g hu
 ·
  have:gg=g:=by simpa [Value.ownBlock] using hg
  subst this
  exact hgg
 · refine (below_grown IX.bel (by have:=IX.bel.size;omega) hgrow (fun g hg=>(owns_lt h.own g hg).2)).setCell (p:=⟨W.heap.size,3,none⟩) (Nat.le_refl _) _
 · exact hgrow.os.trans (hbX.os.trans hb6.os)
 · exact hgrow.tape.trans (hbX.tape.trans hb6.tape)
 · exact hgrow.output.trans (hbX.output.trans hb6.output)
 ·
  rcases hq with q | q | q
  ·
   rw [hz g hg] at q
   exact Or.inl q
  · exact Or.inr (Or.inl q)
  ·
   have:gg=g:=by simpa [Value.ownBlock] using q
   subst this
   rcases hat with r|r
   · exact Or.inr (Or.inr r)
   · omega
theorem Tryz.infoBlock:(Tryz.prog.info? 171).map (fun i=>(i.zero,i.size,i.bytes))=some (some (.agg #[.int .i64 0,.bool false,.int .i64 0,.int .i64 0,.int .i64 0,.int .i64 0]),6,48):=by kernel_rfl
theorem Tryz.infoSet:(Tryz.prog.info? 167).map (fun i=>(i.zero,i.size,i.bytes))=some (some (.agg #[.slice none 0 0,.slice none 0 0]),2,48):=by kernel_rfl
abbrev bkL (b:Bk):List Value:=[.int .i64 b.line,.bool b.mkd,.int .i64 (b.wd 0),.int .i64 (b.wd 1),.int .i64 (b.wd 2),.int .i64 (b.wd 3)]
theorem repB_at {n i:Nat}(hi:i<n*6):((List.replicate n bkE).flatMap bkL)[i]? = some (bkV bkE (i%6)):=by
 induction n generalizing i with
 | zero=>omega
 | succ n ih=>
  rw [List.replicate_succ,List.flatMap_cons]
  by_cases h:i<6
  ·
   have:i=0∨i=1∨i=2∨i=3∨i=4∨i=5:=by omega
   rcases this with e|e|e|e|e|e <;> subst e <;> rfl
  ·
   obtain ⟨j,rfl⟩:∃ j,i=j+6:=⟨i-6,by omega⟩
   have:=ih (i:=j) (by omega)
   rw [show (j+6)%6=j%6 by omega,← this]
   rfl
abbrev setL (nn:Nat)(b bc:Nat→Nat)(k:Nat):List Value:=[.slice (some ⟨b k,0,none⟩) nn (bc k),.slice none 0 0]
theorem setL_at (nn:Nat)(b bc:Nat→Nat){n i:Nat}(hi:i<n*2):((List.range n).flatMap (setL nn b bc))[i]? = some (if i%2=0 then .slice (some ⟨b (i / 2),0,none⟩) nn (bc (i / 2)) else .slice none 0 0):=by
 induction n with
 | zero=>omega
 | succ n ih=>
  have hlen:∀ m,((List.range m).flatMap (setL nn b bc)).length=m*2:=fun m=>by
   induction m with
   | zero=>rfl
   | succ m ihm=>rw [List.range_succ,List.flatMap_append,List.length_append,ihm];simp [setL];omega
  rw [List.range_succ,List.flatMap_append]
  by_cases h:i<n*2
  ·
   rw [List.getElem?_append_left (by rw [hlen];exact h)]
   exact ih h
  ·
   rw [List.getElem?_append_right (by rw [hlen];omega),hlen]
   have:i=n*2∨i=n*2+1:=by omega
   rcases this with e|e
   · subst e;simp [setL,show n*2 / 2=n by omega]
   · subst e;simp [setL,show (n*2+1)%2=1 by omega,show n*2+1-n*2=1 by omega]
structure FarP (w wr:World)(j nn:Nat)(va:Option Addr)(vc:Nat)(b bc:Nat→Nat):Prop where
 box:Row wr (w.heap.size+1) [.slice va j vc] 140
 res:Row wr w.heap.size [.slice none 0 0] 140
 row:wr.ownsRow (w.heap.size+2) 167 2 (.slice va j vc) j ((List.range j).flatMap (setL nn b bc))
 cel:∀ k,k<j→Cells wr (b k) (nn*6) 171 (fun i=>bkV bkE (i%6))∧w.heap.size+2≤b k∧nn≤bc k∧bc k≤maxLen
 dis:∀ i k,i<j→k<j→b i=b k→i=k
 bel:Below w.heap.size w wr
theorem FarP.below {w wr w':World}{j nn:Nat}{va:Option Addr}{vc:Nat}{b bc:Nat→Nat}(h:FarP w wr j nn va vc b bc)(hb:Below wr.heap.size wr w'):FarP w w' j nn va vc b bc:=
 ⟨h.box.below hb h.box.lt,h.res.below hb h.res.lt,owns_same h.row fun g hg=>hb.block g (owns_lt h.row g hg).1,fun k hk=>⟨(h.cel k hk).1.below hb (Nat.le_refl _),(h.cel k hk).2⟩,h.dis,h.bel.trans (hb.mono h.bel.size)⟩
theorem FarP.more {w wr w1 w2:World}{j nn gl lc gg cap:Nat}{va:Option Addr}{vc:Nat}{b bc:Nat→Nat}(h:FarP w wr j nn va vc b bc)(h0:wr.heap.size≤gl)(hb1:Below wr.heap.size wr w1)
  (hc:Cells w1 gl (nn*6) 171 (fun i=>bkV bkE (i%6))) (hl:nn≤lc∧lc≤maxLen) (hg:w1.grownBy w2 (Value.slice va j vc).ownBlock)
  (ho:w2.ownsRow (w.heap.size+2) 167 2 (.slice (some ⟨gg,0,none⟩) (j+1) cap) (j+1) (((List.range j).flatMap (setL nn b bc))++[.slice (some ⟨gl,0,none⟩) nn lc,.slice none 0 0])) :
  FarP w (w2.setCell ⟨w.heap.size+1,0,none⟩ (.slice (some ⟨gg,0,none⟩) (j+1) cap)) (j+1) nn (some ⟨gg,0,none⟩) cap (up1 b j gl) (up1 bc j lc):=by
 have h1:=h.below hb1
 have hsz:=h.bel.size
 have hr2:w.heap.size+2≤wr.heap.size:=by have:=h.box.lt;omega
 have n0:∀ {g A t},Row w1 g A t→t≠167→Row w2 g A t:=fun hr ht=>by
  unfold Row
  rw [hg.block _ hr.lt (fun he=>own_ne h1.row hr ht he.symm)]
  exact hr
 have n1:∀ {g n f},Cells w1 g n 171 f→Cells w2 g n 171 f:=fun ⟨cur,hr,hf⟩=>⟨cur,n0 hr (by decide),hf⟩
 have hbox:=n0 h1.box (by decide)
 have hne:∀ g,w.heap.size+2≤g→g≠w.heap.size+1:=fun g hg=>by omega
 refine ⟨hbox.setCell 0 _,(n0 h1.res (by decide)).setCellOther _ _ (by omega),?_,fun k hk=>?_,fun i k hi hk e=>?_,?_⟩
 ·
  have hL:(List.range (j+1)).flatMap (setL nn (up1 b j gl) (up1 bc j lc))=((List.range j).flatMap (setL nn b bc))++[.slice (some ⟨gl,0,none⟩) nn lc,.slice none 0 0]:=by
   rw [List.range_succ,List.flatMap_append]
   congr 1
   ·
    have:∀ l:List Nat,(∀ k∈l,k≠j)→l.flatMap (setL nn (up1 b j gl) (up1 bc j lc))=l.flatMap (setL nn b bc):=fun l=>by
     induction l with
     | nil=>intro _;rfl
     | cons x l ih=>
      intro hx
      rw [List.flatMap_cons,List.flatMap_cons,ih (fun k hk=>hx k (List.mem_cons_of_mem _ hk))]
      have:x≠j:=hx x (by simp)
      simp [setL,up1,this]
    exact this _ (fun k hk=>by have:=List.mem_range.1 hk;omega)
   · simp [setL,up1]
  rw [hL]
  exact owns_same ho fun g hg'=>Below.heap_setCell _ _ _ _ (hne g (owns_lt ho g hg').2)
 ·
  by_cases e:k=j
  ·
   subst e
   simp only [up1,if_true]
   exact ⟨(n1 hc).setOther _ _ (by omega),by omega,hl⟩
  ·
   have:=h1.cel k (by omega)
   simp only [up1,e,if_false]
   exact ⟨(n1 this.1).setOther _ _ (hne _ this.2.1),this.2⟩
 ·
  by_cases e1:i=j <;> by_cases e2:k=j
  · omega
  ·
   subst e1
   simp only [up1,if_true,e2,if_false] at e
   have:=(h.cel k (by omega)).1.lt
   omega
  ·
   subst e2
   simp only [up1,if_true,e1,if_false] at e
   have:=(h.cel i (by omega)).1.lt
   omega
  ·
   simp only [up1,e1,e2,if_false] at e
   exact h.dis i k (by omega) (by omega) e
 · exact (below_grown h1.bel (by have:=h1.box.lt;omega) hg (fun g hg'=>by have:=(owns_lt h1.row g hg').2;omega)).setCell (show w.heap.size≤w.heap.size+1 by omega) _
set_option maxHeartbeats 3200000 in
theorem fnew_any (ns wn:Nat)(hs:ns≤4)(hs0:0<ns)(hw:wn=1∨wn=2∨wn=4)(w:World) :
  Calls Tryz.prog 109 #[.int .i64 ns,.int .i64 wn] w fun e w'=>∃ X:FLoc,e = .returned (.agg #[.slice (some ⟨X.r,0,none⟩) ns X.rc])∧FarM w' ns wn X (fun _ _=>bkE) (fun _=>[])∧Below w.heap.size w w'∧(∀ b,X.own ns b→w.heap.size≤b∧b<w'.heap.size)∧∀ s,X.ta s=none:=by
 obtain ⟨i0,hi0,hz0,hz1,hz2⟩:=info_parts Tryz.infoBlock
 obtain ⟨j0,hj0,hy0,hy1,hy2⟩:=info_parts Tryz.infoSet
 have wn4:wn≤4:=by omega
 have wn0:0<wn:=by omega
 have HWN:Hid _:=hw
 clear hw
 go_enter Tryz.func109,Tryz.ntmps109
 go_wp2_with fail
 have hP0:FarP w ((w.alloc (.cells #[.slice none 0 0] 140)).alloc (.cells #[.slice none 0 0] 140)) 0 wn none 0 (fun _=>0) (fun _=>0):=by
  refine ⟨?_,Row.alloc (heap_alloc_new w _) _,by simp [World.ownsRow],fun k hk=>by omega,fun i k hi=>by omega,((Below.refl _ _).alloc (Nat.le_refl _) _).alloc (by simp) _⟩
  have:=heap_alloc_new (w.alloc (.cells #[.slice none 0 0] 140)) (.cells #[.slice none 0 0] 140)
  rw [World.size_alloc] at this
  exact this
 have HP0:Hid _:=hP0
 clear hP0
 go_loopw [6] (fun u wr=>∃ (j:Nat) (va:Option Addr) (vc:Nat) (b bc:Nat→Nat),j≤ns∧u = .int .i64 j∧FarP w wr j wn va vc b bc) (fun u _=>ns-(intOf u).toNat)
 case atStart=>exact ⟨0,none,0,_,_,by omega,rfl,HP0.out⟩
 case round=>
  obtain ⟨j,va,vc,b,bc,hj,rfl,hP⟩:=hrel
  have HP:Hid _:=hP
  by_cases hlt:j<ns
  ·
   obtain ⟨wo,hwo⟩:∃ wo,wo=wr:=⟨_,rfl⟩
   have HWO:Hid _:=hwo
   have HR0:Hid (Row (wr.alloc (.cells #[.slice none 0 0,.slice none 0 0] 167)) wr.heap.size [.slice none 0 0,.slice none 0 0] 167):=heap_alloc_new wr _
   clear hP hwo
   go_wp2_with fail
   rw [← HWO.out]
   rw [← HWO.out] at HR0
   go_loopw [8] (fun u wx=>∃ (i:Nat) (la:Option Addr) (lc:Nat),i≤wn∧u = .int .i64 i∧Row wx wo.heap.size [.slice la i lc,.slice none 0 0] 167∧wx.ownsRow (wo.heap.size+1) 171 6 (.slice la i lc) i ((List.replicate i bkE).flatMap bkL)∧Below wo.heap.size wo wx) (fun u _=>wn-(intOf u).toNat)
   case atStart=>exact ⟨0,none,0,by omega,rfl,HR0.out,by simp [World.ownsRow],(Below.refl _ _).alloc (Nat.le_refl _) _⟩
   case round=>
    obtain ⟨i,la,lc,hi,rfl,hbx,hown,hb⟩:=hrel
    have HO:Hid _:=hown
    have HB:Hid _:=hb
    have HBX:Hid (Row wr wo.heap.size [.slice la i lc,.slice none 0 0] 167):=hbx
    have hbs:=hb.size
    have lbx:=hbx.lt
    have cb:wr.cell? ⟨wo.heap.size,0,none⟩=some (.slice la i lc):=hbx.cell 0
    have cb1:wr.cell? ⟨wo.heap.size,1,none⟩=some (.slice none 0 0):=hbx.cell 1
    have fb:=hbx.frozen 0
    clear hb hbx
    by_cases hli:i<wn
    ·
     have LM:Hid (i+1≤maxLen):=by unfold Hid maxLen;omega
     have L8:Hid ((i+1)*48≤140737488355328):=by unfold Hid;omega
     have HRW:Hid (∀ k,(Value.slice la i lc).ownBlock=some k→wo.heap.size+1≤k):=fun k hk=>(owns_lt hown k hk).2
     have hne:(Value.slice la i lc).ownBlock≠some wo.heap.size:=fun e=>by have:=(owns_lt hown _ e).2;omega
     clear hown
     go_wp2_with fail
     go_region_law (first
       | (rw [if_pos (by rfl)];go_simp;go_at_call 139;refine (fEmpty_any _).mono ?_;rintro e w2 ⟨rfl,rfl⟩)
       | (refine step_append_lies _ (by rfl) _ _ _ (by rfl) (wo.heap.size+1) 171 i0 _ 6 48 Tryz.underlying165 hi0 hz0 hz1 hz2 rfl (by omega) (.slice la i lc) i ((List.replicate i bkE).flatMap bkL) (by rfl) ((World.ownsRow.alloc (World.ownsRow.alloc HO.out _) _).drew) ⟨wr.heap.size+1,0,none⟩ 1 1 (bkL bkE) (by rfl) (by rfl) (World.news_of_block (cs:=bkA bkE) (t:=171) (fr:=(0,0)) (by have hnb:=heap_alloc_new (wr.alloc (.cells (bkA bkE) 171)) (.cells (bkA bkE) 171);rw [World.size_alloc] at hnb;exact hnb)) (by simp [Value.oneCell']) (by omega) LM.out L8.out (by simp;omega) (wr.heap.size+2) (by simp) ?_;intro gg cap w1 hown2 hgrow hat hlt;have r1:Row w1 wo.heap.size [.slice la i lc,.slice none 0 0] 167:=(hgrow.block wo.heap.size (by simp;omega) (fun e=>hne e.symm)).trans ((Row.alloc (Row.alloc HBX.out _) _));have c1:w1.cell? ⟨wo.heap.size,0,none⟩=some (.slice la i lc):=r1.cell 0;have f1:=r1.frozen 0))
     all_goals
      have hb4:Below wo.heap.size wo w1:=below_grown (((HB.out.alloc hbs (.cells (bkA bkE) 171)).alloc (by simp;omega) (.cells (bkA bkE) 171)).drew) (by simp;omega) hgrow (fun k hk=>by have:=HRW.out k hk;omega)
      have HR4:Hid (Row (w1.setCell ⟨wo.heap.size,0,none⟩ (.slice (some ⟨gg,0,none⟩) (i+1) cap)) wo.heap.size [.slice (some ⟨gg,0,none⟩) (i+1) cap,.slice none 0 0] 167):=r1.setCell 0 _
      have HO4:Hid ((w1.setCell ⟨wo.heap.size,0,none⟩ (.slice (some ⟨gg,0,none⟩) (i+1) cap)).ownsRow (wo.heap.size+1) 171 6 (.slice (some ⟨gg,0,none⟩) (i+1) cap) (i+1) ((List.replicate (i+1) bkE).flatMap bkL)):=by
       unfold Hid
       rw [List.replicate_succ',List.flatMap_append]
       exact owns_same hown2 fun g hg=>Below.heap_setCell _ _ _ _ (by have:=(owns_lt hown2 g hg).2;intro e;have:g=wo.heap.size:=e;omega)
      have HB4:Hid (Below wo.heap.size wo (w1.setCell ⟨wo.heap.size,0,none⟩ (.slice (some ⟨gg,0,none⟩) (i+1) cap))):=hb4.setCell (Nat.le_refl _) _
      clear hown2 hgrow hat hb4 r1 c1 f1
     all_goals go_wp2_with fail
     all_goals go_roundw
     all_goals try (case rel=>first | exact ⟨i+1,_,cap,by omega,by go_num,HR4.out,HO4.out,HB4.out⟩ | ((repeat apply Exists.intro);exact ⟨⟨i+1,_,cap,by omega,by go_num,HR4.out,HO4.out,HB4.out⟩,rfl⟩))
     all_goals try (case measure=>simp [intOf];omega)
    ·
     have ei:i=wn:=by omega
     subst ei
     obtain ⟨gl,lc',hv,hgl,hgl2⟩:=World.ownsRow.form hown wn0
     simp only [Value.slice.injEq] at hv
     obtain ⟨rfl,_,rfl⟩:=hv
     have hcl:=owns_cells hown (fun i=>bkV bkE (i%6)) (fun q hq=>repB_at hq)
     have P0:=HP.out
     rw [← HWO.out] at P0
     have P1:=P0.below HB.out
     have cx:wr.cell? ⟨w.heap.size+1,0,none⟩=some (.slice va j vc):=P1.box.cell 0
     have fx:=P1.box.frozen 0
     have lx:=P1.box.lt
     have HC:Hid _:=hcl
     have HP1:Hid _:=P1
     have HP00:Hid _:=P0
     have LM:Hid (j+1≤maxLen):=by unfold Hid maxLen;omega
     have L8:Hid ((j+1)*48≤140737488355328):=by unfold Hid;omega
     have HRJ:Hid _:=P1.row
     clear hown hcl P0 P1
     go_wp2_with (at_builtin;refine wpList_append_lies _ rfl _ _ 138 rfl (w.heap.size+2) 167 j0 _ 2 48 Tryz.underlying138 hj0 hy0 hy1 hy2 rfl (by decide) (.slice va j vc) j ((List.range j).flatMap (setL i b bc)) rfl ?p1 ⟨wr.heap.size,0,none⟩ 1 1 [.slice (some ⟨gl,0,none⟩) i lc,.slice none 0 0] ?p9 rfl ?p3 ?p4 (by omega) ?p5 ?p6 ?p7 _ rfl ?p8)
     case p1=>exact World.ownsRow.alloc HRJ.out _
     try case p3=>exact World.news_of_block (cs:=#[.slice (some ⟨gl,0,none⟩) i lc,.slice none 0 0]) (t:=167) (fr:=(0,0)) (heap_alloc_new wr _)
     case p4=>simp [Value.oneCell']
     case p5=>exact LM.out
     case p6=>exact L8.out
     case p7=>simp;omega
     try case p9=>rfl
     case p8=>
      intro gg cap2 w4 hown4 hgrow4 hat4 hlt4
      have hbA:Below wr.heap.size wr (wr.alloc (.cells #[.slice (some ⟨gl,0,none⟩) i lc,.slice none 0 0] 167)):=(Below.refl _ _).alloc (Nat.le_refl _) _
      have hM:=HP00.out.more (gl:=gl) (lc:=lc) (by have:=HC.out.2.2.2.1;omega) (HB.out.trans (hbA.mono hbs)) (HC.out.1.below hbA (Nat.le_refl _)) ⟨HC.out.2.1,HC.out.2.2.1⟩ hgrow4 hown4
      have rb:Row w4 (w.heap.size+1) [.slice va j vc] 140:=by
       unfold Row
       rw [hgrow4.block _ (by simp;omega) (fun he=>own_ne (World.ownsRow.alloc HRJ.out _) (HP1.out.box.below hbA lx) (by decide) he.symm)]
       exact HP1.out.box.below hbA lx
      have c4:w4.cell? ⟨w.heap.size+1,0,none⟩=some (.slice va j vc):=rb.cell 0
      have f4:=rb.frozen 0
      have HMM:Hid _:=hM
      clear hown4 hgrow4 hat4 hbA hM rb cx fx lx cb cb1 fb
      go_wp2_with fail
      go_roundw
      case rel=>first | exact ⟨j+1,_,_,_,_,by omega,by go_num,HMM.out⟩ | ((repeat apply Exists.intro);exact ⟨⟨j+1,_,_,_,_,by omega,by go_num,HMM.out⟩,rfl⟩)
      case measure=>simp [intOf];omega
  ·
   have ej:j=ns:=by omega
   subst ej
   have cb:wr.cell? ⟨w.heap.size+1,0,none⟩=some (.slice va j vc):=hP.box.cell 0
   have cr:wr.cell? ⟨w.heap.size,0,none⟩=some (.slice none 0 0):=hP.res.cell 0
   have fr:=hP.res.frozen 0
   have q:Row (wr.setCell ⟨w.heap.size,0,none⟩ (.slice va j vc)) w.heap.size [.slice va j vc] 140:=hP.res.setCell 0 _
   have q0:=q.cell 0
   obtain ⟨g,cap,hv,hg1,hg2⟩:=World.ownsRow.form hP.row hs0
   simp only [Value.slice.injEq] at hv
   obtain ⟨rfl,_,rfl⟩:=hv
   have hrow:=owns_cells hP.row (setV ⟨g,vc,b,bc,fun _=>none,fun _=>0,fun _=>0⟩ wn) (fun k hk=>by rw [setL_at wn b bc hk];rfl)
   have hFM:FarM (wr.setCell ⟨w.heap.size,0,none⟩ (.slice (some ⟨g,0,none⟩) j vc)) j wn ⟨g,vc,b,bc,fun _=>none,fun _=>0,fun _=>0⟩ (fun _ _=>bkE) (fun _=>[]):=
    ⟨hrow.1.setOther _ _ (show g≠w.heap.size by have:=hrow.2.2.2.1;omega),fun k hk=>(hP.cel k hk).1.setOther _ _ (show b k≠w.heap.size by have:=(hP.cel k hk).2.1;omega),fun s _=>⟨rfl,Nat.le_refl _,Nat.zero_le _,fun _=>rfl,fun i hi=>absurd hi (Nat.not_lt_zero i)⟩,⟨hrow.2.1,hrow.2.2.1⟩,fun k hk=>(hP.cel k hk).2.2,hP.dis,hs0,hs,wn0,wn4,HWN.out,fun s _ e he=>absurd he (List.not_mem_nil),fun s _=>List.nodup_nil⟩
   have HFM:Hid _:=hFM
   have HBL:Hid (Below w.heap.size w (wr.setCell ⟨w.heap.size,0,none⟩ (.slice (some ⟨g,0,none⟩) j vc))):=hP.bel.setCell (Nat.le_refl _) _
   have HX:Hid (∀ b',FLoc.own ⟨g,vc,b,bc,fun _=>none,fun _=>0,fun _=>0⟩ j b'→w.heap.size≤b'∧b'<(wr.setCell ⟨w.heap.size,0,none⟩ (.slice (some ⟨g,0,none⟩) j vc)).heap.size):=fun b' hb'=>by
    have hz:(wr.setCell ⟨w.heap.size,0,none⟩ (.slice (some ⟨g,0,none⟩) j vc)).heap.size=wr.heap.size:=by simp [World.setCell]
    rw [hz]
    rcases hb' with e|⟨k,hk,e⟩
    ·
     have e':b'=g:=e
     have:=hrow.2.2.2
     omega
    ·
     have e':b'=b k:=e
     have:=(hP.cel k hk)
     have h2:=this.1.lt
     have h3:=this.2.1
     omega
   clear hP HP hrow hFM q
   go_wp2
   refine bodyPost_ret (v:=.agg #[.slice (some ⟨g,0,none⟩) j vc]) (by simp [results,Tryz.results109,go_sem,q0]) rfl ⟨⟨g,vc,b,bc,fun _=>none,fun _=>0,fun _=>0⟩,rfl,HFM.out,HBL.out,HX.out,fun _=>rfl⟩
structure MemP (w wr:World)(c:Cf)(s:Sl)(ln j pv:Nat)(va:Option Addr)(vc:Nat)(b bc:Nat→Nat):Prop where
 cbox:Row wr w.heap.size (cfgL c s) 43
 res:Row wr (w.heap.size+1) [.int .i64 0,.slice none 0 0,.slice none 0 0] 92
 box:Row wr (w.heap.size+2) [.int .i64 ln,.slice va j vc,.slice none 0 0] 92
 row:wr.ownsRow (w.heap.size+3) 25 1 (.slice va j vc) j ((List.range j).map fun k=>.slice (some ⟨b k,0,none⟩) pv (bc k))
 cel:∀ k,k<j→Cells wr (b k) pv 3 (fun _=>.int .i64 0)∧w.heap.size+3≤b k∧pv≤bc k∧bc k≤maxLen
 dis:∀ i k,i<j→k<j→b i=b k→i=k
 bel:Below w.heap.size w wr
theorem MemP.below {w wr w':World}{c:Cf}{s:Sl}{ln j pv:Nat}{va:Option Addr}{vc:Nat}{b bc:Nat→Nat}(h:MemP w wr c s ln j pv va vc b bc)(hb:Below wr.heap.size wr w'):MemP w w' c s ln j pv va vc b bc:=
 ⟨h.cbox.below hb h.cbox.lt,h.res.below hb h.res.lt,h.box.below hb h.box.lt,owns_same h.row fun g hg=>hb.block g (owns_lt h.row g hg).1,fun k hk=>⟨(h.cel k hk).1.below hb (Nat.le_refl _),(h.cel k hk).2⟩,h.dis,h.bel.trans (hb.mono h.bel.size)⟩
theorem MemP.more {w wr w1 w2:World}{c:Cf}{s:Sl}{ln j pv gl lc gg cap:Nat}{va:Option Addr}{vc:Nat}{b bc:Nat→Nat}(h:MemP w wr c s ln j pv va vc b bc)(h0:wr.heap.size≤gl)(hb1:Below wr.heap.size wr w1)
  (hc:Cells w1 gl pv 3 (fun _=>.int .i64 0)) (hl:pv≤lc∧lc≤maxLen) (hg:w1.grownBy w2 (Value.slice va j vc).ownBlock)
  (ho:w2.ownsRow (w.heap.size+3) 25 1 (.slice (some ⟨gg,0,none⟩) (j+1) cap) (j+1) (((List.range j).map fun k=>.slice (some ⟨b k,0,none⟩) pv (bc k))++[.slice (some ⟨gl,0,none⟩) pv lc])) :
  MemP w (w2.setCell ⟨w.heap.size+2,1,none⟩ (.slice (some ⟨gg,0,none⟩) (j+1) cap)) c s ln (j+1) pv (some ⟨gg,0,none⟩) cap (up1 b j gl) (up1 bc j lc):=by
 have h1:=h.below hb1
 have hsz:=h.bel.size
 have hr2:w.heap.size+3≤wr.heap.size:=by have:=h.box.lt;omega
 have n0:∀ {g A t},Row w1 g A t→t≠25→Row w2 g A t:=fun hr ht=>by
  unfold Row
  rw [hg.block _ hr.lt (fun he=>own_ne h1.row hr ht he.symm)]
  exact hr
 have n1:∀ {g n f},Cells w1 g n 3 f→Cells w2 g n 3 f:=fun ⟨cur,hr,hf⟩=>⟨cur,n0 hr (by decide),hf⟩
 have hbox:=n0 h1.box (by decide)
 have hne:∀ g,w.heap.size+3≤g→g≠w.heap.size+2:=fun g hg=>by omega
 refine ⟨(n0 h1.cbox (by decide)).setCellOther _ _ (by omega),(n0 h1.res (by decide)).setCellOther _ _ (by omega),hbox.setCell 1 _,?_,fun k hk=>?_,fun i k hi hk e=>?_,?_⟩
 ·
  have hL:((List.range (j+1)).map fun k=>Value.slice (some ⟨up1 b j gl k,0,none⟩) pv (up1 bc j lc k))=((List.range j).map fun k=>.slice (some ⟨b k,0,none⟩) pv (bc k))++[.slice (some ⟨gl,0,none⟩) pv lc]:=by
   rw [List.range_succ,List.map_append]
   congr 1
   ·
    apply List.map_congr_left
    intro k hk
    have:k≠j:=by have:=List.mem_range.1 hk;omega
    simp [up1,this]
   · simp [up1]
  rw [hL]
  exact owns_same ho fun g hg'=>Below.heap_setCell _ _ _ _ (hne g (owns_lt ho g hg').2)
 ·
  by_cases e:k=j
  ·
   subst e
   simp only [up1,if_true]
   exact ⟨(n1 hc).setOther _ _ (by omega),by omega,hl⟩
  ·
   have:=h1.cel k (by omega)
   simp only [up1,e,if_false]
   exact ⟨(n1 this.1).setOther _ _ (hne _ this.2.1),this.2⟩
 ·
  by_cases e1:i=j <;> by_cases e2:k=j
  · omega
  ·
   subst e1
   simp only [up1,if_true,e2,if_false] at e
   have:=(h.cel k (by omega)).1.lt
   omega
  ·
   subst e2
   simp only [up1,if_true,e1,if_false] at e
   have:=(h.cel i (by omega)).1.lt
   omega
  ·
   simp only [up1,e1,e2,if_false] at e
   exact h.dis i k (by omega) (by omega) e
 · exact (below_grown h1.bel (by have:=h1.box.lt;omega) hg (fun g hg'=>by have:=(owns_lt h1.row g hg').2;omega)).setCell (show w.heap.size≤w.heap.size+2 by omega) _
theorem rep0_at {n i:Nat}(hi:i<n*1):(List.replicate n (Value.int .i64 0))[i]? = some (Value.int .i64 0):=by
 rw [List.getElem?_replicate,if_pos (by omega)]
theorem MemP.done {w wr w1 W:World}{c:Cf}{s:Sl}{ln j pv sn:Nat}{va za:Option Addr}{vc zc:Nat}{b bc:Nat→Nat}(h:MemP w wr c s ln j pv va vc b bc)(hb:Below wr.heap.size wr w1)(ho:w1.ownsRow wr.heap.size 3 1 (.slice za sn zc) sn (List.replicate sn (.int .i64 0)))(h1:j≤4)(h0:0<j)(p1:pv≤64)(p0:0<pv)(s1:sn≤32)
  (hW:∀ g,w.heap.size+3≤g→W.heap[g]? = w1.heap[g]?) (hS:W.heap.size=w1.heap.size) :
  ∃ X:ELoc,va=some ⟨X.r,0,none⟩∧vc=X.rc∧za=X.sa∧zc=X.sc∧MemM W j pv sn X (fun _ _=>0) (fun _=>0)∧w.heap.size≤X.r∧∀ b,X.own j b→w.heap.size≤b∧b<W.heap.size∧b≠X.r:=by
 have P1:=h.below hb
 have hr3:w.heap.size+3≤wr.heap.size:=by have:=h.box.lt;omega
 have hbs:=hb.size
 obtain ⟨g,cap,hv,hg1,hg2⟩:=World.ownsRow.form P1.row h0
 simp only [Value.slice.injEq] at hv
 obtain ⟨rfl,_,rfl⟩:=hv
 have hrow:=owns_cells P1.row (fun k=>.slice (some ⟨b k,0,none⟩) pv (bc k)) (fun k hk=>by
  rw [List.getElem?_map,List.getElem?_range (by omega)];rfl)
 rw [Nat.mul_one] at hrow
 have hgs:∃ sb,w.heap.size≤sb∧sb<w1.heap.size∧sb≠g∧(∀ k,k<j→b k≠sb)∧((sn=0∧za=none)∨(za=some ⟨sb,0,none⟩∧Cells W sb sn 3 (fun _=>.int .i64 0)))∧sn≤zc∧zc≤maxLen:=by
  rcases ho.2 with ⟨e1,e2⟩|⟨g',cap',cur,hv,hgb,hh,hn',hm,hs,ht⟩
  ·
   simp only [Value.slice.injEq] at e1
   refine ⟨w.heap.size,Nat.le_refl _,by omega,by have:=hrow.2.2.2.1;omega,fun k hk e=>by have:=(h.cel k hk).2.1;omega,Or.inl ⟨e2,e1.1⟩,by omega,by rw [e1.2.2];exact Nat.zero_le _⟩
  ·
   simp only [Value.slice.injEq] at hv
   obtain ⟨rfl,_,rfl⟩:=hv
   have hc:=owns_cells ho (fun _=>.int .i64 0) (fun q hq=>rep0_at hq)
   rw [Nat.mul_one] at hc
   have hne:g'≠g:=fun e=>by
    subst e
    have hr:Row w1 g' cur.toList 3:=by unfold Row;simpa using hh
    exact own_ne P1.row hr (by decide) rfl
   exact ⟨g',by omega,hc.2.2.2.2,hne,fun k hk e=>by have:=(h.cel k hk).1.lt;omega,Or.inr ⟨rfl,hc.1.same (hW g' (by omega))⟩,hc.2.1,hc.2.2.1⟩
 obtain ⟨sb,k1,k2,k3,k4,k5,k6,k7⟩:=hgs
 refine ⟨⟨g,vc,b,bc,za,sb,zc⟩,rfl,rfl,rfl,rfl,⟨hrow.1.same (hW g hrow.2.2.2.1),fun d hd=>(P1.cel d hd).1.same (hW _ (P1.cel d hd).2.1),k5,⟨hrow.2.1,hrow.2.2.1⟩,fun d hd=>(P1.cel d hd).2.2,⟨k6,k7⟩,P1.dis,k4,h1,p0,p1,s1⟩,by have:=hrow.2.2.2.1;show w.heap.size≤g;omega,fun b' hb'=>?_⟩
 rw [hS]
 rcases hb' with e|⟨d,hd,e⟩
 ·
  have e':b'=sb:=e
  subst e'
  exact ⟨k1,k2,k3⟩
 ·
  have e':b'=b d:=e
  subst e'
  have h2:=(P1.cel d hd).1.lt
  have h3:=(P1.cel d hd).2.1
  exact ⟨by omega,h2,fun e2=>absurd (hrow.1.type ((show b d=g from e2) ▸ (P1.cel d hd).1)) (by decide)⟩
set_option maxHeartbeats 3200000 in
theorem mnew_any (c:Cf)(s:Sl)(nd pv sn ln:Nat)(hnd:(nd:Int)=c.domains)(hpv:(pv:Int)=c.priv)(hsn:(sn:Int)=c.shared)(hln:(ln:Int)=c.line)(h1:nd≤4)(h0:0<nd)(p1:pv≤64)(p0:0<pv)(s1:sn≤32)(w:World) :
  Calls Tryz.prog 106 #[cfgV c s] w fun e w'=>∃ X:ELoc,e = .returned (.agg #[.int .i64 ln,.slice (some ⟨X.r,0,none⟩) nd X.rc,.slice X.sa sn X.sc])∧MemM w' nd pv sn X (fun _ _=>0) (fun _=>0)∧Below w.heap.size w w'∧w.heap.size≤X.r∧∀ b,X.own nd b→w.heap.size≤b∧b<w'.heap.size∧b≠X.r:=by
 obtain ⟨j0,hj0,hy0,hy1,hy2⟩:=info_parts Tryz.infoIntsN
 obtain ⟨c_cores,c_domains,c_line,c_priv,c_shared,c_near,c_sets,c_ways,c_slot,c_slots,c_turns,c_quantum,c_flush⟩:=c
 dsimp only at *
 subst hnd hpv hsn hln
 have hP0:MemP w (((w.alloc (.cells (cfgA ⟨c_cores,nd,ln,pv,sn,c_near,c_sets,c_ways,c_slot,c_slots,c_turns,c_quantum,c_flush⟩ s) 43)).alloc (.cells #[.int .i64 0,.slice none 0 0,.slice none 0 0] 92)).alloc (.cells #[.int .i64 ln,.slice none 0 0,.slice none 0 0] 92)) ⟨c_cores,nd,ln,pv,sn,c_near,c_sets,c_ways,c_slot,c_slots,c_turns,c_quantum,c_flush⟩ s ln 0 pv none 0 (fun _=>0) (fun _=>0):=by
  refine ⟨Row.alloc (Row.alloc (heap_alloc_new w _) _) _,Row.alloc ?_ _,?_,by simp [World.ownsRow],fun k hk=>by omega,fun i k hi=>by omega,(((Below.refl _ _).alloc (Nat.le_refl _) _).alloc (by simp) _).alloc (by simp;omega) _⟩
  ·
   have:=heap_alloc_new (w.alloc (.cells (cfgA ⟨c_cores,nd,ln,pv,sn,c_near,c_sets,c_ways,c_slot,c_slots,c_turns,c_quantum,c_flush⟩ s) 43)) (.cells #[.int .i64 0,.slice none 0 0,.slice none 0 0] 92)
   rw [World.size_alloc] at this
   exact this
  ·
   have:=heap_alloc_new ((w.alloc (.cells (cfgA ⟨c_cores,nd,ln,pv,sn,c_near,c_sets,c_ways,c_slot,c_slots,c_turns,c_quantum,c_flush⟩ s) 43)).alloc (.cells #[.int .i64 0,.slice none 0 0,.slice none 0 0] 92)) (.cells #[.int .i64 ln,.slice none 0 0,.slice none 0 0] 92)
   rw [World.size_alloc,World.size_alloc] at this
   exact this
 have HP0:Hid _:=hP0
 clear hP0
 go_enter Tryz.func106,Tryz.ntmps106
 go_wp2_with fail
 go_loopw [4] (fun u wr=>∃ (j:Nat) (va:Option Addr) (vc:Nat) (b bc:Nat→Nat),j≤nd∧u = .int .i64 j∧MemP w wr ⟨c_cores,nd,ln,pv,sn,c_near,c_sets,c_ways,c_slot,c_slots,c_turns,c_quantum,c_flush⟩ s ln j pv va vc b bc) (fun u _=>nd-(intOf u).toNat)
 case atStart=>exact ⟨0,none,0,_,_,by omega,rfl,HP0.out⟩
 case round=>
  obtain ⟨j,va,vc,b,bc,hj,rfl,hP⟩:=hrel
  have c1:wr.cell? ⟨w.heap.size,1,none⟩=some (.int .i64 nd):=hP.cbox.cell 1
  have c3:wr.cell? ⟨w.heap.size,3,none⟩=some (.int .i64 pv):=hP.cbox.cell 3
  have c4:wr.cell? ⟨w.heap.size,4,none⟩=some (.int .i64 sn):=hP.cbox.cell 4
  have HP:Hid _:=hP
  clear hP
  by_cases hlt:j<nd
  ·
   have hZ:=kzeros_any pv p1 wr
   go_wp2_with fail
   refine hZ.mono ?_;rintro e w1 ⟨za,zc,rfl,hown,hb⟩
   obtain ⟨gl,lc,hv,hgl,hgl2⟩:=World.ownsRow.form hown p0
   simp only [Value.slice.injEq] at hv
   obtain ⟨rfl,_,rfl⟩:=hv
   have hcl:=owns_cells hown (fun _=>.int .i64 0) (fun q hq=>rep0_at hq)
   rw [Nat.mul_one] at hcl
   have P1:=HP.out.below hb
   have cb:w1.cell? ⟨w.heap.size+1+1,1,none⟩=some (.slice va j vc):=P1.box.cell 1
   have HC:Hid _:=hcl
   have HP1:Hid _:=P1
   have HB:Hid _:=hb
   have hbs:=hb.size
   have LM:Hid (j+1≤maxLen):=by unfold Hid maxLen;omega
   have L8:Hid ((j+1)*24≤140737488355328):=by unfold Hid;omega
   have HRJ:Hid _:=P1.row
   have lx:w.heap.size+2<w1.heap.size:=P1.box.lt
   clear hown hcl P1 hZ c1 c3 c4
   go_wp2_with (at_builtin;refine wpList_append_lies _ rfl _ _ 41 rfl (w.heap.size+3) 25 j0 _ 1 24 Tryz.underlying41 hj0 hy0 hy1 hy2 rfl (by decide) (.slice va j vc) j ((List.range j).map fun k=>.slice (some ⟨b k,0,none⟩) pv (bc k)) rfl ?p1 ⟨w1.heap.size,0,none⟩ 1 1 [.slice (some ⟨gl,0,none⟩) pv zc] ?p9 rfl ?p3 ?p4 (by omega) ?p5 ?p6 ?p7 _ rfl ?p8)
   case p1=>exact World.ownsRow.alloc HRJ.out _
   try case p3=>exact World.news_of_block (cs:=#[.slice (some ⟨gl,0,none⟩) pv zc]) (t:=25) (fr:=(0,0)) (heap_alloc_new w1 _)
   case p4=>simp [Value.oneCell']
   case p5=>exact LM.out
   case p6=>exact L8.out
   case p7=>simp;omega
   try case p9=>rfl
   case p8=>
    intro gg cap2 w4 hown4 hgrow4 hat4 hlt4
    have hbA:Below w1.heap.size w1 (w1.alloc (.cells #[.slice (some ⟨gl,0,none⟩) pv zc] 25)):=(Below.refl _ _).alloc (Nat.le_refl _) _
    have hM:=HP.out.more (gl:=gl) (lc:=zc) HC.out.2.2.2.1 (HB.out.trans (hbA.mono hbs)) (HC.out.1.below hbA (Nat.le_refl _)) ⟨HC.out.2.1,HC.out.2.2.1⟩ hgrow4 hown4
    have rb:Row w4 (w.heap.size+2) [.int .i64 ln,.slice va j vc,.slice none 0 0] 92:=by
     unfold Row
     rw [hgrow4.block _ (by simp;omega) (fun he=>own_ne (World.ownsRow.alloc HRJ.out _) (HP1.out.box.below hbA lx) (by decide) he.symm)]
     exact HP1.out.box.below hbA lx
    have c4:w4.cell? ⟨w.heap.size+1+1,1,none⟩=some (.slice va j vc):=rb.cell 1
    have f4:w4.frozen? ⟨w.heap.size+1+1,1,none⟩=false:=rb.frozen 1
    have HMM:Hid _:=hM
    clear hown4 hgrow4 hat4 hbA hM rb cb
    go_wp2_with fail
    go_roundw
    case rel=>first | exact ⟨j+1,_,_,_,_,by omega,by go_num,HMM.out⟩ | ((repeat apply Exists.intro);exact ⟨⟨j+1,_,_,_,_,by omega,by go_num,HMM.out⟩,rfl⟩)
    case measure=>simp [intOf];omega
  ·
   have ej:j=nd:=by omega
   subst ej
   have hZ:=kzeros_any sn (by omega) wr
   go_wp2_with fail
   refine hZ.mono ?_;rintro e w1 ⟨za,zc,rfl,hown,hb⟩
   have P1:=HP.out.below hb
   have cb0:w1.cell? ⟨w.heap.size+1+1,0,none⟩=some (.int .i64 ln):=P1.box.cell 0
   have cb1:w1.cell? ⟨w.heap.size+1+1,1,none⟩=some (.slice va j vc):=P1.box.cell 1
   have cb2:w1.cell? ⟨w.heap.size+1+1,2,none⟩=some (.slice none 0 0):=P1.box.cell 2
   have fb2:w1.frozen? ⟨w.heap.size+1+1,2,none⟩=false:=P1.box.frozen 2
   have cr0:w1.cell? ⟨w.heap.size+1,0,none⟩=some (.int .i64 0):=P1.res.cell 0
   have cr1:w1.cell? ⟨w.heap.size+1,1,none⟩=some (.slice none 0 0):=P1.res.cell 1
   have cr2:w1.cell? ⟨w.heap.size+1,2,none⟩=some (.slice none 0 0):=P1.res.cell 2
   have fr0:=P1.res.frozen 0
   have fr1:=P1.res.frozen 1
   have fr2:=P1.res.frozen 2
   have q:Row ((((w1.setCell ⟨w.heap.size+1+1,2,none⟩ (.slice za sn zc)).setCell ⟨w.heap.size+1,0,none⟩ (.int .i64 ln)).setCell ⟨w.heap.size+1,1,none⟩ (.slice va j vc)).setCell ⟨w.heap.size+1,2,none⟩ (.slice za sn zc)) (w.heap.size+1) [.int .i64 ln,.slice va j vc,.slice za sn zc] 92:=(((P1.res.setCellOther _ _ (by omega)).setCell 0 _).setCell 1 _).setCell 2 _
   have q0:=q.cell 0
   have q1:=q.cell 1
   have q2:=q.cell 2
   have hD:=HP.out.done (W:=(((w1.setCell ⟨w.heap.size+1+1,2,none⟩ (.slice za sn zc)).setCell ⟨w.heap.size+1,0,none⟩ (.int .i64 ln)).setCell ⟨w.heap.size+1,1,none⟩ (.slice va j vc)).setCell ⟨w.heap.size+1,2,none⟩ (.slice za sn zc)) hb hown h1 h0 p1 p0 s1 (fun g hg=>by
    rw [Below.heap_setCell _ _ _ _ (by intro e;have:g=w.heap.size+1:=e;omega),Below.heap_setCell _ _ _ _ (by intro e;have:g=w.heap.size+1:=e;omega),Below.heap_setCell _ _ _ _ (by intro e;have:g=w.heap.size+1:=e;omega),Below.heap_setCell _ _ _ _ (by intro e;have:g=w.heap.size+1+1:=e;omega)]) (by simp [World.setCell])
   have HBL:Hid (Below w.heap.size w ((((w1.setCell ⟨w.heap.size+1+1,2,none⟩ (.slice za sn zc)).setCell ⟨w.heap.size+1,0,none⟩ (.int .i64 ln)).setCell ⟨w.heap.size+1,1,none⟩ (.slice va j vc)).setCell ⟨w.heap.size+1,2,none⟩ (.slice za sn zc))):=(((P1.bel.setCell (show w.heap.size≤w.heap.size+1+1 by omega) _).setCell (show w.heap.size≤w.heap.size+1 by omega) _).setCell (show w.heap.size≤w.heap.size+1 by omega) _).setCell (show w.heap.size≤w.heap.size+1 by omega) _
   have HD:Hid _:=hD
   clear hZ c1 c3 c4 hD q P1 hown
   go_wp2
   obtain ⟨X,e1,e2,e3,e4,hM,hx1,hx2⟩:=HD.out
   refine bodyPost_ret (v:=.agg #[.int .i64 ln,.slice va j vc,.slice za sn zc]) (by simp [results,Tryz.results106,go_sem,q0,q1,q2]) rfl ⟨X,by rw [e1,e2,e3,e4],hM,HBL.out,hx1,hx2⟩
theorem CopyP.fin {w wr W:World}{c:Cf}{s:Sl}{T:List Value}{B:Nat→Nat}(h:CopyP w wr c s s.tl T B)(hl:c.ways.length=s.wl∧c.slots.length=s.sl∧c.turns.length=s.tl)(hm:c.ways.length≤8∧c.slots.length≤8∧c.turns.length≤3∧∀ i,i<s.tl→(c.turns.getD i []).length≤4)
  (hh:∀ g,w.heap.size+2≤g→W.heap[g]? = wr.heap[g]?) (hs:W.heap.size=wr.heap.size) (hr:Row W (w.heap.size+1) (cfgL c (copySl s w.heap.size)) 43) (ho:W.os=wr.os∧W.tape=wr.tape∧W.output=wr.output) (hlo:∀ g,g<w.heap.size→W.heap[g]? = wr.heap[g]?) :
  (CfgAt W c (copySl s w.heap.size)∧∀ b,CfgB (copySl s w.heap.size) W b→w.heap.size≤b∧b<W.heap.size)∧Row W (w.heap.size+1) (cfgL c (copySl s w.heap.size)) 43∧Below w.heap.size w W:=
 ⟨h.done hl hm hh hs,hr,⟨ho.1.trans h.bel.os,ho.2.1.trans h.bel.tape,ho.2.2.trans h.bel.output,by rw [hs];exact h.bel.size,fun b hb=>(hlo b hb).trans (h.bel.block b hb)⟩⟩
theorem finW_all {wr W:World}{g:Nat}{A:List Value}(c:Cf)(s:Sl)(hW:Hid (W=finW wr g c s))(h:Row wr (g+1) A 43)(hl:A.length=13) :
  (∀ k,k≠g→k≠g+1→W.heap[k]? = wr.heap[k]?)∧W.heap.size=wr.heap.size∧Row W (g+1) (cfgL c (copySl s g)) 43∧(W.os=wr.os∧W.tape=wr.tape∧W.output=wr.output):=by
 have e:=hW.out
 have h1:=fun k a b=>finW_heap wr g c s k a b
 have h2:=finW_size wr g c s
 have h3:=finW_row c s h hl
 have hb:Below g wr (finW wr g c s):=by
  unfold finW
  refine Below.setCell ?_ (by show g≤g+1;omega) _
  refine Below.setCell ?_ (by show g≤g+1;omega) _
  refine Below.setCell ?_ (by show g≤g+1;omega) _
  refine Below.setCell ?_ (by show g≤g+1;omega) _
  refine Below.setCell ?_ (by show g≤g+1;omega) _
  refine Below.setCell ?_ (by show g≤g+1;omega) _
  refine Below.setCell ?_ (by show g≤g+1;omega) _
  refine Below.setCell ?_ (by show g≤g+1;omega) _
  refine Below.setCell ?_ (by show g≤g+1;omega) _
  refine Below.setCell ?_ (by show g≤g+1;omega) _
  refine Below.setCell ?_ (by show g≤g+1;omega) _
  refine Below.setCell ?_ (by show g≤g+1;omega) _
  refine Below.setCell ?_ (by show g≤g+1;omega) _
  exact (Below.refl g wr).setCell (Nat.le_refl _) _
 have h4:(finW wr g c s).os=wr.os∧(finW wr g c s).tape=wr.tape∧(finW wr g c s).output=wr.output:=⟨hb.os,hb.tape,hb.output⟩
 clear hb
 rw [← e] at h1 h2 h3 h4
 exact ⟨h1,h2,h3,h4⟩
set_option maxHeartbeats 16000000 in
theorem kcopy_any (c:Cf)(s:Sl)(w:World)(h:CfgAt w c s)(hz:chk c=0) :
  Calls Tryz.prog 105 #[cfgV c s] w fun e w'=>e = .returned (cfgV c (copySl s w.heap.size))∧CfgAt w' c (copySl s w.heap.size)∧Below w.heap.size w w'∧∀ b,CfgB (copySl s w.heap.size) w' b→w.heap.size≤b∧b<w'.heap.size:=by
 obtain ⟨i0,hi0,hz0,hz1,hz2⟩:=info_parts Tryz.infoIntsN
 have R:=right_of hz
 have sl8:s.sl≤8:=by have:=h.slots.hlen;have:=R.t2;omega
 have tl3:s.tl≤3:=by have:=h.turns.hlen;have:=R.tl;have:=R.c2;omega
 have wl8:s.wl≤8:=by
  have h1:=(chk_zero hz).2.1
  have h2:=h.ways.hlen
  simp only [waysB,listB,Bool.and_eq_true,decide_eq_true_eq] at h1
  omega
 have hW1:=fun (w':World) (hb:Below w.heap.size w w')=>kcopyOf_any s.wa s.wl s.wc c.ways w' (h.ways.below hb (Nat.le_refl _)) wl8
 have hS1:=fun (w':World) (hb:Below w.heap.size w w')=>kcopyOf_any s.sa s.sl s.sc c.slots w' (h.slots.below hb (Nat.le_refl _)) sl8
 have HLN:Hid (c.ways.length=s.wl∧c.slots.length=s.sl∧c.turns.length=s.tl):=⟨h.ways.hlen,h.slots.hlen,h.turns.hlen⟩
 have HLM:Hid (c.ways.length≤8∧c.slots.length≤8∧c.turns.length≤3∧∀ i,i<s.tl→(c.turns.getD i []).length≤4):=by
  have e1:=h.ways.hlen
  have e2:=h.slots.hlen
  have e3:=h.turns.hlen
  exact ⟨by omega,by omega,by omega,fun i hi=>(grid_row R (by omega)).1⟩
 have HC:Hid _:=h
 have b0:∀ A B:Obj,Below w.heap.size w ((w.alloc A).alloc B):=fun A B=>((Below.refl _ _).alloc (Nat.le_refl _) _).alloc (by simp) _
 clear hz R
 go_enter Tryz.func105,Tryz.ntmps105
 go_wp2_with fail
 refine (hW1 _ (b0 _ _)).mono ?_;rintro e w1 ⟨rfl,rfl⟩
 go_wp2_with fail
 refine (hS1 _ ((((Below.refl w.heap.size w).alloc (Nat.le_refl _) _).alloc (by simp) _).alloc (by simp;omega) _)).mono ?_;rintro e w1 ⟨rfl,rfl⟩
 go_wp2_with (at_make;refine wpList_make_exact _ rfl _ _ 41 rfl 25 i0 _ Tryz.underlying41 hi0 hz0 .i64 .i64 _ _ s.tl rfl rfl (by simp) (by simp) (by rw [hz2];omega) (by unfold maxLen;omega) ?_;rw [hz1])
 go_loopw [4] (fun u wr=>∃ (j:Nat) (T:List Value) (B:Nat→Nat),j≤s.tl∧u = .int .i64 j∧CopyP w wr c s j T B) (fun u _=>s.tl-(intOf u).toNat)
 case atStart=>
  refine ⟨0,(madeCells #[.slice none 0 0] s.tl).toList,fun _=>0,by omega,rfl,?_⟩
  have:=CopyP.start w c s
  first | exact this | (rw [Nat.mul_one];exact this)
 case round=>
  obtain ⟨j,T,B,hj,rfl,hP⟩:=hrel
  have c10:wr.cell? ⟨w.heap.size,10,none⟩=some (.slice s.ta s.tl s.tc):=hP.cbox.cell 10
  have HP:Hid _:=hP
  by_cases hlt:j<s.tl
  ·
   obtain ⟨tb,toff,ia,il,ic,e1,e2,e3⟩:=HC.out.turns.hat j hlt
   have ct:wr.cell? ⟨tb,toff+j,none⟩=some (.slice ia il ic):=(hP.bel.cell (p:=⟨tb,toff+j,none⟩) (cell_lt e2)).trans e2
   have hil:=e3.hlen
   have hil4:=HLM.out.2.2.2 j hlt
   have hCp:=kcopyOf_any ia il ic (c.turns.getD j []) wr (e3.below hP.bel (Nat.le_refl _)) (by omega)
   have HM:Hid _:=hP.more hlt
   rw [hil] at HM
   have cT:wr.cell? ⟨w.heap.size+4,j,none⟩=some (.slice none 0 0):=by rw [hP.row.cell];exact hP.old j (Nat.le_refl _) hlt
   have fT:=hP.row.frozen j
   have lT:=hP.row.lt
   rw [e1] at c10
   have HE1:Hid _:=e1
   clear hP e1 e2 e3 hW1 hS1
   go_wp2_with fail
   refine hCp.mono ?_;rintro e w2 ⟨rfl,rfl⟩
   clear hCp
   go_wp2_with fail
   go_roundw
   case rel=>first | exact ⟨j+1,_,_,by omega,by go_num,HM.out⟩ | ((repeat apply Exists.intro);exact ⟨⟨j+1,_,_,by omega,by go_num,HM.out⟩,rfl⟩)
   case measure=>simp [intOf];omega
  ·
   have ej:j=s.tl:=by omega
   subst ej
   have cx0:wr.cell? ⟨w.heap.size,0,none⟩=some (.int .i64 c.cores):=hP.cbox.cell 0
   have cx1:wr.cell? ⟨w.heap.size,1,none⟩=some (.int .i64 c.domains):=hP.cbox.cell 1
   have cx2:wr.cell? ⟨w.heap.size,2,none⟩=some (.int .i64 c.line):=hP.cbox.cell 2
   have cx3:wr.cell? ⟨w.heap.size,3,none⟩=some (.int .i64 c.priv):=hP.cbox.cell 3
   have cx4:wr.cell? ⟨w.heap.size,4,none⟩=some (.int .i64 c.shared):=hP.cbox.cell 4
   have cx5:wr.cell? ⟨w.heap.size,5,none⟩=some (.int .i64 c.near):=hP.cbox.cell 5
   have cx6:wr.cell? ⟨w.heap.size,6,none⟩=some (.int .i64 c.sets):=hP.cbox.cell 6
   have cx7:wr.cell? ⟨w.heap.size,7,none⟩=some (.slice (some ⟨w.heap.size+2,0,none⟩) s.wl s.wl):=hP.cbox.cell 7
   have cx8:wr.cell? ⟨w.heap.size,8,none⟩=some (.int .i64 c.slot):=hP.cbox.cell 8
   have cx9:wr.cell? ⟨w.heap.size,9,none⟩=some (.slice (some ⟨w.heap.size+3,0,none⟩) s.sl s.sl):=hP.cbox.cell 9
   have cx11:wr.cell? ⟨w.heap.size,11,none⟩=some (.int .i64 c.quantum):=hP.cbox.cell 11
   have cx12:wr.cell? ⟨w.heap.size,12,none⟩=some (.int .i64 c.flush):=hP.cbox.cell 12
   have fx10:=hP.cbox.frozen 10
   have r0:wr.cell? ⟨w.heap.size+1,0,none⟩=some (.int .i64 0):=hP.res.cell 0
   have r1:wr.cell? ⟨w.heap.size+1,1,none⟩=some (.int .i64 0):=hP.res.cell 1
   have r2:wr.cell? ⟨w.heap.size+1,2,none⟩=some (.int .i64 0):=hP.res.cell 2
   have r3:wr.cell? ⟨w.heap.size+1,3,none⟩=some (.int .i64 0):=hP.res.cell 3
   have r4:wr.cell? ⟨w.heap.size+1,4,none⟩=some (.int .i64 0):=hP.res.cell 4
   have r5:wr.cell? ⟨w.heap.size+1,5,none⟩=some (.int .i64 0):=hP.res.cell 5
   have r6:wr.cell? ⟨w.heap.size+1,6,none⟩=some (.int .i64 0):=hP.res.cell 6
   have r7:wr.cell? ⟨w.heap.size+1,7,none⟩=some (.slice none 0 0):=hP.res.cell 7
   have r8:wr.cell? ⟨w.heap.size+1,8,none⟩=some (.int .i64 0):=hP.res.cell 8
   have r9:wr.cell? ⟨w.heap.size+1,9,none⟩=some (.slice none 0 0):=hP.res.cell 9
   have r10:wr.cell? ⟨w.heap.size+1,10,none⟩=some (.slice none 0 0):=hP.res.cell 10
   have r11:wr.cell? ⟨w.heap.size+1,11,none⟩=some (.int .i64 0):=hP.res.cell 11
   have r12:wr.cell? ⟨w.heap.size+1,12,none⟩=some (.int .i64 0):=hP.res.cell 12
   have g0:=hP.res.frozen 0
   have g1:=hP.res.frozen 1
   have g2:=hP.res.frozen 2
   have g3:=hP.res.frozen 3
   have g4:=hP.res.frozen 4
   have g5:=hP.res.frozen 5
   have g6:=hP.res.frozen 6
   have g7:=hP.res.frozen 7
   have g8:=hP.res.frozen 8
   have g9:=hP.res.frozen 9
   have g10:=hP.res.frozen 10
   have g11:=hP.res.frozen 11
   have g12:=hP.res.frozen 12
   obtain ⟨W,hWW⟩:∃ W,Hid (W=finW wr w.heap.size c s):=⟨_,rfl⟩
   obtain ⟨f1,f2,f3,f4⟩:=finW_all c s hWW hP.res rfl
   have HF:Hid _:=hP.fin HLN.out HLM.out (fun g hg=>f1 g (by omega) (by omega)) f2 f3 f4 (fun g hg=>f1 g (by omega) (by omega))
   clear f1 f2 f3 f4
   clear hP hW1 hS1
   go_wp2
   change bodyPost _ _ _ _ _ (finW wr w.heap.size c s)
   rw [← hWW.out]
   obtain ⟨hd,hq,hbl⟩:=HF.out
   clear HF
   clear hWW
   have q0:W.cell? ⟨w.heap.size+1,0,none⟩=some (.int .i64 c.cores):=Row.cell hq 0
   have q1:W.cell? ⟨w.heap.size+1,1,none⟩=some (.int .i64 c.domains):=Row.cell hq 1
   have q2:W.cell? ⟨w.heap.size+1,2,none⟩=some (.int .i64 c.line):=Row.cell hq 2
   have q3:W.cell? ⟨w.heap.size+1,3,none⟩=some (.int .i64 c.priv):=Row.cell hq 3
   have q4:W.cell? ⟨w.heap.size+1,4,none⟩=some (.int .i64 c.shared):=Row.cell hq 4
   have q5:W.cell? ⟨w.heap.size+1,5,none⟩=some (.int .i64 c.near):=Row.cell hq 5
   have q6:W.cell? ⟨w.heap.size+1,6,none⟩=some (.int .i64 c.sets):=Row.cell hq 6
   have q7:W.cell? ⟨w.heap.size+1,7,none⟩=some (.slice (some ⟨w.heap.size+2,0,none⟩) s.wl s.wl):=Row.cell hq 7
   have q8:W.cell? ⟨w.heap.size+1,8,none⟩=some (.int .i64 c.slot):=Row.cell hq 8
   have q9:W.cell? ⟨w.heap.size+1,9,none⟩=some (.slice (some ⟨w.heap.size+3,0,none⟩) s.sl s.sl):=Row.cell hq 9
   have q10:W.cell? ⟨w.heap.size+1,10,none⟩=some (.slice (some ⟨w.heap.size+4,0,none⟩) s.tl s.tl):=Row.cell hq 10
   have q11:W.cell? ⟨w.heap.size+1,11,none⟩=some (.int .i64 c.quantum):=Row.cell hq 11
   have q12:W.cell? ⟨w.heap.size+1,12,none⟩=some (.int .i64 c.flush):=Row.cell hq 12
   refine bodyPost_ret (v:=cfgV c (copySl s w.heap.size)) (by simp [results,Tryz.results105,go_sem,q0,q1,q2,q3,q4,q5,q6,q7,q8,q9,q10,q11,q12,copySl]) rfl ⟨rfl,?_,?_,?_⟩
   · exact hd.1
   · exact hbl
   · exact hd.2
abbrev domL (N:Cn)(P:Nat→Nat)(f:Nat→FLoc)(d:Nat):List Value:=[.slice (some ⟨P d,0,none⟩) N.nc N.nc,.slice (some ⟨(f d).r,0,none⟩) N.ns (f d).rc,.slice none 0 0,.slice none 0 0]
abbrev mbL (N:Cn)(s:Sl)(e:ELoc)(n:NLoc)(a3:Nat)(v:Value):List Value:=
 [.int .i64 N.c.cores,.int .i64 N.c.domains,.int .i64 N.c.line,.int .i64 N.c.priv,.int .i64 N.c.shared,.int .i64 N.c.near,.int .i64 N.c.sets,.slice s.wa s.wl s.wc,.int .i64 N.c.slot,.slice s.sa s.sl s.sc,.slice s.ta s.tl s.tc,.int .i64 N.c.quantum,.int .i64 N.c.flush,
 .int .i64 0,.int .i64 N.ln,.slice (some ⟨e.r,0,none⟩) N.nd e.rc,.slice e.sa N.sn e.sc,.slice (some ⟨n.r,0,none⟩) N.nc n.rc,v,.slice (some ⟨a3,0,none⟩) N.nc N.nc]
abbrev zero20:List Value:=[.int .i64 0,.int .i64 0,.int .i64 0,.int .i64 0,.int .i64 0,.int .i64 0,.int .i64 0,.slice none 0 0,.int .i64 0,.slice none 0 0,.slice none 0 0,.int .i64 0,.int .i64 0,.int .i64 0,.int .i64 0,.slice none 0 0,.slice none 0 0,.slice none 0 0,.slice none 0 0,.slice none 0 0]
structure LoopP (w wr:World)(N:Cn)(c0:Sl)(s:Sl)(e:ELoc)(n:NLoc)(G a2 a3 j:Nat)(va:Option Addr)(vc:Nat)(P:Nat→Nat)(f:Nat→FLoc)(lo hi:Nat→Nat):Prop where
 cbox:Row wr w.heap.size (cfgL N.c c0) 43
 mbox:Row wr G (mbL N s e n a3 (.slice va j vc)) 98
 cfg:CfgAt wr N.c s
 cfgr:∀ b,CfgB s wr b→w.heap.size+2≤b∧b<G
 mem:MemM wr N.nd N.pv N.sn e (fun _ _=>0) (fun _=>0)
 memr:G<e.r∧e.r<a2∧∀ b,e.own N.nd b→G<b∧b<a2∧b≠e.r
 near:NearM wr N.nc N.nn n (fun _ _=>cpE)
 nearr:a2≤n.r∧n.r<a3∧∀ b,n.own N.nc b→a2≤b∧b<a3∧b≠n.r
 wks:Cells wr a3 (N.nc*3) 182 (fun i=>wkV ⟨false,0,0⟩ (i%3))
 row:wr.ownsRow (a3+1) 144 4 (.slice va j vc) j ((List.range j).flatMap (domL N P f))
 nin:∀ b,(Value.slice va j vc).ownBlock=some b→∀ d,d<j→¬(lo d≤b∧b<hi d)
 prg:∀ d,d<j→Cells wr (P d) (N.nc*2) 161 (fun i=>if i%2=0 then .slice none 0 0 else .int .i64 0)
 far:∀ d,d<j→FarM wr N.ns (N.wn d) (f d) (fun _ _=>bkE) (fun _=>[])
 fta:∀ d,d<j→∀ k,(f d).ta k=none
 rng:∀ d,d<j→a3<lo d∧hi d≤wr.heap.size∧lo d≤P d∧P d<hi d∧∀ b,(f d).own N.ns b→lo d≤b∧b<hi d∧b≠P d
 inc:∀ d k,d<k→k<j→hi d≤lo k
 ord:w.heap.size+2≤G∧G<a2∧a2≤a3∧a3<wr.heap.size
 bel:Below w.heap.size w wr
 rbox:Row wr (w.heap.size+1) zero20 98
theorem LoopP.below {w wr w':World}{N:Cn}{c0 s:Sl}{e:ELoc}{n:NLoc}{G a2 a3 j:Nat}{va:Option Addr}{vc:Nat}{P:Nat→Nat}{f:Nat→FLoc}{lo hi:Nat→Nat}(h:LoopP w wr N c0 s e n G a2 a3 j va vc P f lo hi)(hb:Below wr.heap.size wr w'):LoopP w w' N c0 s e n G a2 a3 j va vc P f lo hi:=by
 have hs:=hb.size
 have hG:=h.mbox.lt
 have hcf:=h.cfg.same (w':=w') (fun b hb'=>hb.block b (by have:=(h.cfgr b hb').2;omega))
 exact ⟨h.cbox.below hb h.cbox.lt,h.mbox.below hb h.mbox.lt,hcf.1,fun b hb'=>h.cfgr b (hcf.2 b hb'),h.mem.below hb (Nat.le_refl _),h.memr,h.near.below hb (Nat.le_refl _),h.nearr,h.wks.below hb (Nat.le_refl _),owns_same h.row fun g hg=>hb.block g (owns_lt h.row g hg).1,h.nin,fun d hd=>(h.prg d hd).below hb (Nat.le_refl _),fun d hd=>(h.far d hd).below hb (Nat.le_refl _),h.fta,fun d hd=>⟨(h.rng d hd).1,Nat.le_trans (h.rng d hd).2.1 hs,(h.rng d hd).2.2⟩,h.inc,⟨h.ord.1,h.ord.2.1,h.ord.2.2.1,Nat.lt_of_lt_of_le h.ord.2.2.2 hs⟩,h.bel.trans (hb.mono h.bel.size),h.rbox.below hb h.rbox.lt⟩
theorem LoopP.parts {w wr:World}{N:Cn}{c0 s:Sl}{e:ELoc}{n:NLoc}{G a2 a3:Nat}{g vc:Nat}{P:Nat→Nat}{f:Nat→FLoc}{lo hi:Nat→Nat}(h:LoopP w wr N c0 s e n G a2 a3 N.nd (some ⟨g,0,none⟩) vc P f lo hi):Parts wr N ⟨s,e,n,g,vc,P,f⟩ (w.heap.size+2) G a2 a3 lo hi:=by
 have flat:∀ m i,i<m*4→((List.range m).flatMap (domL N P f))[i]? = some (domV N ((⟨s,e,n,g,vc,P,f⟩:YLoc).loc 0 a3 fun _=>none) (i / 4) (i%4)):=fun m=>by
  have hlen:∀ m,((List.range m).flatMap (domL N P f)).length=m*4:=fun m=>by
   induction m with
   | zero=>rfl
   | succ m ihm=>rw [List.range_succ,List.flatMap_append,List.length_append,ihm];simp [domL];omega
  induction m with
  | zero=>intro i hi;omega
  | succ m ih=>
   intro i hi
   rw [List.range_succ,List.flatMap_append]
   by_cases c:i<m*4
   ·
    rw [List.getElem?_append_left (by rw [hlen];exact c)]
    exact ih i c
   ·
    rw [List.getElem?_append_right (by rw [hlen];omega),hlen]
    have:i=m*4∨i=m*4+1∨i=m*4+2∨i=m*4+3:=by omega
    rcases this with q|q|q|q
    · subst q;simp [domL,domV,YLoc.loc,show m*4 / 4=m by omega]
    · subst q;simp [domL,domV,YLoc.loc,show (m*4+1) / 4=m by omega,show (m*4+1)%4=1 by omega,show m*4+1-m*4=1 by omega]
    · subst q;simp [domL,domV,YLoc.loc,show (m*4+2) / 4=m by omega,show (m*4+2)%4=2 by omega,show m*4+2-m*4=2 by omega]
    · subst q;simp [domL,domV,YLoc.loc,show (m*4+3) / 4=m by omega,show (m*4+3)%4=3 by omega,show m*4+3-m*4=3 by omega]
 have hr:=owns_cells h.row _ (flat N.nd)
 exact ⟨h.cfg,h.cfgr,h.mem,⟨Nat.le_of_lt h.memr.1,h.memr.2.1,fun b hb=>⟨Nat.le_of_lt (h.memr.2.2 b hb).1,(h.memr.2.2 b hb).2⟩⟩,h.near,h.nearr,h.wks,hr.1,⟨hr.2.1,hr.2.2.1⟩,⟨by have:=hr.2.2.2.1;show a3<g;omega,fun d hd=>h.nin g rfl d hd⟩,h.prg,h.far,h.fta,h.rng,h.inc,⟨h.ord.1,Nat.le_of_lt h.ord.2.1,h.ord.2.2.1⟩⟩
theorem LoopP.more {w wr w1 w2:World}{N:Cn}{c0 s:Sl}{e:ELoc}{n:NLoc}{G a2 a3 j:Nat}{va:Option Addr}{vc gg cap p l0:Nat}{P:Nat→Nat}{f:Nat→FLoc}{lo hi:Nat→Nat}{F:FLoc}(h:LoopP w wr N c0 s e n G a2 a3 j va vc P f lo hi)(hb1:Below wr.heap.size wr w1)(hl0:wr.heap.size≤l0)(hp:l0≤p∧p<w1.heap.size)
  (hprg:Cells w1 p (N.nc*2) 161 (fun i=>if i%2=0 then .slice none 0 0 else .int .i64 0))
  (hfar:FarM w1 N.ns (N.wn j) F (fun _ _=>bkE) (fun _=>[])) (hfo:∀ b,F.own N.ns b→l0≤b∧b<p) (hta:∀ k,F.ta k=none)
  (hg:w1.grownBy w2 (Value.slice va j vc).ownBlock) (hat:(Value.slice va j vc).ownBlock=some gg∨p<gg)
  (ho:w2.ownsRow (a3+1) 144 4 (.slice (some ⟨gg,0,none⟩) (j+1) cap) (j+1) (((List.range j).flatMap (domL N P f))++[.slice (some ⟨p,0,none⟩) N.nc N.nc,.slice (some ⟨F.r,0,none⟩) N.ns F.rc,.slice none 0 0,.slice none 0 0])) :
  LoopP w (w2.setCell ⟨G,18,none⟩ (.slice (some ⟨gg,0,none⟩) (j+1) cap)) N c0 s e n G a2 a3 (j+1) (some ⟨gg,0,none⟩) cap (up1 P j p) (up1 f j F) (up1 lo j l0) (up1 hi j (p+1)):=by
 have h1:=h.below hb1
 have hs1:=hb1.size
 have hsz2:=hg.size
 obtain ⟨o1,o2,o3,o4⟩:=h.ord
 have hW:(w2.setCell ⟨G,18,none⟩ (.slice (some ⟨gg,0,none⟩) (j+1) cap)).heap.size=w2.heap.size:=by simp [World.setCell]
 have keep:∀ b,b<w1.heap.size→b≠G→(Value.slice va j vc).ownBlock≠some b→(w2.setCell ⟨G,18,none⟩ (.slice (some ⟨gg,0,none⟩) (j+1) cap)).heap[b]? = w1.heap[b]? := fun b hb hbG hbo=>by
  rw [Below.heap_setCell _ _ _ _ hbG]
  exact hg.block b hb (fun e=>hbo e.symm)
 have old:∀ b,(Value.slice va j vc).ownBlock=some b→a3+1≤b∧b<wr.heap.size:=fun b hb=>⟨(owns_lt h.row b hb).2,(owns_lt h.row b hb).1⟩
 have low:∀ b,b≤a3→(Value.slice va j vc).ownBlock≠some b:=fun b hb hh=>by have:=(old b hh).1;omega
 have hcf:=h1.cfg.same (w':=w2.setCell ⟨G,18,none⟩ (.slice (some ⟨gg,0,none⟩) (j+1) cap)) (fun b hb'=>keep b (by have:=h1.cfgr b hb';omega) (by have:=h1.cfgr b hb';omega) (low b (by have:=h1.cfgr b hb';omega)))
 have hmb:Row w2 G (mbL N s e n a3 (.slice va j vc)) 98:=h1.mbox.same (hg.block G h1.mbox.lt (fun e=>low G (by omega) e.symm))
 have kin:∀ d,d<j→∀ b,lo d≤b→b<hi d→(w2.setCell ⟨G,18,none⟩ (.slice (some ⟨gg,0,none⟩) (j+1) cap)).heap[b]? = w1.heap[b]? := fun d hd b hb1' hb2=>by
  have hr:=h.rng d hd
  exact keep b (by omega) (by omega) (fun hh=>h.nin b hh d hd ⟨hb1',hb2⟩)
 have knew:∀ b,l0≤b→b≤p→(w2.setCell ⟨G,18,none⟩ (.slice (some ⟨gg,0,none⟩) (j+1) cap)).heap[b]? = w1.heap[b]? := fun b hb1' hb2=>keep b (by omega) (by omega) (fun hh=>by have:=(old b hh).2;omega)
 refine ⟨h1.cbox.same (keep _ h1.cbox.lt (by omega) (low _ (by omega))),hmb.setCell 18 _,hcf.1,fun b hb'=>h1.cfgr b (hcf.2 b hb'),?_,h.memr,?_,h.nearr,h1.wks.same (keep _ h1.wks.lt (by omega) (low _ (Nat.le_refl _))),?_,fun b hb' d hd=>?_,fun d hd=>?_,fun d hd=>?_,fun d hd k=>?_,fun d hd=>?_,fun d k hdk hk=>?_,⟨o1,o2,o3,by rw [hW];omega⟩,?_,h1.rbox.same (keep _ h1.rbox.lt (by omega) (low _ (by omega)))⟩
 · exact h1.mem.same (keep _ (by have:=h.memr;omega) (by have:=h.memr;omega) (low _ (by have:=h.memr;omega))) (fun b hb hb'=>keep b hb (by have:=h.memr.2.2 b hb';omega) (low b (by have:=h.memr.2.2 b hb';omega)))
 · exact h1.near.same (keep _ (by have:=h.nearr;omega) (by have:=h.nearr;omega) (low _ (by have:=h.nearr;omega))) (fun k hk=>keep _ (h1.near.cel k hk).lt (by have:=h.nearr.2.2 _ ⟨k,hk,rfl⟩;omega) (low _ (by have:=h.nearr.2.2 _ ⟨k,hk,rfl⟩;omega)))
 ·
  have hL:(List.range (j+1)).flatMap (domL N (up1 P j p) (up1 f j F))=((List.range j).flatMap (domL N P f))++[.slice (some ⟨p,0,none⟩) N.nc N.nc,.slice (some ⟨F.r,0,none⟩) N.ns F.rc,.slice none 0 0,.slice none 0 0]:=by
   rw [List.range_succ,List.flatMap_append]
   congr 1
   ·
    have:∀ l:List Nat,(∀ k∈l,k≠j)→l.flatMap (domL N (up1 P j p) (up1 f j F))=l.flatMap (domL N P f):=fun l=>by
     induction l with
     | nil=>intro _;rfl
     | cons x l ih=>
      intro hx
      rw [List.flatMap_cons,List.flatMap_cons,ih (fun k hk=>hx k (List.mem_cons_of_mem _ hk))]
      have:x≠j:=hx x (by simp)
      simp [domL,up1,this]
    exact this _ (fun k hk=>by have:=List.mem_range.1 hk;omega)
   · simp [domL,up1]
  rw [hL]
  exact owns_same ho fun b hb'=>Below.heap_setCell _ _ _ _ (by have:=(owns_lt ho b hb').2;intro e;have:b=G:=e;omega)
 ·
  simp [Value.ownBlock] at hb'
  subst hb'
  rintro ⟨q1,q2⟩
  by_cases e2:d=j
  ·
   subst e2
   simp only [up1,if_true] at q1 q2
   rcases hat with hh|hh
   · have:=(old _ hh).2;omega
   · omega
  ·
   simp only [up1,e2,if_false] at q1 q2
   have hr:=h.rng d (by omega)
   rcases hat with hh|hh
   · exact h.nin _ hh d (by omega) ⟨q1,q2⟩
   · omega
 ·
  by_cases e2:d=j
  ·
   subst e2
   simp only [up1,if_true]
   exact hprg.same (knew p hp.1 (Nat.le_refl _))
  ·
   have hr:=h.rng d (by omega)
   simp only [up1,e2,if_false]
   exact (h1.prg d (by omega)).same (kin d (by omega) _ hr.2.2.1 hr.2.2.2.1)
 ·
  by_cases e2:d=j
  ·
   subst e2
   simp only [up1,if_true]
   refine hfar.same (fun b hb'=>knew b (hfo b hb').1 (by have:=(hfo b hb').2;omega)) (fun b hb'=>?_)
   obtain ⟨k,off,_,q⟩:=hb'
   rw [hta k] at q;cases q
  ·
   have hr:=h.rng d (by omega)
   simp only [up1,e2,if_false]
   refine (h1.far d (by omega)).same (fun b hb'=>kin d (by omega) b (hr.2.2.2.2 b hb').1 (hr.2.2.2.2 b hb').2.1) (fun b hb'=>?_)
   obtain ⟨k,off,_,q⟩:=hb'
   rw [h.fta d (by omega) k] at q;cases q
 ·
  by_cases e2:d=j
  · subst e2;simp only [up1,if_true];exact hta k
  · simp only [up1,e2,if_false];exact h.fta d (by omega) k
 ·
  rw [hW]
  by_cases e2:d=j
  ·
   subst e2
   simp only [up1,if_true]
   exact ⟨by omega,by omega,hp.1,by omega,fun b hb'=>⟨(hfo b hb').1,by have:=(hfo b hb').2;omega,by have:=(hfo b hb').2;omega⟩⟩
  ·
   have hr:=h.rng d (by omega)
   simp only [up1,e2,if_false]
   exact ⟨hr.1,by omega,hr.2.2⟩
 ·
  by_cases e1:d=j
  · omega
  ·
   by_cases e2:k=j
   ·
    subst e2
    have hr:=h.rng d (by omega)
    simp only [up1,e1,if_false,if_true]
    omega
   ·
    simp only [up1,e1,e2,if_false]
    exact h.inc d k hdk (by omega)
 · exact (below_grown h1.bel (by have:=h1.bel.size;omega) hg (fun b hb'=>by have:=(old b hb').1;omega)).setCell (show w.heap.size≤G by omega) _
abbrev made20 (c:Cf)(s:Sl):List Value:=[.int .i64 c.cores,.int .i64 c.domains,.int .i64 c.line,.int .i64 c.priv,.int .i64 c.shared,.int .i64 c.near,.int .i64 c.sets,.slice s.wa s.wl s.wc,.int .i64 c.slot,.slice s.sa s.sl s.sc,.slice s.ta s.tl s.tc,.int .i64 c.quantum,.int .i64 c.flush,.int .i64 0,.int .i64 0,.slice none 0 0,.slice none 0 0,.slice none 0 0,.slice none 0 0,.slice none 0 0]
theorem Tryz.sizeMachine:(Tryz.prog.info? 98).map (fun i=>i.size)=some 20:=by kernel_rfl
theorem built20 (c:Cf)(s:Sl):Tryz.prog.built 98 [(0,cfgV c s)]=some (made20 c s).toArray:=by kernel_rfl
theorem alloc20 (ev:Operand→Value)(o:Oper)(ho:o.op = .alloc 98)(w:World):(execOp ev o).run Tryz.prog w = .ok (.value (.pointer (some ⟨w.heap.size,0,none⟩))) (w.alloc (.cells zero20.toArray 98)):=by
 unfold execOp
 rw [ho]
 simp [go_sem]
theorem one20 (c:Cf)(s:Sl):(made20 c s).toArray.all (·.oneCell')=true:=by simp [Value.oneCell']
theorem size20 (c:Cf)(s:Sl):zero20.toArray.size=(made20 c s).toArray.size:=by simp
theorem sizeM20 (c:Cf)(s:Sl):(Tryz.prog.info? 98).map (·.size)=some (made20 c s).toArray.size:=by rw [show (made20 c s).toArray.size=20 by simp];exact Tryz.sizeMachine
structure Mk (w wx:World)(c:Cf)(s s2:Sl)(G:Nat)(L:List Value):Prop where
 row:Row wx G L 98
 cfg:CfgAt wx c s2
 cfgr:∀ b,CfgB s2 wx b→w.heap.size+2≤b∧b<G
 box:Row wx w.heap.size (cfgL c s) 43
 bel:Below w.heap.size w wx
 ord:w.heap.size+2≤G
 rbox:Row wx (w.heap.size+1) zero20 98
theorem Mk.below {w wx wy:World}{c:Cf}{s s2:Sl}{G:Nat}{L:List Value}(h:Mk w wx c s s2 G L)(hb:Below wx.heap.size wx wy):Mk w wy c s s2 G L:=by
 have hl:=h.row.lt
 have hcf:=h.cfg.same (w':=wy) (fun b hb'=>hb.block b (by have:=(h.cfgr b hb').2;omega))
 exact ⟨h.row.below hb hl,hcf.1,fun b hb'=>h.cfgr b (hcf.2 b hb'),h.box.below hb h.box.lt,below_step h.bel hb rfl,h.ord,h.rbox.below hb h.rbox.lt⟩
theorem Mk.set {w wx:World}{c:Cf}{s s2:Sl}{G:Nat}{L:List Value}(h:Mk w wx c s s2 G L)(i:Nat)(v:Value):Mk w (wx.setCell ⟨G,i,none⟩ v) c s s2 G (L.set i v):=by
 have hcf:=h.cfg.same (w':=wx.setCell ⟨G,i,none⟩ v) (fun b hb'=>Below.heap_setCell _ _ _ _ (by have:=(h.cfgr b hb').2;show b≠G;omega))
 exact ⟨h.row.setCell i v,hcf.1,fun b hb'=>h.cfgr b (hcf.2 b hb'),h.box.setCellOther i v (by have:=h.ord;omega),h.bel.setCell (show w.heap.size≤G by have:=h.ord;omega) v,h.ord,h.rbox.setCellOther i v (by have:=h.ord;omega)⟩
theorem mem_set {wx:World}{nd pv sn G:Nat}{e:ELoc}{own:Nat→Nat→Int}{sh:Nat→Int}(h:MemM wx nd pv sn e own sh)(hr:e.r≠G)(ho:∀ b,e.own nd b→b≠G)(i:Nat)(v:Value):MemM (wx.setCell ⟨G,i,none⟩ v) nd pv sn e own sh:=
 h.same (Below.heap_setCell _ _ _ _ hr) (fun b _ hb=>Below.heap_setCell _ _ _ _ (ho b hb))
theorem near_set {wx:World}{nc nn G:Nat}{n:NLoc}{nr:Nat→Nat→Cp}(h:NearM wx nc nn n nr)(hr:n.r≠G)(ho:∀ k,k<nc→n.b k≠G)(i:Nat)(v:Value):NearM (wx.setCell ⟨G,i,none⟩ v) nc nn n nr:=
 h.same (Below.heap_setCell _ _ _ _ hr) (fun k hk=>Below.heap_setCell _ _ _ _ (ho k hk))
theorem near_apart {w:World}{nc nn:Nat}{n:NLoc}{nr:Nat→Nat→Cp}(h:NearM w nc nn n nr){k:Nat}(hk:k<nc):n.b k≠n.r:=fun e=>by
 have h1:=h.cel k hk
 rw [e] at h1
 have:=h1.type h.row
 exact absurd this (by decide)
abbrev mem20 (c:Cf)(s:Sl)(N:Cn)(e:ELoc):List Value:=[.int .i64 c.cores,.int .i64 c.domains,.int .i64 c.line,.int .i64 c.priv,.int .i64 c.shared,.int .i64 c.near,.int .i64 c.sets,.slice s.wa s.wl s.wc,.int .i64 c.slot,.slice s.sa s.sl s.sc,.slice s.ta s.tl s.tc,.int .i64 c.quantum,.int .i64 c.flush,.int .i64 0,.int .i64 N.ln,.slice (some ⟨e.r,0,none⟩) N.nd e.rc,.slice e.sa N.sn e.sc,.slice none 0 0,.slice none 0 0,.slice none 0 0]
abbrev near20 (c:Cf)(s:Sl)(N:Cn)(e:ELoc)(n:NLoc):List Value:=[.int .i64 c.cores,.int .i64 c.domains,.int .i64 c.line,.int .i64 c.priv,.int .i64 c.shared,.int .i64 c.near,.int .i64 c.sets,.slice s.wa s.wl s.wc,.int .i64 c.slot,.slice s.sa s.sl s.sc,.slice s.ta s.tl s.tc,.int .i64 c.quantum,.int .i64 c.flush,.int .i64 0,.int .i64 N.ln,.slice (some ⟨e.r,0,none⟩) N.nd e.rc,.slice e.sa N.sn e.sc,.slice (some ⟨n.r,0,none⟩) N.nc n.rc,.slice none 0 0,.slice none 0 0]
structure MkMem (w wx:World)(c:Cf)(s s2:Sl)(N:Cn)(G a2:Nat)(e:ELoc)(L:List Value):Prop where
 mk0:Mk w wx c s s2 G L
 mem:MemM wx N.nd N.pv N.sn e (fun _ _=>0) (fun _=>0)
 memr:G<e.r∧e.r<a2∧∀ b,e.own N.nd b→G<b∧b<a2∧b≠e.r
 a2:G<a2∧a2≤wx.heap.size
structure MkNear (w wx:World)(c:Cf)(s s2:Sl)(N:Cn)(G a2 a3:Nat)(e:ELoc)(n:NLoc)(L:List Value):Prop where
 mm:MkMem w wx c s s2 N G a2 e L
 near:NearM wx N.nc N.nn n (fun _ _=>cpE)
 nearr:a2≤n.r∧n.r<a3∧∀ b,n.own N.nc b→a2≤b∧b<a3∧b≠n.r
 a3:a2≤a3∧a3≤wx.heap.size
theorem MkMem.below {w wx wy:World}{c:Cf}{s s2:Sl}{N:Cn}{G a2:Nat}{e:ELoc}{L:List Value}(h:MkMem w wx c s s2 N G a2 e L)(hb:Below wx.heap.size wx wy):MkMem w wy c s s2 N G a2 e L:=
 ⟨h.mk0.below hb,h.mem.below hb (Nat.le_refl _),h.memr,h.a2.1,Nat.le_trans h.a2.2 hb.size⟩
theorem MkMem.set {w wx:World}{c:Cf}{s s2:Sl}{N:Cn}{G a2:Nat}{e:ELoc}{L:List Value}(h:MkMem w wx c s s2 N G a2 e L)(i:Nat)(v:Value):MkMem w (wx.setCell ⟨G,i,none⟩ v) c s s2 N G a2 e (L.set i v):=
 ⟨h.mk0.set i v,mem_set h.mem (by have:=h.memr;omega) (fun b hb=>by have:=h.memr.2.2 b hb;omega) i v,h.memr,h.a2.1,by simp [World.setCell];exact h.a2.2⟩
theorem MkNear.below {w wx wy:World}{c:Cf}{s s2:Sl}{N:Cn}{G a2 a3:Nat}{e:ELoc}{n:NLoc}{L:List Value}(h:MkNear w wx c s s2 N G a2 a3 e n L)(hb:Below wx.heap.size wx wy):MkNear w wy c s s2 N G a2 a3 e n L:=
 ⟨h.mm.below hb,h.near.below hb (Nat.le_refl _),h.nearr,h.a3.1,Nat.le_trans h.a3.2 hb.size⟩
theorem MkNear.set {w wx:World}{c:Cf}{s s2:Sl}{N:Cn}{G a2 a3:Nat}{e:ELoc}{n:NLoc}{L:List Value}(h:MkNear w wx c s s2 N G a2 a3 e n L)(i:Nat)(v:Value):MkNear w (wx.setCell ⟨G,i,none⟩ v) c s s2 N G a2 a3 e n (L.set i v):=
 ⟨h.mm.set i v,near_set h.near (by have:=h.nearr;have:=h.mm.a2;omega) (fun k hk=>by have:=h.nearr.2.2 _ ⟨k,hk,rfl⟩;have:=h.mm.a2;omega) i v,h.nearr,h.a3.1,by simp [World.setCell];exact h.a3.2⟩
theorem made_cells (w:World)(z:List Value)(h0:0<z.length)(n:Nat)(t:TypeId):Cells (w.alloc (.cells (madeCells z.toArray n) t)) w.heap.size n t (fun i=>z.getD (i%z.length) undef):=
 ⟨(madeCells z.toArray n).toList,by unfold Row;rw [Array.toArray_toList];exact heap_alloc_new _ _,fun i hi=>by
  have hm:i%z.length<z.length:=Nat.mod_lt _ h0
  simp [madeCells,hi,hm,List.getD_eq_getElem?_getD]⟩
def fz0:FLoc:=⟨0,0,fun _=>0,fun _=>0,fun _=>none,fun _=>0,fun _=>0⟩
theorem MkNear.loop {w wx:World}{c:Cf}{s s2:Sl}{N:Cn}{G a2 a3:Nat}{e:ELoc}{n:NLoc}(h:MkNear w wx c s s2 N G a2 a3 e n (near20 c s2 N e n))(eN:N.c=c) :
  LoopP w ((wx.setCell ⟨G,19,none⟩ (.slice (some ⟨wx.heap.size,0,none⟩) N.nc N.nc)).alloc (.cells (madeCells #[.bool false,.int .i64 0,.int .i64 0] (N.nc*3)) 182)) N s s2 e n G a2 wx.heap.size 0 none 0 (fun _=>0) (fun _=>fz0) (fun _=>0) (fun _=>0):=by
 subst eN
 have hsz:(wx.setCell ⟨G,19,none⟩ (.slice (some ⟨wx.heap.size,0,none⟩) N.nc N.nc)).heap.size=wx.heap.size:=by simp [World.setCell]
 have h1:=h.set 19 (.slice (some ⟨wx.heap.size,0,none⟩) N.nc N.nc)
 have hb:=(Below.refl (wx.setCell ⟨G,19,none⟩ (.slice (some ⟨wx.heap.size,0,none⟩) N.nc N.nc)).heap.size (wx.setCell ⟨G,19,none⟩ (.slice (some ⟨wx.heap.size,0,none⟩) N.nc N.nc))).alloc (Nat.le_refl _) (.cells (madeCells #[.bool false,.int .i64 0,.int .i64 0] (N.nc*3)) 182)
 have h2:=h1.below hb
 have hw:=made_cells (wx.setCell ⟨G,19,none⟩ (.slice (some ⟨wx.heap.size,0,none⟩) N.nc N.nc)) [.bool false,.int .i64 0,.int .i64 0] (by simp) (N.nc*3) 182
 rw [hsz] at hw
 have o1:=h.mm.mk0.ord
 have o2:=h.mm.a2
 have o3:=h.a3
 refine ⟨h2.mm.mk0.box,h2.mm.mk0.row,h2.mm.mk0.cfg,h2.mm.mk0.cfgr,h2.mm.mem,h.mm.memr,h2.near,⟨h.nearr.1,by have:=h.nearr.2.1;omega,fun b hb'=>by have:=h.nearr.2.2 b hb';omega⟩,hw.congr fun i _=>?_,by simp [World.ownsRow],fun b hb'=>by simp [Value.ownBlock] at hb',fun d hd=>absurd hd (Nat.not_lt_zero d),fun d hd=>absurd hd (Nat.not_lt_zero d),fun d hd=>absurd hd (Nat.not_lt_zero d),fun d hd=>absurd hd (Nat.not_lt_zero d),fun d k _ hk=>absurd hk (Nat.not_lt_zero k),⟨o1,o2.1,by omega,by rw [World.size_alloc,hsz];omega⟩,h2.mm.mk0.bel,h2.mm.mk0.rbox⟩
 have:i%3=0∨i%3=1∨i%3=2:=by omega
 rcases this with q|q|q <;> simp [q,wkV]
theorem Parts.same {w w':World}{N:Cn}{Y:YLoc}{a0 a1 a2 a3 q:Nat}{lo hi:Nat→Nat}(h:Parts w N Y a0 a1 a2 a3 lo hi)(hq:q<a0)(hs:w'.heap.size=w.heap.size)(hb:∀ b,b≠q→w'.heap[b]? = w.heap[b]?):Parts w' N Y a0 a1 a2 a3 lo hi:=by
 obtain ⟨o1,o2,o3⟩:=h.ord
 have hcf:=h.cfg.same (w':=w') (fun b hb'=>hb b (by have:=(h.cfgr b hb').1;omega))
 refine ⟨hcf.1,fun b hb'=>h.cfgr b (hcf.2 b hb'),h.mem.same (hb _ (by have:=h.memr;omega)) (fun b _ hb'=>hb b (by have:=h.memr.2.2 b hb';omega)),h.memr,h.near.same (hb _ (by have:=h.nearr;omega)) (fun k hk=>hb _ (by have:=h.nearr.2.2 _ ⟨k,hk,rfl⟩;omega)),h.nearr,h.wks.same (hb _ (by omega)),h.dom.same (hb _ (by have:=h.dmr.1;omega)),h.dcap,h.dmr,fun d hd=>(h.prg d hd).same (hb _ (by have:=h.rng d hd;omega)),fun d hd=>(h.far d hd).same (fun b hb'=>hb b (by have:=h.rng d hd;have:=this.2.2.2.2 b hb';omega)) (fun b hb'=>?_),h.fta,fun d hd=>by rw [hs];exact h.rng d hd,h.inc,h.ord⟩
 obtain ⟨k,off,_,e⟩:=hb'
 rw [h.fta d hd k] at e;cases e
theorem heap_setRow (w:World)(g:Nat)(cs:Array Value)(b:Nat)(h:b≠g):(w.setRow g cs).heap[b]? = w.heap[b]? := by
 simp only [World.setRow,Array.getElem?_modify]
 rw [if_neg (by omega)]
theorem row_setRow {w:World}{g:Nat}{A:List Value}{t:TypeId}(h:Row w g A t)(cs:List Value):Row (w.setRow g cs.toArray) g cs t:=by
 unfold Row at h ⊢
 simp only [World.setRow,Array.getElem?_modify]
 simp only [if_true]
 rw [h]
 rfl
theorem below_setRow {B:Nat}{a w:World}(h:Below B a w){g:Nat}(hg:B≤g)(cs:Array Value):Below B a (w.setRow g cs):=
 h.trans ⟨rfl,rfl,rfl,by simp [World.setRow],fun k hk=>heap_setRow _ _ _ _ (by omega)⟩
end Go.Proofs.YtehheaedbnfidaaGreat
