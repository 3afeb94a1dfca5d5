import Derived.Test.YtehheaedbnfidaaGreatClWLent4
set_option maxRecDepth 100000
namespace Go.Proofs.YtehheaedbnfidaaGreat
open Go.RowKit
attribute [local go_sem] Tryz.nilInts Tryz.nilGrid
theorem Tryz.infoInts:(Tryz.prog.info? 25).map (fun i=>(i.zero,i.size,i.bytes))=some (some (.slice none 0 0),1,24):=by kernel_rfl
theorem made_nil (n:Nat):madeCells #[Value.slice none 0 0] n=(List.replicate n (Value.slice none 0 0)).toArray:=by
 apply Array.ext_getElem?
 intro i
 simp only [madeCells,Array.getElem?_map]
 by_cases h:i<n
 · simp [h,Nat.mod_one]
 · simp [h]
theorem GSt.start (w w5:World)(lo:Nat)(ta:Option Addr)(xss:List (List Int))(n:Nat) :
  GSt w ((w5.alloc (.cells (madeCells #[.slice none 0 0] (n+8)) 25)).alloc (.cells (madeCells #[.slice none 0 0] n) 25)) lo ta xss n 0 w5.heap.size (w5.heap.size+1) (List.replicate (n+8) (.slice none 0 0)) (List.replicate n (.slice none 0 0)) (fun _=>0):=by
 refine ⟨?_,?_,by simp,by simp,?_,?_,?_,?_,?_⟩
 ·
  have:Row (w5.alloc (.cells (madeCells #[.slice none 0 0] (n+8)) 25)) w5.heap.size (List.replicate (n+8) (.slice none 0 0)) 25:=by
   rw [made_nil];exact heap_alloc_new w5 _
  exact this.alloc _
 ·
  have:=heap_alloc_new (w5.alloc (.cells (madeCells #[.slice none 0 0] (n+8)) 25)) (.cells (madeCells #[.slice none 0 0] n) 25)
  rw [World.size_alloc] at this
  rw [made_nil n] at this ⊢
  exact this
 all_goals intros;omega
structure LentG (w w':World)(lo:Nat)(xss:List (List Int))(ta:Option Addr)(ta':Option Addr)(tl' tc':Nat)(ma:Option Addr)(ml mc:Nat)(gt gm:Nat)(T M:List Value)(G:Nat→Nat):Prop where
 hta:ta'=some ⟨gt,0,none⟩
 htl:tl'=xss.length
 htc:tc'=xss.length+8
 hma:ma=some ⟨gm,0,none⟩
 hml:ml=xss.length
 hmc:mc=xss.length
 lo1:lo≤gt
 lo2:lo≤gm
 lo3:gt<gm
 st:GSt w w' (gm+1) ta xss xss.length (xss.length+8) gt gm T M G
set_option maxHeartbeats 2000000 in
theorem lent_some (c:Cf)(s:Sl)(w:World)(h:CfgAt w c s)(hc:CfR c)(hn:s.ta≠none) :
  Calls Tryz.prog 29 #[cfgV c s] w fun e w'=>∃ s1 ma ml mc,e = .returned (.tuple #[cfgV c s1,.slice ma ml mc])∧Below w.heap.size w w'∧LentW w' w.heap.size c s s1∧∃ gt gm T M G,LentG w w' w.heap.size c.turns s.ta s1.ta s1.tl s1.tc ma ml mc gt gm T M G:=by
 obtain ⟨wa,wl,wc,sa,sl,sc,ta,n,tc⟩:=s
 obtain ⟨at0,rfl⟩:∃ x,ta=some x:=by
  cases ta with
  | none=>exact absurd rfl hn
  | some x=>exact ⟨x,rfl⟩
 clear hn
 have k0:=LSt.start w c ⟨wa,wl,wc,sa,sl,sc,some at0,n,tc⟩
 have r1:=hc.ways
 rw [h.ways.hlen] at r1
 have r2:=hc.slots
 rw [h.slots.hlen] at r2
 have r3:=hc.turns
 rw [h.turns.hlen] at r3
 obtain ⟨i0,hi,hz0,hz1,hz2⟩:=info_parts Tryz.infoInts
 go_enter Tryz.func29,Tryz.ntmps29
 go_wp2_with fail
 refine (lentInts_any wa wl wc c.ways _ (h.ways.below k0.below (Nat.le_refl _)) r1).mono ?_
 rintro e w1 ⟨va,vl,vc,rfl,l1,hb1,hs1⟩
 have k1:=k0.call hb1 rfl
 obtain ⟨q1,f1,s2,c2,q2,f2⟩:=k1.facts
 go_wp2_with fail
 have k2:=k1.set7 va vl vc
 have l2:LentI (w1.setCell ⟨w.heap.size,7,none⟩ (.slice va vl vc)) wa c.ways va vl vc (w.heap.size+2):=by
  simp only [World.size_alloc] at l1
  exact l1.same (Below.heap_setCell _ _ _ _ (by simp;omega))
 have hs2:w.heap.size+2≤(w1.setCell ⟨w.heap.size,7,none⟩ (.slice va vl vc)).heap.size:=by
  have:=hb1.size
  simp only [World.size_alloc] at this
  simpa [World.setCell] using this
 clear q1 f1 q2 f2 hb1 hs1 l1 k0 k1
 generalize w1.setCell ⟨w.heap.size,7,none⟩ (.slice va vl vc)=w2 at *
 clear w1 s2 c2
 refine (lentInts_any sa sl sc c.slots _ (h.slots.below k2.below (Nat.le_refl _)) r2).mono ?_
 rintro e w3 ⟨ua,ul,uc,rfl,l3,hb3,hs3⟩
 have k3:=k2.call hb3 rfl
 have l2':=l2.below hb3 (Nat.le_refl _)
 have hs4:w.heap.size+2≤w3.heap.size:=Nat.le_trans hs2 hb3.size
 obtain ⟨q1,f1,s2,c2,q2,f2⟩:=k3.facts
 go_wp2_with (first | (at_make;refine wpList_make_exact _ rfl (.tmp 24) (.tmp 24) 41 rfl 25 i0 (.slice none 0 0) Tryz.underlying41 hi hz0 .i64 .i64 _ _ (n+8) rfl rfl (by simp) (by simp) (by rw [hz2];omega) (by unfold maxLen;omega) ?_;rw [hz1]) | (at_make;refine wpList_make_exact _ rfl (.tmp 26) (.tmp 26) 41 rfl 25 i0 (.slice none 0 0) Tryz.underlying41 hi hz0 .i64 .i64 _ _ n rfl rfl (by simp) (by simp) (by rw [hz2];omega) (by unfold maxLen;omega) ?_;rw [hz1]))
 have e5:(w3.setCell ⟨w.heap.size,9,none⟩ (.slice ua ul uc)).heap.size=w3.heap.size:=by simp [World.setCell]
 have k4:=k3.set9 ua ul uc
 have l2'':LentI (w3.setCell ⟨w.heap.size,9,none⟩ (.slice ua ul uc)) wa c.ways va vl vc (w.heap.size+2):=l2'.same (Below.heap_setCell _ _ _ _ (by simp))
 have l3':LentI (w3.setCell ⟨w.heap.size,9,none⟩ (.slice ua ul uc)) sa c.slots ua ul uc w2.heap.size:=l3.same (Below.heap_setCell _ _ _ _ (by simp;omega))
 have HE:Hid _:=e5
 have HT:Hid (c.turns.length=n):=h.turns.hlen
 have n1:¬w.heap.size=w3.heap.size:=by omega
 clear q1 f1 q2 f2 e5 hb3 hs3 l3 l2' l2 k3 k2
 go_loopw [7] (fun i wr=>∃ k T M G,k≤n+8∧i = .int .i64 (k:Nat)∧Below w3.heap.size (w3.setCell ⟨w.heap.size,9,none⟩ (.slice ua ul uc)) wr∧w3.heap.size+2≤wr.heap.size∧GSt w wr (w3.heap.size+2) (some at0) c.turns n k w3.heap.size (w3.heap.size+1) T M G) (fun i _=>n+8-(intOf i).toNat)
 case atStart=>
  have e:=HE.out
  have g:=GSt.start w (w3.setCell ⟨w.heap.size,9,none⟩ (.slice ua ul uc)) (w3.heap.size+2) (some at0) c.turns n
  rw [e] at g
  refine ⟨0,_,_,_,by omega,rfl,?_,?_,g⟩
  · exact ((Below.refl _ _).alloc (by rw [e];exact Nat.le_refl _) _).alloc (by rw [World.size_alloc,e];omega) _
  · rw [World.size_alloc,World.size_alloc,e];exact Nat.le_refl _
 case round=>
  obtain ⟨k,T,M,G,hk,rfl,hbl,hsz,hg⟩:=hrel
  have k5:=k4.call hbl HE.out.symm
  obtain ⟨q1,f1,s2,c2,q2,f2⟩:=k5.facts
  have cB:=q1 10
  simp only [cfgA] at cB
  have z1:w.heap.size<wr.heap.size:=by omega
  have z3:w3.heap.size<wr.heap.size:=by omega
  have HG:Hid _:=hg
  have HB:Hid _:=hbl
  by_cases hk8:k<n+8
  ·
   obtain ⟨x,hx⟩:∃ x,T[k]? = some x:=⟨T[k]'(by rw [hg.lenT];exact hk8),List.getElem?_eq_getElem _⟩
   have cT:wr.cell? ⟨w3.heap.size,k,none⟩=some x:=by rw [hg.rowT.cell,hx]
   have fT:wr.frozen? ⟨w3.heap.size,k,none⟩=false:=hg.rowT.frozen k
   by_cases hkn:k<n
   ·
    obtain ⟨b,off,ia,il,ic,ha0,hcS,hiS⟩:=h.turns.hat k hkn
    simp only [Option.some.injEq] at ha0
    subst ha0
    have z2:b<w.heap.size:=cell_lt hcS
    have cS:wr.cell? ⟨b,off+k,none⟩=some (.slice ia il ic):=by rw [k5.below.cell (p:=⟨b,off+k,none⟩) z2];exact hcS
    have hiR:=hiS.below k5.below (Nat.le_refl _)
    have rk:il*8≤140737488351232:=by
     have:=hc.each k (by rw [HT.out];exact hkn)
     rwa [hiS.hlen] at this
    have z4:b<wr.heap.size:=by omega
    have n2:¬b=w3.heap.size:=by omega
    have HC:Hid _:=hcS
    clear q1 f1 q2 f2 hx hg hbl hcS
    go_wp2_with fail
    have hX:(wr.setCell ⟨w3.heap.size,k,none⟩ (.slice (some ⟨wr.heap.size,0,none⟩) 1 1)).alloc (.cells #[.int .i64 77] 3)=(wr.alloc (.cells #[.int .i64 77] 3)).setCell ⟨w3.heap.size,k,none⟩ (.slice (some ⟨wr.heap.size,0,none⟩) 1 1):=(World.setCell_alloc_past _ _ _ _ z3).symm
    rw [hX]
    have HX:Hid _:=hX
    clear hX
    have bX:Below wr.heap.size wr ((wr.setCell ⟨w3.heap.size,k,none⟩ (.slice (some ⟨wr.heap.size,0,none⟩) 1 1)).alloc (.cells #[.int .i64 77] 3))→True:=fun _=>trivial
    clear bX
    have bW:Below w.heap.size w ((wr.alloc (.cells #[.int .i64 77] 3)).setCell ⟨w3.heap.size,k,none⟩ (.slice (some ⟨wr.heap.size,0,none⟩) 1 1)):=(k5.below.alloc (by omega) _).setCell (by simp only [];omega) _
    have rTX:=(HG.out.rowT.alloc (.cells #[.int .i64 77] 3)).setCell k (.slice (some ⟨wr.heap.size,0,none⟩) 1 1)
    have rMX:=(HG.out.rowM.alloc (.cells #[.int .i64 77] 3)).setCellOther (g:=w3.heap.size) k (.slice (some ⟨wr.heap.size,0,none⟩) 1 1) (by omega)
    have sX:((wr.alloc (.cells #[.int .i64 77] 3)).setCell ⟨w3.heap.size,k,none⟩ (.slice (some ⟨wr.heap.size,0,none⟩) 1 1)).heap.size=wr.heap.size+1:=by simp [World.setCell]
    have HS:Hid _:=sX
    have bY:Below w3.heap.size (w3.setCell ⟨w.heap.size,9,none⟩ (.slice ua ul uc)) ((wr.alloc (.cells #[.int .i64 77] 3)).setCell ⟨w3.heap.size,k,none⟩ (.slice (some ⟨wr.heap.size,0,none⟩) 1 1)):=(HB.out.alloc (by omega) _).setCell (by simp) _
    refine (lentInts_any ia il ic (c.turns.getD k []) _ (hiS.below bW (Nat.le_refl _)) rk).mono ?_
    rintro e w6 ⟨xa,xl,xc,rfl,l6,hb6,hs6⟩
    rw [HS.out] at l6 hb6 hs6
    have hG:=HG.out.list (by omega) (by omega) (by omega) hsz hkn rfl HC.out hb6 l6
    have HG2:Hid _:=hG
    have s6:wr.heap.size+1≤w6.heap.size:=by rw [← HS.out];exact hb6.size
    have rT6:=rTX.below hb6 (by omega)
    have rM6:=rMX.below hb6 (by omega)
    have cT6:w6.cell? ⟨w3.heap.size,k,none⟩=some (.slice (some ⟨wr.heap.size,0,none⟩) 1 1):=by
     rw [rT6.cell,List.getElem?_set_self (by rw [HG.out.lenT];exact hk8)]
    have fT6:w6.frozen? ⟨w3.heap.size,k,none⟩=false:=rT6.frozen k
    obtain ⟨y,hy⟩:∃ y,M[k]? = some y:=⟨M[k]'(by rw [HG.out.lenM];exact hkn),List.getElem?_eq_getElem _⟩
    have cM6:w6.cell? ⟨w3.heap.size+1,k,none⟩=some y:=by rw [rM6.cell,hy]
    have fM6:w6.frozen? ⟨w3.heap.size+1,k,none⟩=false:=rM6.frozen k
    have b6:Hid (Below w3.heap.size (w3.setCell ⟨w.heap.size,9,none⟩ (.slice ua ul uc)) w6):=bY.trans (hb6.mono (by omega))
    clear hG hy rT6 rM6 hb6 hs6 l6 rTX rMX sX bW bY cS cT fT cB hiR hiS
    go_wp2
    go_roundw
    case rel=>
     obtain ⟨G',hg'⟩:=HG2.out
     refine ⟨k+1,_,_,G',by omega,by go_num,?_,?_,hg'⟩
     · exact (b6.out.setCell (by simp) _).setCell (by simp) _
     · simp [World.setCell];omega
    case measure=>simp [intOf];omega
   ·
    clear q1 f1 q2 f2 hx hg hbl
    go_wp2
    go_roundw
    case rel=>
     have hg':=HG.out.past (by omega) (by omega) (by omega) hsz hk8 (by omega)
     rw [World.setCell_alloc_past _ _ _ _ z3] at hg'
     refine ⟨k+1,_,_,_,by omega,by go_num,?_,?_,hg'⟩
     · refine (HB.out.setCell (Nat.le_refl _) _).alloc (by simp [World.setCell];omega) _
     · simp [World.setCell];omega
    case measure=>simp [intOf];omega
  ·
   have ek:k=n+8:=by omega
   subst ek
   clear cB hg hbl
   go_wp2
   have hk9:∀ W:World,(∀ j,w.heap.size+2≤j→W.heap[j]? = wr.heap[j]?)→wr.heap.size≤W.heap.size→LentW W w.heap.size c ⟨wa,wl,wc,sa,sl,sc,some at0,n,tc⟩ ⟨va,vl,vc,ua,ul,uc,some ⟨w3.heap.size,0,none⟩,n,n+8⟩∧LentG w W w.heap.size c.turns (some at0) (some ⟨w3.heap.size,0,none⟩) n (n+8) (some ⟨w3.heap.size+1,0,none⟩) n n w3.heap.size (w3.heap.size+1) T M G:=by
    intro W hW hWz
    have m1:=l2''.below HB.out (by rw [HE.out];exact Nat.le_refl _)
    have m2:=l3'.below HB.out (by rw [HE.out];exact Nat.le_refl _)
    have e:=HT.out
    refine ⟨⟨⟨w.heap.size+2,by omega,m1.same (hW _ (Nat.le_refl _))⟩,⟨w2.heap.size,by omega,m2.same (hW _ hs2)⟩⟩,rfl,e.symm,by rw [e],rfl,e.symm,e.symm,by omega,by omega,by omega,?_⟩
    rw [e]
    exact HG.out.keep hW (by omega) (by omega) (by omega) hWz
   have HK:Hid _:=hk9
   refine bodyPost_ret (v:=.tuple #[cfgV c ⟨va,vl,vc,ua,ul,uc,some ⟨w3.heap.size,0,none⟩,n,n+8⟩,.slice (some ⟨w3.heap.size+1,0,none⟩) n n]) (by simp [results,Tryz.results29,go_sem,q2]) rfl ⟨⟨va,vl,vc,ua,ul,uc,some ⟨w3.heap.size,0,none⟩,n,n+8⟩,_,_,_,rfl,?_,(HK.out _ ?_ ?_).1,_,_,_,_,_,(HK.out _ ?_ ?_).2⟩
   ·
    iterate 14 refine Below.setCell ?_ (by simp) _
    exact k5.below
   all_goals first
    | ((intro j hj);(iterate 14 rw [Below.heap_setCell]);(all_goals (simp only [];omega)))
    | simp [World.setCell]
end Go.Proofs.YtehheaedbnfidaaGreat
namespace Go.Proofs.YtehheaedbnfidaaGreat
open Go.RowKit
set_option maxHeartbeats 3200000 in
theorem nshareOthers_any (nc nn:Nat)(X:NLoc)(nr:Nat→Nat→Cp)(g o k x:Nat)(d:Int)(w:World)(h:NearM w nc nn X nr)(hp:w.cell? ⟨g,o,none⟩=some (.slice (some ⟨X.r,0,none⟩) nc X.rc))(hg:¬X.own nc g)(hx:x≤1000000) :
  Calls Tryz.prog 168 #[.pointer (some ⟨g,o,none⟩),.int .i64 k,.int .i64 d,.int .i64 x] w fun e w'=>e = .returned (.bool (foundN nn nr k d x nc))∧NearM w' nc nn X (shareAllN (fun i=>decide (i<nc∧i≠k)) nn nr d x)∧Touch (X.own nc) w w':=by
 have lg:g<w.heap.size:=cell_lt hp
 have c3:=h.c1
 go_enter Tryz.func168,Tryz.ntmps168
 go_wp2_with fail
 go_loopw [9,10] (fun f u wr=>∃ (j:Nat) (fb:Bool),j≤nc∧u = .int .i64 j∧f = .bool fb∧fb=foundN nn nr k d x j∧NearM wr nc nn X (shareAllN (fun i=>decide (i<j∧i≠k)) nn nr d x)∧Touch (X.own nc) w wr) (fun _ u _=>nc-(intOf u).toNat)
 case atStart=>exact ⟨0,false,by omega,rfl,rfl,rfl,by rw [share_none (by simp)];exact h,Touch.refl _ _⟩
 case round=>
  obtain ⟨j,fb,hj,rfl,rfl,hfb,hN,hT⟩:=hrel
  have r0:wr.cell? ⟨g,o,none⟩=some (.slice (some ⟨X.r,0,none⟩) nc X.rc):=by
   have e:wr.cell? ⟨g,o,none⟩=w.cell? ⟨g,o,none⟩:=by simp only [World.cell?];rw [hT.block g lg hg]
   rw [e];exact hp
  have HT:Hid _:=hT
  have HF:Hid _:=hfb
  have lr:g<wr.heap.size:=cell_lt r0
  clear hT hfb
  by_cases hlt:j<nc
  ·
   by_cases hjk:(j:Int)=(k:Int)
   ·
    have HK:Hid (j=k):=by unfold Hid;omega
    go_wp2_with fail
    go_roundw
    case rel=>exact ⟨j+1,fb,by omega,by go_num,rfl,by rw [foundN,HF.out];simp [HK.out],by rw [share_skip (q:=fun i=>decide (i<j∧i≠k)) (fun i=>by have:=HK.out;by_cases e1:i<j <;> by_cases e2:i=k <;> simp [e1,e2] <;> omega)];exact hN,HT.out⟩
    case measure=>simp [intOf];omega
   ·
    have HK:Hid (j≠k):=by unfold Hid;omega
    have HSt:Hid _:=state_share (nn:=nn) (nr:=nr) (d:=d) (x:=x) (j:=j) (p:=fun i=>decide (i<j∧i≠k)) (by simp)
    have HQ:Hid (∀ i,decide (i<j+1∧i≠k)=(decide (i<j∧i≠k) || decide (i=j))):=fun i=>by have:=HK.out;by_cases e1:i<j <;> by_cases e2:i=j <;> by_cases e3:i=k <;> simp [e1,e2,e3] <;> omega
    by_cases hs:stateN nn nr j d x=0
    ·
     go_wp2_with fail
     refine (nstate_any nc nn X _ g o j x d _ hN r0 hlt hx).mono ?_;rintro e w1 ⟨rfl,hb1⟩
     rw [HSt.out,hs]
     have hN1:=hN.below hb1 (Nat.le_refl _)
     have HT1:Hid _:=HT.out.trans (Touch.of_below (F:=X.own nc) hb1 (Nat.le_refl _))
     go_wp2_with fail
     go_roundw
     case rel=>exact ⟨j+1,fb,by omega,by go_num,rfl,by rw [foundN,HF.out];simp [hs],by rw [share_miss (p:=fun i=>decide (i<j∧i≠k)) (j:=j) HQ.out hs];exact hN1,HT1.out⟩
     case measure=>simp [intOf];omega
    ·
     have hsb:(stateN nn nr j d x==0)=false:=by simp [hs]
     have HS:Hid _:=hs
     clear hs
     go_wp2_with fail
     refine (nstate_any nc nn X _ g o j x d _ hN r0 hlt hx).mono ?_;rintro e w1 ⟨rfl,hb1⟩
     rw [HSt.out]
     have hN1:=hN.below hb1 (Nat.le_refl _)
     have r1:=(hb1.cell (p:=⟨g,o,none⟩) lr).trans r0
     have HT1:Hid _:=HT.out.trans (Touch.of_below (F:=X.own nc) hb1 (Nat.le_refl _))
     go_wp2_with fail
     refine (nput_any nc nn X _ g o j x d 1 _ hN1 r1 hlt hx).mono ?_;rintro e w2 ⟨rfl,hN2,hT2⟩
     rw [← share_hit (q:=fun i=>decide (i<j+1∧i≠k)) HQ.out HS.out] at hN2
     have HT2:Hid _:=HT1.out.trans hT2
     clear hT2
     go_wp2_with fail
     go_roundw
     case rel=>exact ⟨j+1,true,by omega,by go_num,rfl,by rw [foundN];simp [HK.out];exact Or.inr HS.out,hN2,HT2.out⟩
     case measure=>simp [intOf];omega
  ·
   have ej:j=nc:=by omega
   subst ej
   go_wp2
   go_ret
   exact ⟨ret_bool HF.out,hN,HT.out⟩
theorem NearM.congr {w:World}{nc nn:Nat}{X:NLoc}{nr nr':Nat→Nat→Cp}(h:NearM w nc nn X nr)(he:∀ k p,k<nc→p<nn→nr k p=nr' k p):NearM w nc nn X nr':=
 ⟨h.row,fun k hk=>(h.cel k hk).congr fun i hi=>by rw [he k (i / 3) hk (by omega)],h.rcap,h.bcap,h.dis,h.n0,h.n1,h.c1⟩
def wiped (nr:Nat→Nat→Cp)(j i:Nat):Nat→Nat→Cp:=fun k p=>if k<j∨(k=j∧p<i) then cpE else nr k p
set_option maxHeartbeats 3200000 in
theorem nEmpty_any (nc nn:Nat)(X:NLoc)(nr:Nat→Nat→Cp)(g o:Nat)(w:World)(h:NearM w nc nn X nr)(hp:w.cell? ⟨g,o,none⟩=some (.slice (some ⟨X.r,0,none⟩) nc X.rc))(hg:¬X.own nc g) :
  Calls Tryz.prog 144 #[.pointer (some ⟨g,o,none⟩)] w fun e w'=>e = .returned (.tuple #[])∧NearM w' nc nn X (fun _ _=>cpE)∧Touch (X.own nc) w w':=by
 have lg:g<w.heap.size:=cell_lt hp
 have c3:=h.c1
 have n4:=h.n1
 go_enter Tryz.func144,Tryz.ntmps144
 go_wp2_with fail
 go_loopw [2] (fun u wr=>∃ j:Nat,j≤nc∧u = .int .i64 j∧NearM wr nc nn X (wiped nr j 0)∧Touch (X.own nc) w wr) (fun u _=>nc-(intOf u).toNat)
 case atStart=>exact ⟨0,by omega,rfl,h.congr (fun k p _ _=>by simp [wiped]),Touch.refl _ _⟩
 case round=>
  obtain ⟨j,hj,rfl,hN,hT⟩:=hrel
  have r0:wr.cell? ⟨g,o,none⟩=some (.slice (some ⟨X.r,0,none⟩) nc X.rc):=by
   have e:wr.cell? ⟨g,o,none⟩=w.cell? ⟨g,o,none⟩:=by simp only [World.cell?];rw [hT.block g lg hg]
   rw [e];exact hp
  have HT:Hid _:=hT
  have HN:Hid _:=hN
  clear hT
  by_cases hlt:j<nc
  ·
   go_wp2_with fail
   clear r0
   go_loopw [3] (fun u wx=>∃ i:Nat,i≤nn∧u = .int .i64 i∧NearM wx nc nn X (wiped nr j i)∧Touch (X.own nc) w wx) (fun u _=>nn-(intOf u).toNat)
   case atStart=>exact ⟨0,by omega,rfl,HN.out,HT.out⟩
   case round=>
    obtain ⟨i,hi,rfl,hM,hU⟩:=hrel
    have s0:wr.cell? ⟨g,o,none⟩=some (.slice (some ⟨X.r,0,none⟩) nc X.rc):=by
     have e:wr.cell? ⟨g,o,none⟩=w.cell? ⟨g,o,none⟩:=by simp only [World.cell?];rw [hU.block g lg hg]
     rw [e];exact hp
    have c1:=hM.row.cell hlt
    have HU:Hid _:=hU
    have l0:=cell_lt s0
    have l1:=hM.row.lt
    have l2:=(hM.cel j hlt).lt
    clear hU
    by_cases hli:i<nn
    ·
     obtain ⟨e1,e2,e3⟩:=hM.at hlt hli
     have f1:=(hM.cel j hlt).frozen (i*3)
     have f2:=(hM.cel j hlt).frozen (i*3+1)
     have f3:=(hM.cel j hlt).frozen (i*3+2)
     have HM:Hid _:=hM
     clear hM
     go_wp2_with fail
     go_region_with (go_at_call 138;refine (nempty_any _).mono ?_;rintro e w2 ⟨rfl,rfl⟩)
     all_goals
      have hP:=HM.out.put (p:=i) hlt cpE
      have hP1:NearM _ nc nn X (wiped nr j (i+1)):=(hP.1.below (((Below.refl _ _).alloc (Nat.le_refl _) (.cells #[.int .i64 (-1),.int .i64 (-1),.int .i64 0] 62)).drew) (Nat.le_refl _)).congr (fun k p hk hp=>by
       unfold up2 wiped
       by_cases a:k=j <;> by_cases b:p=i <;> by_cases c:p<i <;> simp [a,b,c] <;> omega)
      have hT1:=(HU.out.trans hP.2).trans (Touch.of_below (F:=X.own nc) (((Below.refl _ _).alloc (Nat.le_refl _) (.cells #[.int .i64 (-1),.int .i64 (-1),.int .i64 0] 62)).drew) (Nat.le_refl _))
      have HP1:Hid _:=hP1
      have HT1:Hid _:=hT1
      clear hP hP1 hT1
     all_goals go_wp2_with fail
     all_goals go_roundw
     all_goals try (case rel=>exact ⟨i+1,by omega,by go_num,HP1.out,HT1.out⟩)
     all_goals try (case measure=>simp [intOf];omega)
    ·
     have ei:i=nn:=by omega
     subst ei
     have HM:Hid _:=hM
     clear hM
     go_wp2_with fail
     go_roundw
     case rel=>exact ⟨j+1,by omega,by go_num,HM.out.congr (fun k p hk hp=>by
       unfold wiped
       by_cases a:k=j <;> by_cases b:k<j <;> simp [a,b] <;> omega),HU.out⟩
     case measure=>simp [intOf];omega
  ·
   have ej:j=nc:=by omega
   subst ej
   go_wp2
   refine bodyPost_end (results_none rfl _ _ _) rfl ?_
   exact ⟨rfl,hN.congr (fun k p hk hp=>by simp [wiped,hk]),HT.out⟩
end Go.Proofs.YtehheaedbnfidaaGreat
