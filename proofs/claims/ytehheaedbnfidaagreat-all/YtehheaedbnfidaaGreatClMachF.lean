import Derived.Test.YtehheaedbnfidaaGreatClWOwner2
import Derived.Test.YtehheaedbnfidaaGreatClMachC
set_option maxRecDepth 100000
namespace Go.Proofs.YtehheaedbnfidaaGreat
open Go.RowKit
theorem victim_range {n:Nat}(hn:n=1∨n=2∨n=4)(l:List Int):0≤victimZ n l∧victimZ n l<(n:Int):=by
 rcases hn with e|e|e <;> subst e <;> unfold victimZ
 · simp
 ·
  simp only [show ((2:Nat):Int)=2 from rfl,if_true]
  split <;> omega
 ·
  simp only [show ((4:Nat):Int)=4 from rfl,show ¬(4:Int)=2 by omega,if_false,if_true]
  split <;> split <;> omega
theorem room_range {n:Nat}(hn:n=1∨n=2∨n=4)(b:Nat→Bk)(l:List Int):0≤roomF b n l∧roomF b n l<(n:Int):=by
 unfold roomF
 have h1:=way_lt b n (-1)
 by_cases c:wayF b n (-1)=-1
 · rw [if_pos c];exact victim_range hn l
 · rw [if_neg c];omega
theorem up3_up {α:Type}(f:Nat→Nat→Nat→α)(d q j:Nat)(v:α):up1 f d (up2 (f d) q j v)=up3 f d q j v:=by
 funext a b c
 unfold up3 up1 up2
 by_cases e1:a=d
 · subst e1;simp
 · simp [e1]
theorem klay_any (N:Cn)(X:XLoc)(m:Mh)(d x q j:Nat)(b:Bk)(w:World)(h:MachM w N X m)(hd:d<N.nd)(hx:x≤1000)(hq:Hid (q=x%N.ns))(hj:j<N.wn d) :
  Calls Tryz.prog 164 #[.pointer (some ⟨X.dm,d*4+1,none⟩),.int .i64 x,.int .i64 j,.agg (bkA b)] w fun e w'=>e = .returned (.tuple #[])∧MachM w' N X { m with blk:=up3 m.blk d q j b }∧Goes w w' X X:=by
 have hqs:q<N.ns:=by rw [hq.out];exact Nat.mod_lt _ (h.far d hd).n0
 refine (fLay_any N.ns (N.wn d) (X.f d) (m.blk d) (m.tch d) X.dm (d*4+1) x q j b w (h.far d hd) (fun k hk e=>?_) (dom_at h hd).2.1 (by omega) hq hj).mono ?_
 ·
  have h1:=h.labs.fi d hd k hk
  have h2:=h.labs.fo d hd k (Or.inr ⟨q,hqs,e⟩)
  rw [h1] at h2
  simp at h2
 ·
  rintro e w' ⟨rfl,hF,hT⟩
  refine ⟨rfl,?_,Goes.of_touch hT (h.labs.fo d hd)⟩
  rw [← up3_up]
  exact h.setFar hd hF hT
set_option maxHeartbeats 6400000 in
theorem kfetch_any (N:Cn)(X:XLoc)(m:Mh)(d x:Nat)(w:World)(h:MachM w N X m)(hd:d<N.nd)(hx:x≤1000)(hl:∀ s j,(m.blk d s j).line=-1∨(0≤(m.blk d s j).line∧(m.blk d s j).line≤1000))(hm:∀ s j,(m.blk d s j).line=-1→(m.blk d s j).mkd=false) :
  Calls Tryz.prog 151 #[.pointer (some ⟨X.g,0,none⟩),.int .i64 d,.int .i64 x] w fun e w'=>e = .returned (.tuple #[])∧MachM w' N X (m.fetch N d x)∧Goes w w' X X:=by
 obtain ⟨n1,n2,n3,n4,n5,n6,n7,n8,n9,n10,n11,n12,n13,n14,n15⟩:=h.nums
 obtain ⟨q,hq⟩:∃ q,q=x%N.ns:=⟨_,rfl⟩
 have HQ:Hid _:=hq
 have hqs:q<N.ns:=by rw [hq];exact Nat.mod_lt _ (h.far d hd).n0
 have hrr:=room_range (h.far d hd).sm (m.blk d q) (m.tch d q)
 obtain ⟨r,hr⟩:=Int.eq_ofNat_of_zero_le hrr.1
 have hrw:r<N.wn d:=by omega
 have hRm:=fRoom_any N.ns (N.wn d) (X.f d) (m.blk d) (m.tch d) X.dm (d*4+1) x q w (h.far d hd) (dom_at h hd).2.1 (by omega) HQ
 rw [hr] at hRm
 have HF:Hid (m.fetch N d x=(let m1:=if (m.blk d q r).line=-1 then m else { m with nr:=dropAllN (fun j=>decide (j<N.nc)) N.nn m.nr d (m.blk d q r).line.toNat };if (m.blk d q r).mkd=true then { m1 with own:=up1 m.own d (writeM N.pv N.ln (m.own d) (m.blk d q r).line.toNat (m.blk d q r).wd),blk:=up3 m.blk d q r bkE } else { m1 with blk:=up3 m.blk d q r ⟨x,false,readM N.pv N.sn N.ln (m.own d) m.sh x⟩ })):=by
  unfold Hid Mh.fetch
  dsimp only
  rw [← hq,hr,Int.toNat_natCast]
 have hl1:=hl q r
 have hm1:=hm q r
 obtain ⟨bb,hbb⟩:∃ bb,m.blk d q r=bb:=⟨_,rfl⟩
 rw [hbb] at hl1 hm1 HF
 have HBB:Hid _:=hbb
 obtain ⟨lB,mB,fB⟩:=bb
 dsimp only at *
 have a18:w.cell? ⟨X.g,18,none⟩=some (.slice (some ⟨X.dm,0,none⟩) N.nd X.dc):=by rw [h.row.cell];rfl
 have HM:Hid _:=h
 have HLN:Hid _:=n12
 clear h hq hl hm hr hrr hbb n1 n2 n3 n4 n5 n6 n7 n12
 go_enter Tryz.func151,Tryz.ntmps151
 go_wp2_with fail
 refine hRm.mono ?_;rintro e w1 ⟨rfl,hb1⟩
 have M1:=HM.out.below hb1 (Nat.le_refl _)
 have hA:=fAt_any N.ns (N.wn d) (X.f d) (m.blk d) (m.tch d) X.dm (d*4+1) x q r w1 (M1.far d hd) (dom_at M1 hd).2.1 (by omega) HQ (by omega)
 rw [show atB (m.blk d q) (r:Int)=⟨lB,mB,fB⟩ by unfold atB;rw [if_neg (by omega),Int.toNat_natCast];exact HBB.out] at hA
 clear a18 hRm
 have a18:w1.cell? ⟨X.g,18,none⟩=some (.slice (some ⟨X.dm,0,none⟩) N.nd X.dc):=by rw [M1.row.cell];rfl
 go_wp2_with fail
 refine hA.mono ?_;rintro e w2 ⟨rfl,hb2⟩
 have hb3:=below_step hb1 hb2 rfl
 have M2:=HM.out.below hb3 (Nat.le_refl _)
 have HR:Hid (Row (w2.alloc (.cells (bkA ⟨lB,mB,fB⟩) 171)) w2.heap.size [.int .i64 lB,.bool mB,.int .i64 (fB 0),.int .i64 (fB 1),.int .i64 (fB 2),.int .i64 (fB 3)] 171):=heap_alloc_new w2 _
 have hb4:Below w2.heap.size w2 (w2.alloc (.cells (bkA ⟨lB,mB,fB⟩) 171)):=(Below.refl _ _).alloc (Nat.le_refl _) _
 have HM3:Hid _:=M2.below hb4 (Nat.le_refl _)
 have HG3:Hid (Goes w (w2.alloc (.cells (bkA ⟨lB,mB,fB⟩) 171)) X X):=(Goes.of_below hb3).trans (Goes.of_below hb4)
 have HNB:Hid (X.lab w2.heap.size=none):=by
  unfold Hid
  rcases hX:X.lab w2.heap.size with _|l
  · rfl
  ·
   have:=M2.labs.lt w2.heap.size (by rw [hX];simp)
   omega
 clear hA hb1 hb2 hb3 M1 M2 a18 hb4
 by_cases b1:lB=-1
 ·
  have hmf:=hm1 b1
  subst hmf
  have HF2:Hid (m.fetch N d x={ m with blk:=up3 m.blk d q r ⟨x,false,readM N.pv N.sn N.ln (m.own d) m.sh x⟩ }):=by unfold Hid;rw [HF.out];simp [b1]
  subst b1
  have M3:=HM3.out
  have c14:(w2.alloc (.cells (bkA ⟨-1,false,fB⟩) 171)).cell? ⟨X.g,14,none⟩=some (.int .i64 N.ln):=by rw [M3.row.cell];rfl
  have c15:(w2.alloc (.cells (bkA ⟨-1,false,fB⟩) 171)).cell? ⟨X.g,15,none⟩=some (.slice (some ⟨X.e.r,0,none⟩) N.nd X.e.rc):=by rw [M3.row.cell];rfl
  have c16:(w2.alloc (.cells (bkA ⟨-1,false,fB⟩) 171)).cell? ⟨X.g,16,none⟩=some (.slice X.e.sa N.sn X.e.sc):=by rw [M3.row.cell];rfl
  have hRd:=mRead_any N.nd N.pv N.sn N.ln X.e m.own m.sh X.g 14 d x _ M3.mem c14 c15 c16 hd hx HLN.out
  clear HF hl1 hm1 M3
  go_wp2_with fail
  refine hRd.mono ?_;rintro e w3 ⟨rfl,hb5⟩
  have M4:=HM3.out.below hb5 (Nat.le_refl _)
  have HG4:Hid (Goes w w3 X X):=HG3.out.trans (Goes.of_below hb5)
  have a18:w3.cell? ⟨X.g,18,none⟩=some (.slice (some ⟨X.dm,0,none⟩) N.nd X.dc):=by rw [M4.row.cell];rfl
  have lg:=M4.row.lt
  have hL:∀ A:Obj,Calls Tryz.prog 164 #[.pointer (some ⟨X.dm,d*4+1,none⟩),.int .i64 x,.int .i64 r,.agg (bkA ⟨x,false,readM N.pv N.sn N.ln (m.own d) m.sh x⟩)] (w3.alloc A).drew fun e w'=>e = .returned (.tuple #[])∧MachM w' N X { m with blk:=up3 m.blk d q r ⟨x,false,readM N.pv N.sn N.ln (m.own d) m.sh x⟩ }∧Goes w w' X X:=fun A=>by
   have hb:Below w3.heap.size w3 (w3.alloc A).drew:=((Below.refl _ _).alloc (Nat.le_refl _) _).drew
   refine (klay_any N X m d x q r _ _ (M4.below hb (Nat.le_refl _)) hd hx HQ hrw).mono ?_
   rintro e w' ⟨rfl,hM,hG⟩
   exact ⟨rfl,hM,(HG4.out.trans (Goes.of_below hb)).trans hG⟩
  clear hRd c14 c15 c16
  generalize readM N.pv N.sn N.ln (m.own d) m.sh x=F at *
  go_wp2_with fail
  go_region_with (go_at_call 164;refine (hL _).mono ?_;rintro e w4 ⟨rfl,hM5,hG5⟩)
  all_goals go_wp2
  all_goals refine bodyPost_end (results_none rfl _ _ _) rfl ?_
  all_goals exact ⟨rfl,by rw [HF2.out];exact hM5,hG5⟩
 ·
  obtain ⟨y,rfl⟩:=Int.eq_ofNat_of_zero_le (show 0≤lB by omega)
  have hy:y≤1000:=by omega
  have hyb:((y:Int)==-1)=false:=by simp
  have hyb2:((y:Int) != -1)=true:=by simp
  have M3:=HM3.out
  obtain ⟨W,hW⟩:∃ W,w2.alloc (.cells (bkA ⟨y,mB,fB⟩) 171)=W:=⟨_,rfl⟩
  have R3:=HR.out
  have G3:=HG3.out
  rw [hW] at R3 M3 G3
  have hsz:w2.heap.size<W.heap.size:=Row.lt (A:=[.int .i64 y,.bool mB,.int .i64 (fB 0),.int .i64 (fB 1),.int .i64 (fB 2),.int .i64 (fB 3)]) R3
  have M3d:=M3.below ((Below.refl W.heap.size W).drew) (Nat.le_refl _)
  have c17:W.drew.cell? ⟨X.g,17,none⟩=some (.slice (some ⟨X.n.r,0,none⟩) N.nc X.n.rc):=by rw [M3d.row.cell];rfl
  have hDA:=ndropAll_any N.nc N.nn X.n m.nr X.g 17 y d W.drew M3d.near c17 M3.labs.noNear (by omega)
  have HDA:Hid _:=hDA
  have HM3d:Hid _:=M3d
  have HG3d:Hid (Goes w W.drew X X):=G3.trans (Goes.of_below ((Below.refl _ _).drew))
  have HR3:Hid (Row W w2.heap.size [.int .i64 y,.bool mB,.int .i64 (fB 0),.int .i64 (fB 1),.int .i64 (fB 2),.int .i64 (fB 3)] 171):=R3
  have HF2:Hid (m.fetch N d x=if mB=true then { m with nr:=dropAllN (fun j=>decide (j<N.nc)) N.nn m.nr d y,own:=up1 m.own d (writeM N.pv N.ln (m.own d) y fB),blk:=up3 m.blk d q r bkE } else { m with nr:=dropAllN (fun j=>decide (j<N.nc)) N.nn m.nr d y,blk:=up3 m.blk d q r ⟨x,false,readM N.pv N.sn N.ln (m.own d) m.sh x⟩ }):=by
   unfold Hid
   rw [HF.out]
   simp only [b1,if_false,Int.toNat_natCast]
  have hno:¬X.n.own N.nc w2.heap.size:=fun ho=>by
   have h2:=M3.labs.no _ ho
   rw [HNB.out] at h2
   cases h2
  clear c17 hDA M3d M3 G3 R3 HF hl1 hm1 b1
  have HW:Hid _:=hW
  clear hW
  go_wp2_with fail
  rw [HW.out]
  have b0:W.cell? ⟨w2.heap.size,0,none⟩=some (.int .i64 y):=Row.cell (A:=[.int .i64 y,.bool mB,.int .i64 (fB 0),.int .i64 (fB 1),.int .i64 (fB 2),.int .i64 (fB 3)]) HR3.out 0
  go_cut [] (fun wx=>MachM wx N X { m with nr:=dropAllN (fun j=>decide (j<N.nc)) N.nn m.nr d y }∧Goes w wx X X∧Row wx w2.heap.size [.int .i64 y,.bool mB,.int .i64 (fB 0),.int .i64 (fB 1),.int .i64 (fB 2),.int .i64 (fB 3)] 171)
  case first=>
   go_region_with (go_at_call 162;refine Calls.mono HDA.out ?_;rintro e w3 ⟨rfl,hN3,hT3⟩)
   all_goals go_wp2_with fail
   all_goals go_meet
   all_goals exact ⟨HM3d.out.setNear hN3 hT3,HG3d.out.trans (Goes.of_touch hT3 HM3d.out.labs.no),touch_row (w:=W.drew) (A:=[.int .i64 y,.bool mB,.int .i64 (fB 0),.int .i64 (fB 1),.int .i64 (fB 2),.int .i64 (fB 3)]) HR3.out hT3 hno⟩
  case rest=>
   obtain ⟨M4,G4,R4⟩:=hcut
   have b0:wc.cell? ⟨w2.heap.size,0,none⟩=some (.int .i64 y):=R4.cell 0
   have b1:wc.cell? ⟨w2.heap.size,1,none⟩=some (.bool mB):=R4.cell 1
   have b2:wc.cell? ⟨w2.heap.size,2,none⟩=some (.int .i64 (fB 0)):=R4.cell 2
   have b3:wc.cell? ⟨w2.heap.size,3,none⟩=some (.int .i64 (fB 1)):=R4.cell 3
   have b4:wc.cell? ⟨w2.heap.size,4,none⟩=some (.int .i64 (fB 2)):=R4.cell 4
   have b5:wc.cell? ⟨w2.heap.size,5,none⟩=some (.int .i64 (fB 3)):=R4.cell 5
   have lb:=R4.lt
   have lg:=M4.row.lt
   have HM4:Hid _:=M4
   have HG4:Hid _:=G4
   cases mB with
   | false=>
    have HF3:Hid (m.fetch N d x={ m with nr:=dropAllN (fun j=>decide (j<N.nc)) N.nn m.nr d y,blk:=up3 m.blk d q r ⟨x,false,readM N.pv N.sn N.ln (m.own d) m.sh x⟩ }):=by unfold Hid;rw [HF2.out];simp
    have c14:wc.cell? ⟨X.g,14,none⟩=some (.int .i64 N.ln):=by rw [M4.row.cell];rfl
    have c15:wc.cell? ⟨X.g,15,none⟩=some (.slice (some ⟨X.e.r,0,none⟩) N.nd X.e.rc):=by rw [M4.row.cell];rfl
    have c16:wc.cell? ⟨X.g,16,none⟩=some (.slice X.e.sa N.sn X.e.sc):=by rw [M4.row.cell];rfl
    have hRd:=mRead_any N.nd N.pv N.sn N.ln X.e m.own m.sh X.g 14 d x wc M4.mem c14 c15 c16 hd hx HLN.out
    clear HF2 M4 G4 R4
    go_wp2_with fail
    refine hRd.mono ?_;rintro e w3 ⟨rfl,hb5⟩
    have M5:=HM4.out.below hb5 (Nat.le_refl _)
    have HG5:Hid (Goes w w3 X X):=HG4.out.trans (Goes.of_below hb5)
    have a18:w3.cell? ⟨X.g,18,none⟩=some (.slice (some ⟨X.dm,0,none⟩) N.nd X.dc):=by rw [M5.row.cell];rfl
    have lg3:=M5.row.lt
    have hL:∀ A:Obj,Calls Tryz.prog 164 #[.pointer (some ⟨X.dm,d*4+1,none⟩),.int .i64 x,.int .i64 r,.agg (bkA ⟨x,false,readM N.pv N.sn N.ln (m.own d) m.sh x⟩)] (w3.alloc A).drew fun e w'=>e = .returned (.tuple #[])∧MachM w' N X { m with nr:=dropAllN (fun j=>decide (j<N.nc)) N.nn m.nr d y,blk:=up3 m.blk d q r ⟨x,false,readM N.pv N.sn N.ln (m.own d) m.sh x⟩ }∧Goes w w' X X:=fun A=>by
     have hb:Below w3.heap.size w3 (w3.alloc A).drew:=((Below.refl _ _).alloc (Nat.le_refl _) _).drew
     refine (klay_any N X _ d x q r _ _ (M5.below hb (Nat.le_refl _)) hd hx HQ hrw).mono ?_
     rintro e w' ⟨rfl,hM,hG⟩
     exact ⟨rfl,hM,(HG5.out.trans (Goes.of_below hb)).trans hG⟩
    clear hRd c14 c15 c16 b0 b1 b2 b3 b4 b5 lb lg
    generalize readM N.pv N.sn N.ln (m.own d) m.sh x=F at *
    go_wp2_with fail
    go_region_with (go_at_call 164;refine (hL _).mono ?_;rintro e w4 ⟨rfl,hM5,hG5⟩)
    all_goals go_wp2
    all_goals refine bodyPost_end (results_none rfl _ _ _) rfl ?_
    all_goals exact ⟨rfl,by rw [HF3.out];exact hM5,hG5⟩
   | true=>
    have HF3:Hid (m.fetch N d x={ m with nr:=dropAllN (fun j=>decide (j<N.nc)) N.nn m.nr d y,own:=up1 m.own d (writeM N.pv N.ln (m.own d) y fB),blk:=up3 m.blk d q r bkE }):=by unfold Hid;rw [HF2.out];simp
    have M4d:=M4.below ((Below.refl wc.heap.size wc).drew) (Nat.le_refl _)
    have c14:wc.drew.cell? ⟨X.g,14,none⟩=some (.int .i64 N.ln):=by rw [M4d.row.cell];rfl
    have c15:wc.drew.cell? ⟨X.g,15,none⟩=some (.slice (some ⟨X.e.r,0,none⟩) N.nd X.e.rc):=by rw [M4d.row.cell];rfl
    have hsb:X.e.sb<wc.drew.heap.size:=M4d.labs.lt _ (by rw [M4d.labs.eo _ (Or.inl rfl)];simp)
    have hWr:=mWrite_any N.nd N.pv N.sn N.ln X.e m.own m.sh X.g 14 d y fB wc.drew M4d.mem c14 c15 M4.labs.noMem hsb hd hy HLN.out
    have HGd:Hid (Goes w wc.drew X X):=G4.trans (Goes.of_below ((Below.refl _ _).drew))
    have HM4d:Hid _:=M4d
    clear HF2 M4 G4 R4 c14 c15 M4d
    go_wp2_with fail
    go_cut [] (fun wx=>MachM wx N X { m with nr:=dropAllN (fun j=>decide (j<N.nc)) N.nn m.nr d y,own:=up1 m.own d (writeM N.pv N.ln (m.own d) y fB) }∧Goes w wx X X)
    case first=>
     go_region_with (go_at_call 163;refine hWr.mono ?_;rintro e w3 ⟨rfl,hN3,hT3⟩)
     all_goals go_wp2_with fail
     all_goals go_meet
     all_goals exact ⟨HM4d.out.setMem hN3 hT3,HGd.out.trans (Goes.of_touch hT3 HM4d.out.labs.eo)⟩
    case rest=>
     obtain ⟨M5,G5⟩:=hcut
     clear b0 b1 b2 b3 b4 b5 lb lg hWr
     have a18:wc.cell? ⟨X.g,18,none⟩=some (.slice (some ⟨X.dm,0,none⟩) N.nd X.dc):=by rw [M5.row.cell];rfl
     have lg3:=M5.row.lt
     have HG5:Hid _:=G5
     have hL:∀ A:Obj,Calls Tryz.prog 164 #[.pointer (some ⟨X.dm,d*4+1,none⟩),.int .i64 x,.int .i64 r,.agg (bkA bkE)] (wc.alloc A).drew fun e w'=>e = .returned (.tuple #[])∧MachM w' N X { m with nr:=dropAllN (fun j=>decide (j<N.nc)) N.nn m.nr d y,own:=up1 m.own d (writeM N.pv N.ln (m.own d) y fB),blk:=up3 m.blk d q r bkE }∧Goes w w' X X:=fun A=>by
      have hb:Below wc.heap.size wc (wc.alloc A).drew:=((Below.refl _ _).alloc (Nat.le_refl _) _).drew
      refine (klay_any N X _ d x q r _ _ (M5.below hb (Nat.le_refl _)) hd hx HQ hrw).mono ?_
      rintro e w' ⟨rfl,hM,hG⟩
      exact ⟨rfl,hM,(HG5.out.trans (Goes.of_below hb)).trans hG⟩
     clear M5 G5
     go_wp2_with fail
     go_region_with (first
      | (go_at_call 139;refine (fEmpty_any _).mono ?_;rintro e w' ⟨rfl,rfl⟩)
      | (go_at_call 164;refine (hL _).mono ?_;rintro e w4 ⟨rfl,hM5,hG5⟩))
     all_goals go_wp2
     all_goals refine bodyPost_ret (results_none rfl _ _ _) rfl ?_
     all_goals exact ⟨rfl,by rw [HF3.out];exact hM5,hG5⟩
end Go.Proofs.YtehheaedbnfidaaGreat
