import Derived.Test.YtehheaedbnfidaaGreatClWMadeM
set_option maxRecDepth 100000
namespace Go.Proofs.YtehheaedbnfidaaGreat
open Go.RowKit
theorem cfg_cells {w:World}{g:Nat}{c:Cf}{s:Sl}{t:TypeId}(h:Row w g (cfgL c s) t) :
  w.cell? ⟨g,0,none⟩=some (.int .i64 c.cores)∧w.cell? ⟨g,1,none⟩=some (.int .i64 c.domains)∧w.cell? ⟨g,2,none⟩=some (.int .i64 c.line)∧w.cell? ⟨g,3,none⟩=some (.int .i64 c.priv)∧w.cell? ⟨g,4,none⟩=some (.int .i64 c.shared)∧w.cell? ⟨g,5,none⟩=some (.int .i64 c.near)∧w.cell? ⟨g,6,none⟩=some (.int .i64 c.sets)∧w.cell? ⟨g,7,none⟩=some (.slice s.wa s.wl s.wc)∧w.cell? ⟨g,8,none⟩=some (.int .i64 c.slot)∧w.cell? ⟨g,9,none⟩=some (.slice s.sa s.sl s.sc)∧w.cell? ⟨g,10,none⟩=some (.slice s.ta s.tl s.tc)∧w.cell? ⟨g,11,none⟩=some (.int .i64 c.quantum)∧w.cell? ⟨g,12,none⟩=some (.int .i64 c.flush):=
 ⟨h.cell 0,h.cell 1,h.cell 2,h.cell 3,h.cell 4,h.cell 5,h.cell 6,h.cell 7,h.cell 8,h.cell 9,h.cell 10,h.cell 11,h.cell 12⟩
theorem Tryz.infoWork:(Tryz.prog.info? 182).map (fun i=>(i.zero,i.size,i.bytes))=some (some (.agg #[.bool false,.int .i64 0,.int .i64 0]),3,24):=by kernel_rfl
theorem Tryz.infoProgram:(Tryz.prog.info? 161).map (fun i=>(i.zero,i.size,i.bytes))=some (some (.agg #[.slice none 0 0,.int .i64 0]),2,32):=by kernel_rfl
theorem Tryz.infoDomain:(Tryz.prog.info? 144).map (fun i=>(i.zero,i.size,i.bytes))=some (some (.agg #[.slice none 0 0,.slice none 0 0,.slice none 0 0,.slice none 0 0]),4,96):=by kernel_rfl
set_option maxHeartbeats 6400000 in
theorem knew_good (c:Cf)(s:Sl)(w:World)(h:CfgAt w c s)(hz:chk c=0) :
  Calls Tryz.prog 67 #[cfgV c s] w fun e w'=>∃ Y a1 a2 a3 lo hi,e = .returned (.tuple #[.agg (mchL (cnOf c) (YLoc.loc Y 0 a3 fun _=>none) 0).toArray,.int .i64 0])∧Parts w' (cnOf c) Y (w.heap.size+2) a1 a2 a3 lo hi∧Below w.heap.size w w':=by
 have hN:CnOk (cnOf c):=⟨rfl,hz⟩
 obtain ⟨n1,n2,n3,n4,n5,n6,n7,n8,n9,n10,n11,n12,n13,n14,n15⟩:=hN.nums
 obtain ⟨N,hNN⟩:∃ N,N=cnOf c:=⟨_,rfl⟩
 have hb:(chk c != 0)=false:=by simp [hz]
 have HZ:Hid _:=hz
 have hb0:∀ A B:Obj,Below w.heap.size w ((w.alloc A).alloc B):=fun A B=>((Below.refl _ _).alloc (Nat.le_refl _) _).alloc (by simp) _
 have hR0:Row ((w.alloc (.cells (cfgA c s) 43)).alloc (.cells zero20.toArray 98)) w.heap.size (cfgL c s) 43:=Row.alloc (heap_alloc_new w _) _
 have hC0:=check_any c s _ (h.below (hb0 (.cells (cfgA c s) 43) (.cells zero20.toArray 98)) (Nat.le_refl _))
 have hRb:Row ((w.alloc (.cells (cfgA c s) 43)).alloc (.cells zero20.toArray 98)) (w.heap.size+1) zero20 98:=by
  have:=heap_alloc_new (w.alloc (.cells (cfgA c s) 43)) (.cells zero20.toArray 98)
  rw [World.size_alloc] at this
  exact this
 have HRB0:Hid _:=hRb
 have HR0:Hid (Row ((w.alloc (.cells (cfgA c s) 43)).alloc (.cells zero20.toArray 98)) w.heap.size (cfgL c s) 43):=hR0
 have HB0:Hid _:=hb0 (.cells (cfgA c s) 43) (.cells zero20.toArray 98)
 have HNN:Hid _:=hNN
 clear hz hNN hb0 hR0 hRb
 go_enter Tryz.func67,Tryz.ntmps67
 go_wp2_with fail
 refine hC0.mono ?_;rintro e w1 ⟨rfl,hb1⟩
 have R1:Row w1 w.heap.size (cfgL c s) 43:=HR0.out.below hb1 (by simp;omega)
 have B1:Below w.heap.size w w1:=below_step HB0.out hb1 rfl
 have HRB1:Hid (Row w1 (w.heap.size+1) zero20 98):=Row.below HRB0.out hb1 (by simp)
 have C1:=h.below B1 (Nat.le_refl _)
 obtain ⟨x0,x1,x2,x3,x4,x5,x6,x7,x8,x9,x10,x11,x12⟩:=cfg_cells R1
 have hCp:=kcopy_any c s w1 C1 HZ.out
 have hs1:w.heap.size+2≤w1.heap.size:=by have:=hb1.size;simp at this;omega
 clear hC0 C1
 go_upto_region 4 with fail
 go_cut [5] (fun u wx=>∃ G s2,u = .pointer (some ⟨G,0,none⟩)∧Mk w wx c s s2 G (made20 c s2))
 case first=>
  go_wp2_with fail
  refine hCp.mono ?_;rintro e w2 ⟨rfl,hC2,hb2,hB2⟩
  have R2:=R1.below hb2 R1.lt
  have B2:=below_step B1 hb2 rfl
  have hs2:=hb2.size
  clear x0 x1 x2 x3 x4 x5 x6 x7 x8 x9 x10 x11 x12 hCp R1
  obtain ⟨s2,hs2e⟩:∃ s2,copySl s w1.heap.size=s2:=⟨_,rfl⟩
  rw [hs2e] at hC2 hB2
  rw [hs2e]
  have HC2:Hid _:=hC2
  have HB2:Hid _:=hB2
  have HR2:Hid (Row w2 w.heap.size (cfgL c s) 43):=R2
  have HBB:Hid _:=B2
  have HRB2:Hid (Row w2 (w.heap.size+1) zero20 98):=Row.below HRB1.out hb2 (Row.lt HRB1.out)
  clear hs2e hC2 hB2 R2 B2 hb2
  rename_i hK
  refine hK _ _ ?_
  refine Go.wpList_buildTo rfl 98 _ rfl (some 17) rfl (made20 c s2).toArray ?hf ?_
  case hf=>
   simp only [List.map_toArray,List.map_cons,List.map_nil]
   exact built20 c s2
  refine Go.Great.wpList_allocTo rfl (some 5) rfl _ _ (alloc20 _ _ rfl _) ?_
  refine Go.wpList_store_rowTo rfl 98 (.tmp 5) (.tmp 17) rfl rfl w2.heap.size (made20 c s2).toArray rfl rfl 98 zero20.toArray (heap_alloc_new _ _) (sizeM20 c s2) (size20 c s2) (one20 c s2) ?_
  rw [World.setRow_alloc_new]
  refine wpList_nil ?_
  go_wp2_with fail
  go_meet
  have hbA:Below w2.heap.size w2 (w2.alloc (.cells (made20 c s2).toArray 98)):=(Below.refl _ _).alloc (Nat.le_refl _) _
  have hcf:=HC2.out.same (w':=w2.alloc (.cells (made20 c s2).toArray 98)) (fun b hb=>hbA.block b (HB2.out b hb).2)
  exact ⟨w2.heap.size,s2,rfl,heap_alloc_new _ _,hcf.1,fun b hb=>by have:=HB2.out b (hcf.2 b hb);omega,HR2.out.below hbA HR2.out.lt,below_step HBB.out hbA rfl,by omega,HRB2.out.below hbA (Row.lt HRB2.out)⟩
 case rest=>
  obtain ⟨G,s2,rfl,hk⟩:=hcut
  clear x0 x1 x2 x3 x4 x5 x6 x7 x8 x9 x10 x11 x12 hCp R1 B1 hb1 hs1
  obtain ⟨x0,x1,x2,x3,x4,x5,x6,x7,x8,x9,x10,x11,x12⟩:=cfg_cells hk.box
  have hMn:=mnew_any c s N.nd N.pv N.sn N.ln (by rw [HNN.out];exact n2) (by rw [HNN.out];exact n6) (by rw [HNN.out];exact n7) (by rw [HNN.out];exact n5) (by rw [HNN.out];exact n10) (by rw [HNN.out];exact n11) (by rw [HNN.out];exact n13) (by rw [HNN.out];exact n15) (by rw [HNN.out];exact n14) wc
  have HK:Hid _:=hk
  have lG:=hk.row.lt
  clear hk
  go_upto_region 5 with fail
  go_cut [] (fun wx=>∃ a2 e,MkMem w wx c s s2 N G a2 e (mem20 c s2 N e))
  case first=>
   go_wp2_with fail
   refine hMn.mono ?_;rintro e w3 ⟨E,rfl,hM,hb3,hr,hown⟩
   have hk3:=HK.out.below hb3
   have g14:w3.cell? ⟨G,14,none⟩=some (.int .i64 0):=hk3.row.cell 14
   have g15:w3.cell? ⟨G,15,none⟩=some (.slice none 0 0):=hk3.row.cell 15
   have g16:w3.cell? ⟨G,16,none⟩=some (.slice none 0 0):=hk3.row.cell 16
   have f14:w3.frozen? ⟨G,14,none⟩=false:=hk3.row.frozen 14
   have f15:w3.frozen? ⟨G,15,none⟩=false:=hk3.row.frozen 15
   have f16:w3.frozen? ⟨G,16,none⟩=false:=hk3.row.frozen 16
   have h1:MkMem w w3 c s s2 N G w3.heap.size E (made20 c s2):=⟨hk3,hM,⟨by omega,hM.row.lt,fun b hb=>by have:=hown b hb;omega⟩,hk3.row.lt,Nat.le_refl _⟩
   have H1:Hid (MkMem w w3 c s s2 N G w3.heap.size E (made20 c s2)):=h1
   clear x0 x1 x2 x3 x4 x5 x6 x7 x8 x9 x10 x11 x12 hMn hk3 hM hown h1
   go_wp2_with fail
   go_meet
   exact ⟨w3.heap.size,E,((H1.out.set 14 _).set 15 _).set 16 _⟩
  case rest=>
   obtain ⟨a2,E,hk⟩:=hcut
   clear x0 x1 x2 x3 x4 x5 x6 x7 x8 x9 x10 x11 x12 hMn HK lG
   have eN:N.c=c:=by rw [HNN.out];rfl
   have ENC:(N.nc:Int)=c.cores:=by rw [HNN.out];exact n1
   have ENN:(N.nn:Int)=c.near:=by rw [HNN.out];exact n3
   have HEND:Hid ((N.nd:Int)=c.domains):=by unfold Hid;rw [HNN.out];exact n2
   have HENS:Hid ((N.ns:Int)=c.sets):=by unfold Hid;rw [HNN.out];exact n4
   have HND4:Hid (N.nd≤4∧0<N.nd):=by unfold Hid;rw [HNN.out];exact ⟨n10,n11⟩
   have k1:N.nc≤3:=by rw [HNN.out];exact n8
   have k2:0<N.nc:=by rw [HNN.out];exact n9
   have k3:N.nn≤4∧0<N.nn:=by
    have:=(shape_bounds (chk_zero HZ.out).1).2.2.2.2.1
    omega
   have x0:wc.cell? ⟨w.heap.size,0,none⟩=some (.int .i64 N.nc):=by rw [ENC];exact hk.mk0.box.cell 0
   have x5:wc.cell? ⟨w.heap.size,5,none⟩=some (.int .i64 N.nn):=by rw [ENN];exact hk.mk0.box.cell 5
   have hNn:=nnew_any N.nc N.nn k1 k2 k3.1 k3.2 wc
   have HK:Hid _:=hk
   have lx:=hk.mk0.box.lt
   have lG:=hk.mk0.row.lt
   have HEN:Hid _:=eN
   have HENC:Hid _:=ENC
   have HENN:Hid _:=ENN
   clear hk n1 n2 n3 n4 n5 n6 n7 n8 n9 n10 n11 n12 n13 n14 n15 hN eN ENC ENN k3
   go_upto_region 6 with fail
   go_cut [] (fun wx=>∃ a3 n,MkNear w wx c s s2 N G a2 a3 E n (near20 c s2 N E n))
   case first=>
    go_wp2_with fail
    refine hNn.mono ?_;rintro e w3 ⟨n,rfl,hM,hb3,hr,hown⟩
    have hk3:=HK.out.below hb3
    have g17:w3.cell? ⟨G,17,none⟩=some (.slice none 0 0):=hk3.mk0.row.cell 17
    have f17:w3.frozen? ⟨G,17,none⟩=false:=hk3.mk0.row.frozen 17
    have h1:MkNear w w3 c s s2 N G a2 w3.heap.size E n (mem20 c s2 N E):=⟨hk3,hM,⟨by have:=HK.out.a2;omega,hM.row.lt,fun b hb=>by
     obtain ⟨k,hk,rfl⟩:=hb
     exact ⟨by have:=HK.out.a2;have:=hown k hk;omega,(hM.cel k hk).lt,near_apart hM hk⟩⟩,hk3.a2.2,Nat.le_refl _⟩
    have H1:Hid (MkNear w w3 c s s2 N G a2 w3.heap.size E n (mem20 c s2 N E)):=h1
    clear x0 x5 hNn hk3 hM hown h1
    go_wp2_with fail
    go_meet
    exact ⟨w3.heap.size,n,H1.out.set 17 _⟩
   case rest=>
    obtain ⟨a3,n,hk⟩:=hcut
    clear x0 x5 hNn HK lx lG
    obtain ⟨i0,hi0,hz0,hz1,hz2⟩:=info_parts Tryz.infoWork
    have x0:wc.cell? ⟨w.heap.size,0,none⟩=some (.int .i64 N.nc):=by rw [HENC.out];exact hk.mm.mk0.box.cell 0
    have g19:wc.cell? ⟨G,19,none⟩=some (.slice none 0 0):=hk.mm.mk0.row.cell 19
    have f19:wc.frozen? ⟨G,19,none⟩=false:=hk.mm.mk0.row.frozen 19
    have HK:Hid _:=hk
    have lx:=hk.mm.mk0.box.lt
    have lG:=hk.mm.mk0.row.lt
    clear hk
    go_upto_region 7 with fail
    go_cut [] (fun wx=>∃ a3 n,LoopP w wx N s s2 E n G a2 a3 0 none 0 (fun _=>0) (fun _=>fz0) (fun _=>0) (fun _=>0))
    case first=>
     go_wp2_with (at_make;refine wpList_make_exact _ rfl _ _ 96 rfl 182 i0 _ Tryz.underlying96 hi0 hz0 .i64 .i64 _ _ N.nc rfl rfl (by simp) (by simp) (by rw [hz2];omega) (by unfold maxLen;omega) ?_;rw [hz1])
     go_meet
     exact ⟨_,n,HK.out.loop HEN.out⟩
    case rest=>
     obtain ⟨a3,n,hk⟩:=hcut
     clear x0 g19 f19 HK lx lG hi0 hz0 hz1 hz2
     have HK:Hid _:=hk
     obtain ⟨i0,hi0,hz0,hz1,hz2⟩:=info_parts Tryz.infoProgram
     obtain ⟨j0,hj0,hy0,hy1,hy2⟩:=info_parts Tryz.infoDomain
     clear hk
     go_wp2_with fail
     go_loopw [6] (fun u wr=>∃ (j:Nat) (va:Option Addr) (vc:Nat) (P:Nat→Nat) (f:Nat→FLoc) (lo hi:Nat→Nat),j≤N.nd∧u = .int .i64 j∧LoopP w wr N s s2 E n G a2 a3 j va vc P f lo hi) (fun u _=>N.nd-(intOf u).toNat)
     case atStart=>exact ⟨0,none,0,_,_,_,_,by omega,rfl,HK.out⟩
     case round=>
      obtain ⟨j,va,vc,P,f,lo,hi,hj,rfl,hP⟩:=hrel
      by_cases hlt:j<N.nd
      ·
       have hbx:Row wr w.heap.size (cfgL c s) 43:=by have:=hP.cbox;rw [HEN.out] at this;exact this
       obtain ⟨x0,x1,x2,x3,x4,x5,x6,x7,x8,x9,x10,x11,x12⟩:=cfg_cells hbx
       have hjd:(j:Int)<c.domains:=by rw [← HEND.out];omega
       have HLT:Hid (j<N.nd):=hlt
       have hWo:=kwaysOf_any c s j wr (h.below hP.bel (Nat.le_refl _))
       have HP:Hid _:=hP
       have HBX:Hid (Row wr w.heap.size (cfgL c s) 43):=hbx
       have lx:=hbx.lt
       clear hP hbx
       go_wp2_with fail
       refine hWo.mono ?_;rintro e w1 ⟨rfl,hb1⟩
       have hcnt:c.ways.count (j:Int)=N.wn j:=by rw [HNN.out];rfl
       rw [hcnt]
       have P1:=HP.out.below hb1
       have hsm:N.wn j=1∨N.wn j=2∨N.wn j=4:=by
        have:=(small_iff _).1 (ways_small HZ.out (d:=j) hjd)
        rw [hcnt] at this
        omega
       have hns:N.ns≤4∧0<N.ns:=by
        have:=(shape_bounds (chk_zero HZ.out).1).2.2.2.2.2.1
        have:=HENS.out
        omega
       have hb1x:Row w1 w.heap.size (cfgL c s) 43:=Row.below HBX.out hb1 lx
       have y6:w1.cell? ⟨w.heap.size,6,none⟩=some (.int .i64 N.ns):=by rw [HENS.out];exact hb1x.cell 6
       have hF:=fnew_any N.ns (N.wn j) hns.1 hns.2 hsm w1
       have HP1:Hid _:=P1
       have HB1:Hid _:=hb1
       have hs1:=hb1.size
       have lx1:=hb1x.lt
       have HBX1:Hid (Row w1 w.heap.size (cfgL c s) 43):=hb1x
       clear hcnt P1 hsm hns hWo x0 x1 x2 x3 x4 x5 x6 x7 x8 x9 x10 x11 x12 hb1x
       go_wp2_with fail
       refine hF.mono ?_;rintro e w2 ⟨F,rfl,hFM,hb2,hFo,hFt⟩
       have P2:=HP1.out.below hb2
       have hb2x:Row w2 w.heap.size (cfgL c s) 43:=Row.below HBX1.out hb2 lx1
       have y0:w2.cell? ⟨w.heap.size,0,none⟩=some (.int .i64 N.nc):=by rw [HENC.out];exact hb2x.cell 0
       have y18:w2.cell? ⟨G,18,none⟩=some (.slice va j vc):=P2.mbox.cell 18
       have z18:w2.frozen? ⟨G,18,none⟩=false:=P2.mbox.frozen 18
       have lG:=P2.mbox.lt
       have lx2:=hb2x.lt
       have HP2:Hid _:=P2
       have HB2:Hid _:=hb2
       have HFM:Hid _:=hFM
       have HFO:Hid _:=hFo
       have HFT:Hid _:=hFt
       have hs2:=hb2.size
       have LM:Hid (j+1≤maxLen):=by have:=HND4.out;unfold Hid maxLen;omega
       have L8:Hid ((j+1)*96≤140737488355328):=by have:=HND4.out;unfold Hid;omega
       clear P2 hb2x hF hFM hb2 hFo hFt y6 hb1
       go_wp2_with (first
        | (at_make;refine wpList_make_exact _ rfl _ _ 142 rfl 161 i0 _ Tryz.underlying142 hi0 hz0 .i64 .i64 _ _ N.nc rfl rfl (by simp) (by simp) (by rw [hz2];omega) (by unfold maxLen;omega) ?_;rw [hz1])
        | (at_builtin;refine wpList_append_lies _ rfl _ _ 95 rfl (a3+1) 144 j0 _ 4 96 Tryz.underlying95 hj0 hy0 hy1 hy2 rfl (by decide) (.slice va j vc) j ((List.range j).flatMap (domL N P f)) rfl ?p1 ⟨w2.heap.size+2,0,none⟩ 1 1 [.slice (some ⟨w2.heap.size+1,0,none⟩) N.nc N.nc,.slice (some ⟨F.r,0,none⟩) N.ns F.rc,.slice none 0 0,.slice none 0 0] ?p9 rfl ?p3 ?p4 (by omega) ?p5 ?p6 ?p7 _ rfl ?p8))
       case p1=>exact World.ownsRow.alloc (World.ownsRow.alloc (World.ownsRow.alloc HP2.out.row _) _) _
       try case p9=>rfl
       try case p3=>
        have hnb:=heap_alloc_new ((w2.alloc (.cells #[.slice (some ⟨w2.heap.size+1,0,none⟩) N.nc N.nc,.slice (some ⟨F.r,0,none⟩) N.ns F.rc,.slice none 0 0,.slice none 0 0] 144)).alloc (.cells (madeCells #[.slice none 0 0,.int .i64 0] (N.nc*2)) 161)) (.cells #[.slice (some ⟨w2.heap.size+1,0,none⟩) N.nc N.nc,.slice (some ⟨F.r,0,none⟩) N.ns F.rc,.slice none 0 0,.slice none 0 0] 144)
        rw [World.size_alloc,World.size_alloc] at hnb
        exact World.news_of_block (cs:=#[.slice (some ⟨w2.heap.size+1,0,none⟩) N.nc N.nc,.slice (some ⟨F.r,0,none⟩) N.ns F.rc,.slice none 0 0,.slice none 0 0]) (t:=144) (fr:=(0,0)) hnb
       case p4=>simp [Value.oneCell']
       case p5=>exact LM.out
       case p6=>exact L8.out
       case p7=>have:=HP2.out.ord;simp;omega
       case p8=>
        intro gg cap w4 hown4 hgrow4 hat4 hlt4
        have hbA:Below w2.heap.size w2 (((w2.alloc (.cells #[.slice (some ⟨w2.heap.size+1,0,none⟩) N.nc N.nc,.slice (some ⟨F.r,0,none⟩) N.ns F.rc,.slice none 0 0,.slice none 0 0] 144)).alloc (.cells (madeCells #[.slice none 0 0,.int .i64 0] (N.nc*2)) 161)).alloc (.cells #[.slice (some ⟨w2.heap.size+1,0,none⟩) N.nc N.nc,.slice (some ⟨F.r,0,none⟩) N.ns F.rc,.slice none 0 0,.slice none 0 0] 144)):=(((Below.refl _ _).alloc (Nat.le_refl _) _).alloc (by simp) _).alloc (by simp;omega) _
        have hpr:=made_cells (w2.alloc (.cells #[.slice (some ⟨w2.heap.size+1,0,none⟩) N.nc N.nc,.slice (some ⟨F.r,0,none⟩) N.ns F.rc,.slice none 0 0,.slice none 0 0] 144)) [.slice none 0 0,.int .i64 0] (by simp) (N.nc*2) 161
        rw [World.size_alloc] at hpr
        have hM:=HP.out.more (p:=w2.heap.size+1) (l0:=wr.heap.size) (F:=F) (below_step (below_step HB1.out HB2.out rfl) hbA rfl) (Nat.le_refl _) ⟨by omega,by simp⟩ ((hpr.below ((Below.refl _ _).alloc (Nat.le_refl _) _) (Nat.le_refl _)).congr fun i _=>by
         have:i%2=0∨i%2=1:=by omega
         rcases this with q|q <;> simp [q]) (HFM.out.below hbA (Nat.le_refl _)) (fun b hb=>by have:=HFO.out b hb;omega) HFT.out hgrow4 (hat4.imp id (fun q=>by omega)) hown4
        have P3:=HP2.out.below hbA
        have r4:Row w4 G (mbL N s2 E n a3 (.slice va j vc)) 98:=P3.mbox.same (hgrow4.block G P3.mbox.lt (fun e=>by have:=(owns_lt P3.row G e.symm).2;have:=P3.ord;omega))
        have y4:w4.cell? ⟨G,18,none⟩=some (.slice va j vc):=r4.cell 18
        have z4:w4.frozen? ⟨G,18,none⟩=false:=r4.frozen 18
        have l4:=r4.lt
        have HM:Hid _:=hM
        clear hown4 hgrow4 hat4 hbA hpr hM P3 r4 y0 y18 z18
        have hj1:=HLT.out
        have hj2:=HND4.out
        unfold Hid at hj1 hj2
        have hj3:j≤3:=by omega
        go_wp2_with fail
        go_roundw
        case rel=>exact ⟨j+1,_,cap,_,_,_,_,by omega,by go_num,HM.out⟩
        case measure=>simp [intOf];omega
      ·
       have hjd:¬(j:Int)<c.domains:=by rw [← HEND.out];omega
       have x1:wr.cell? ⟨w.heap.size,1,none⟩=some (.int .i64 c.domains):=by have:=hP.cbox;rw [HEN.out] at this;exact this.cell 1
       have ej:j=N.nd:=by omega
       subst ej
       obtain ⟨gd,vc',hv,_,_⟩:=World.ownsRow.form hP.row HND4.out.2
       simp only [Value.slice.injEq] at hv
       obtain ⟨rfl,_,rfl⟩:=hv
       have hPa:=hP.parts
       have HPA:Hid _:=hPa
       have hmb:Row wr G (mbL N s2 E n a3 (.slice (some ⟨gd,0,none⟩) N.nd vc)) 98:=hP.mbox
       have hrb:=hP.rbox
       have HBE:Hid _:=hP.bel
       have lx:=hP.cbox.lt
       have hGne:G≠w.heap.size+1:=by have:=hP.ord.1;omega
       clear hP hPa
       have hszM:(Tryz.prog.info? 98).map (·.size)=some (mbL N s2 E n a3 (.slice (some ⟨gd,0,none⟩) N.nd vc)).toArray.size:=by rw [show (mbL N s2 E n a3 (.slice (some ⟨gd,0,none⟩) N.nd vc)).toArray.size=20 by simp];exact Tryz.sizeMachine
       have hszz:zero20.toArray.size=(mbL N s2 E n a3 (.slice (some ⟨gd,0,none⟩) N.nd vc)).toArray.size:=by simp
       have hone:(mbL N s2 E n a3 (.slice (some ⟨gd,0,none⟩) N.nd vc)).toArray.all (·.oneCell')=true:=by simp [Value.oneCell']
       have HS1:Hid _:=hszM
       have HS2:Hid _:=hszz
       have HS3:Hid _:=hone
       clear hszM hszz hone
       go_wp2_with (first
        | (refine wpList_load_row (by rfl) 98 (.tmp 5) (by rfl) G (by rfl) 98 (mbL N s2 E n a3 (.slice (some ⟨gd,0,none⟩) N.nd vc)).toArray (0,0) _ hmb Tryz.underlying98 (by rfl) HS1.out ?_)
        | (refine Go.wpList_store_rowTo (by rfl) 98 (.tmp 2) (.tmp 55) (by rfl) (by rfl) (w.heap.size+1) (mbL N s2 E n a3 (.slice (some ⟨gd,0,none⟩) N.nd vc)).toArray (by rfl) (by rfl) 98 zero20.toArray hrb HS1.out HS2.out HS3.out ?_))
       have hld:=run_loadVar_row (P:=Tryz.prog) (wr.setRow (w.heap.size+1) (mbL N s2 E n a3 (.slice (some ⟨gd,0,none⟩) N.nd vc)).toArray) (w.heap.size+1) 98 98 (mbL N s2 E n a3 (.slice (some ⟨gd,0,none⟩) N.nd vc)).toArray (0,0) _ (row_setRow hrb _) Tryz.underlying98 rfl HS1.out
       refine bodyPost_ret (v:=.tuple #[.agg (mbL N s2 E n a3 (.slice (some ⟨gd,0,none⟩) N.nd vc)).toArray,.int .i64 0]) ?_ rfl ?_
       · simp [results,Tryz.results67,asAddr,hld]
       ·
        have hP2:=HPA.out.same (w':=wr.setRow (w.heap.size+1) (mbL N s2 E n a3 (.slice (some ⟨gd,0,none⟩) N.nd vc)).toArray) (q:=w.heap.size+1) (by omega) (by simp [World.setRow]) (fun b hb=>heap_setRow _ _ _ _ hb)
        have hB2:=below_setRow HBE.out (g:=w.heap.size+1) (by omega) (mbL N s2 E n a3 (.slice (some ⟨gd,0,none⟩) N.nd vc)).toArray
        have eN:=HNN.out
        subst eN
        exact ⟨⟨s2,E,n,gd,vc,P,f⟩,G,a2,a3,rfl,⟨lo,hi,hP2⟩,hB2⟩
theorem Parts.below {w w':World}{N:Cn}{Y:YLoc}{a0 a1 a2 a3:Nat}{lo hi:Nat→Nat}(h:Parts w N Y a0 a1 a2 a3 lo hi)(hb:Below w.heap.size w w'):Parts w' N Y a0 a1 a2 a3 lo hi:=by
 have hs:=hb.size
 obtain ⟨o1,o2,o3⟩:=h.ord
 have l3:=h.wks.lt
 have hcf:=h.cfg.same (w':=w') (fun b hb'=>hb.block b (by have:=(h.cfgr b hb').2;omega))
 exact ⟨hcf.1,fun b hb'=>h.cfgr b (hcf.2 b hb'),h.mem.below hb (Nat.le_refl _),h.memr,h.near.below hb (Nat.le_refl _),h.nearr,h.wks.below hb (Nat.le_refl _),h.dom.below hb (Nat.le_refl _),h.dcap,h.dmr,fun d hd=>(h.prg d hd).below hb (Nat.le_refl _),fun d hd=>(h.far d hd).below hb (Nat.le_refl _),h.fta,fun d hd=>by have:=h.rng d hd;exact ⟨this.1,by omega,this.2.2⟩,h.inc,h.ord⟩
theorem one_zero20:zero20.toArray.all (·.oneCell')=true:=by simp [Value.oneCell']
theorem size_zero20:(Tryz.prog.info? 98).map (·.size)=some zero20.toArray.size:=by rw [show zero20.toArray.size=20 by simp];exact Tryz.sizeMachine
theorem built0:Tryz.prog.built 98 []=some zero20.toArray:=by kernel_rfl
set_option maxHeartbeats 3200000 in
theorem knew_bad (c:Cf)(s:Sl)(w:World)(h:CfgAt w c s)(hz:chk c≠0) :
  Calls Tryz.prog 67 #[cfgV c s] w fun e w'=>e = .returned (.tuple #[.agg zero20.toArray,.int .i64 (chk c)])∧Below w.heap.size w w':=by
 have hb:(chk c != 0)=true:=by simp [hz]
 have hb0:∀ A B:Obj,Below w.heap.size w ((w.alloc A).alloc B):=fun A B=>((Below.refl _ _).alloc (Nat.le_refl _) _).alloc (by simp) _
 have hR0:Row ((w.alloc (.cells (cfgA c s) 43)).alloc (.cells zero20.toArray 98)) w.heap.size (cfgL c s) 43:=Row.alloc (heap_alloc_new w _) _
 have hC0:=check_any c s _ (h.below (hb0 (.cells (cfgA c s) 43) (.cells zero20.toArray 98)) (Nat.le_refl _))
 have hRb:Row ((w.alloc (.cells (cfgA c s) 43)).alloc (.cells zero20.toArray 98)) (w.heap.size+1) zero20 98:=by
  have:=heap_alloc_new (w.alloc (.cells (cfgA c s) 43)) (.cells zero20.toArray 98)
  rw [World.size_alloc] at this
  exact this
 have HRB0:Hid _:=hRb
 have HB0:Hid _:=hb0 (.cells (cfgA c s) 43) (.cells zero20.toArray 98)
 clear hz hb0 hRb hR0
 go_enter Tryz.func67,Tryz.ntmps67
 go_wp2_with fail
 refine hC0.mono ?_;rintro e w1 ⟨rfl,hb1⟩
 have B1:Below w.heap.size w w1:=below_step HB0.out hb1 rfl
 have hrb:Row w1 (w.heap.size+1) zero20 98:=Row.below HRB0.out hb1 (by simp)
 have HBE:Hid _:=B1
 clear hC0 B1 hb1
 go_wp2_with (first
  | (refine Go.wpList_buildTo (by rfl) 98 #[] (by rfl) (some 13) (by rfl) zero20.toArray built0 ?_)
  | (refine Go.wpList_store_rowTo (by rfl) 98 (.tmp 2) (.tmp 13) (by rfl) (by rfl) (w.heap.size+1) zero20.toArray (by rfl) (by rfl) 98 zero20.toArray hrb size_zero20 (by rfl) one_zero20 ?_))
 have hld:=run_loadVar_row (P:=Tryz.prog) (w1.setRow (w.heap.size+1) zero20.toArray) (w.heap.size+1) 98 98 zero20.toArray (0,0) _ (row_setRow hrb _) Tryz.underlying98 rfl size_zero20
 refine bodyPost_ret (v:=.tuple #[.agg zero20.toArray,.int .i64 (chk c)]) ?_ rfl ?_
 · simp [results,Tryz.results67,asAddr,hld]
 · exact ⟨rfl,below_setRow HBE.out (by omega) _⟩
theorem built77 (N:Cn)(X:XLoc):Tryz.prog.built 100 [(0,.agg (mchL N X 0).toArray)]=some (mchL N X 0).toArray:=by kernel_rfl
theorem one_mch (N:Cn)(X:XLoc):(mchL N X 0).toArray.all (·.oneCell')=true:=by simp [mchL,Value.oneCell']
theorem size_mch (N:Cn)(X:XLoc):(Tryz.prog.info? 98).map (·.size)=some (mchL N X 0).toArray.size:=by rw [show (mchL N X 0).toArray.size=20 by simp [mchL]];exact Tryz.sizeMachine
theorem size_zero_mch (N:Cn)(X:XLoc):zero20.toArray.size=(mchL N X 0).toArray.size:=by simp [mchL]
theorem box77 (ev:Operand→Value)(o:Oper)(y:Operand)(L:List Value)(ho:o.op = .box 100 y)(hy:ev y = .agg L.toArray)(w:World):(execOp ev o).run Tryz.prog w = .ok (.value (.pointer (some ⟨w.heap.size,0,none⟩))) (w.alloc (.cells L.toArray 100)):=by
 unfold execOp
 rw [ho]
 simp [hy,go_sem]
set_option maxHeartbeats 3200000 in
theorem wnew_good (c:Cf)(s:Sl)(w:World)(h:CfgAt w c s)(hz:chk c=0) :
  Calls Tryz.prog 30 #[cfgV c s] w fun e w'=>∃ X,e = .returned (.tuple #[.pointer (some ⟨X.g,0,none⟩),.int .i64 0])∧MachM w' (cnOf c) X (mkM (fun _ _=>[]) (fun _ _=>0) (fun _=>0))∧(∀ b,X.mine b→w.heap.size≤b)∧Below w.heap.size w w':=by
 have k0:=Kept.start w (cfgA c s) 43
 have hN:=knew_good c s _ (h.below k0.below (Nat.le_refl _)) hz
 have HK0:Hid _:=k0.below
 have HZ:Hid _:=hz
 clear hz
 go_enter Tryz.func30,Tryz.ntmps30
 go_wp2_with fail
 refine hN.mono ?_;rintro e w1 ⟨Y,a1,a2,a3,lo,hi,rfl,hP,hb1⟩
 have B1:=below_step HK0.out hb1 rfl
 have HB1:Hid _:=B1
 have HP:Hid _:=hP
 have S1:=size_mch (cnOf c) (Y.loc 0 a3 fun _=>none)
 have S2:=size_zero_mch (cnOf c) (Y.loc 0 a3 fun _=>none)
 have S3:=one_mch (cnOf c) (Y.loc 0 a3 fun _=>none)
 have S4:=built77 (cnOf c) (Y.loc 0 a3 fun _=>none)
 obtain ⟨L,hL⟩:∃ L,mchL (cnOf c) (Y.loc 0 a3 fun _=>none) 0=L:=⟨_,rfl⟩
 rw [hL] at S1 S2 S3 S4
 rw [hL]
 have HS1:Hid _:=S1
 have HS2:Hid _:=S2
 have HS3:Hid _:=S3
 have HS4:Hid _:=S4
 have HL:Hid _:=hL
 clear S1 S2 S3 S4 hL hP B1 hN k0 hb1
 go_wp2_with (first
  | (refine Go.Great.wpList_allocTo (by rfl) (some 4) (by rfl) _ _ (alloc20 _ _ (by rfl) _) ?_)
  | (refine Go.wpList_store_rowTo (by rfl) 98 (.tmp 4) (.tmp 9) (by rfl) (by rfl) w1.heap.size L.toArray (by rfl) (by rfl) 98 zero20.toArray (heap_alloc_new _ _) HS1.out HS2.out HS3.out ?_;rw [World.setRow_alloc_new])
  | (refine wpList_load_row (by rfl) 98 (.tmp 4) (by rfl) w1.heap.size (by rfl) 98 L.toArray (0,0) _ (heap_alloc_new _ _) Tryz.underlying98 (by rfl) HS1.out ?_)
  | (refine Go.wpList_buildTo (by rfl) 100 #[(0,.tmp 14)] (by rfl) (some 15) (by rfl) L.toArray (by simp only [List.map_toArray,List.map_cons,List.map_nil];exact HS4.out) ?_)
  | (refine Go.Great.wpList_allocTo (by rfl) (some 16) (by rfl) _ _ (box77 _ _ (.tmp 15) L (by rfl) (by rfl) _) ?_))
 go_ret2
 have hbA:Below w1.heap.size w1 (w1.alloc (.cells L.toArray 98)):=(Below.refl _ _).alloc (Nat.le_refl _) _
 obtain ⟨X,hg,hM,hX⟩:=(HP.out.below hbA).mach (N:=cnOf c) ⟨rfl,HZ.out⟩
 have e:(mchL (cnOf c) (Y.loc (w1.alloc (.cells L.toArray 98)).heap.size a3 fun _=>none) 0)=L:=HL.out
 rw [e] at hM
 refine ⟨X,?_,hM,fun b hb=>by have:=hX b hb;rw [World.size_alloc] at this;omega,(HB1.out.alloc HB1.out.size _).alloc (by have:=HB1.out.size;simp;omega) _⟩
 rw [hg,World.size_alloc]
 rfl
set_option maxHeartbeats 3200000 in
theorem wnew_bad (c:Cf)(s:Sl)(w:World)(h:CfgAt w c s)(hz:chk c≠0) :
  Calls Tryz.prog 30 #[cfgV c s] w fun e w'=>e = .returned (.tuple #[.pointer none,.int .i64 (chk c)])∧Below w.heap.size w w':=by
 have k0:=Kept.start w (cfgA c s) 43
 have hN:=knew_bad c s _ (h.below k0.below (Nat.le_refl _)) hz
 have hb:(chk c != 0)=true:=by simp [hz]
 have HK0:Hid _:=k0.below
 clear hz
 go_enter Tryz.func30,Tryz.ntmps30
 go_wp2_with fail
 refine hN.mono ?_;rintro e w1 ⟨rfl,hb1⟩
 have B1:=below_step HK0.out hb1 rfl
 have HB1:Hid _:=B1
 clear hN k0 hb1 B1
 obtain ⟨L,hL⟩:∃ L,zero20=L:=⟨_,rfl⟩
 have S1:=size_zero20
 have S3:=one_zero20
 have S2:zero20.toArray.size=L.toArray.size:=by rw [hL]
 rw [hL] at S1 S3
 have HS1:Hid _:=S1
 have HS2:Hid _:=S2
 have HS3:Hid _:=S3
 rw [show zero20.toArray=L.toArray by rw [hL]]
 clear S1 S2 S3 hL
 go_wp2_with (first
  | (refine Go.Great.wpList_allocTo (by rfl) (some 4) (by rfl) _ _ (alloc20 _ _ (by rfl) _) ?_)
  | (refine Go.wpList_store_rowTo (by rfl) 98 (.tmp 4) (.tmp 9) (by rfl) (by rfl) w1.heap.size L.toArray (by rfl) (by rfl) 98 zero20.toArray (heap_alloc_new _ _) HS1.out HS2.out HS3.out ?_;rw [World.setRow_alloc_new]))
 go_ret2
 exact ⟨rfl,HB1.out.alloc (HB1.out.size) _⟩
def markE (i:Nat):List Value:=[.int .i64 (-1000-i),.int .i64 (-1000-i),.int .i64 (-1000-i),.int .i64 (-1000-i),.int .i64 (-1000-i),.int .i64 (-1000-i)]
def markP (i:Nat):List Value:=[.int .i64 (-1000-i),.int .i64 (-1000-i),.int .i64 (-1000-i)]
def markB (i:Nat):List Value:=[.int .i64 (-1000-i),.bool true]
theorem kmarkEvent_any (n:Nat)(h:n≤140737488355328)(w:World):Calls Tryz.prog 22 #[.int .i64 n] w fun e w'=>e = .returned (.agg #[.int .i64 (-1000-n),.int .i64 (-1000-n),.int .i64 (-1000-n),.int .i64 (-1000-n),.int .i64 (-1000-n),.int .i64 (-1000-n)])∧w'=w.alloc (.cells #[.int .i64 (-1000-n),.int .i64 (-1000-n),.int .i64 (-1000-n),.int .i64 (-1000-n),.int .i64 (-1000-n),.int .i64 (-1000-n)] 58):=by
 have h':(n:Int)≤140737488355328:=by omega
 go_enter Tryz.func22,Tryz.ntmps22
 go_wp2
 refine bodyPost_ret (v:=.agg #[.int .i64 (-1000-n),.int .i64 (-1000-n),.int .i64 (-1000-n),.int .i64 (-1000-n),.int .i64 (-1000-n),.int .i64 (-1000-n)]) (by simp [results,Tryz.results22,go_sem,alloc_cell]) rfl ⟨rfl,rfl⟩
theorem kmarkCopy_any (n:Nat)(h:n≤140737488355328)(w:World):Calls Tryz.prog 23 #[.int .i64 n] w fun e w'=>e = .returned (.agg #[.int .i64 (-1000-n),.int .i64 (-1000-n),.int .i64 (-1000-n)])∧w'=w.alloc (.cells #[.int .i64 (-1000-n),.int .i64 (-1000-n),.int .i64 (-1000-n)] 62):=by
 have h':(n:Int)≤140737488355328:=by omega
 go_enter Tryz.func23,Tryz.ntmps23
 go_wp2
 refine bodyPost_ret (v:=.agg #[.int .i64 (-1000-n),.int .i64 (-1000-n),.int .i64 (-1000-n)]) (by simp [results,Tryz.results23,go_sem,alloc_cell]) rfl ⟨rfl,rfl⟩
theorem kmarkBlock_any (n:Nat)(h:n≤140737488355328)(w:World):Calls Tryz.prog 24 #[.int .i64 n] w fun e w'=>e = .returned (.agg #[.int .i64 (-1000-n),.bool true])∧w'=w.alloc (.cells #[.int .i64 (-1000-n),.bool true] 66):=by
 have h':(n:Int)≤140737488355328:=by omega
 go_enter Tryz.func24,Tryz.ntmps24
 go_wp2
 refine bodyPost_ret (v:=.agg #[.int .i64 (-1000-n),.bool true]) (by simp [results,Tryz.results24,go_sem,alloc_cell]) rfl ⟨rfl,rfl⟩
theorem Outs.item {w:World}{base:Nat}{rt et:TypeId}{mark:Nat→List Value}{sa:Option Addr}{n c:Nat}{a:Nat→Option Addr}{l:Nat→Nat}(h:Outs w base rt et mark (.slice sa n c) n a l){i:Nat}(hi:i<n):∃ g,sa=some ⟨g,0,none⟩∧g<w.heap.size∧w.cell? ⟨g,i,none⟩=some (.slice (a i) (l i) (l i)):=by
 obtain ⟨g,e1,_,_,e2,e3⟩:=owns_cell h.row (by omega)
 refine ⟨g,e1,e2,?_⟩
 rw [e3 i (by omega),List.getElem?_map,List.getElem?_range hi]
 rfl
set_option maxHeartbeats 6400000 in
theorem looks_any (gw base:Nat)(o:Own)(m:Value)(ea pa ba:Option Addr)(en ec pn pc bn bc:Nat)(ts:List Int)(os:List (Int × Int × Int))(aE aP aB:Nat→Option Addr)(lE lP lB:Nat→Nat)(w:World)(h:WSt w gw base o m (.slice ea en ec) (.slice pa pn pc) (.slice ba bn bc) ts os)
  (hE:Outs w base 56 58 markE (.slice ea en ec) en aE lE) (hP:Outs w base 60 62 markP (.slice pa pn pc) pn aP lP) (hB:Outs w base 64 66 markB (.slice ba bn bc) bn aB lB)
  (h1:en≤140737488355328) (h2:pn≤140737488355328) (h3:bn≤140737488355328) :
  Calls Tryz.prog 10 #[.pointer (some ⟨gw,0,none⟩)] w fun x w'=>x = .returned (.bool true)∧Below w.heap.size w w':=by
 have HR:Hid (Row w gw (ownL o m (.slice ea en ec) (.slice pa pn pc) (.slice ba bn bc)) 34):=h.row
 have HE:Hid _:=hE
 have HP:Hid _:=hP
 have HB:Hid _:=hB
 have lg:=h.row.lt
 clear h hE hP hB
 go_enter Tryz.func10,Tryz.ntmps10
 go_wp2_with fail
 go_loopw [3] (fun u wr=>∃ (i:Nat),i≤en∧u = .int .i64 i∧Below w.heap.size w wr) (fun u _=>en-(intOf u).toNat)
 case atStart=>exact ⟨0,by omega,rfl,Below.refl _ _⟩
 case round=>
  obtain ⟨i,hi,rfl,hb⟩:=hrel
  have HBW:Hid _:=hb
  have rW:=Row.below HR.out hb lg
  have c4:wr.cell? ⟨gw,4,none⟩=some (.slice ea en ec):=rW.cell 4
  have lgw:gw<wr.heap.size:=rW.lt
  clear hb rW
  by_cases hlt:i<en
  ·
   go_wp2_with fail
   go_loopw [4] (fun u wq=>∃ (j:Nat),j≤lE i∧u = .int .i64 j∧Below w.heap.size w wq) (fun u _=>lE i-(intOf u).toNat)
   case atStart=>exact ⟨0,by omega,rfl,HBW.out⟩
   case round=>
    obtain ⟨j,hj,rfl,hb⟩:=hrel
    have HBQ:Hid _:=hb
    have hO:=HE.out.below hb
    obtain ⟨ge,e1,e2,e3⟩:=hO.item hlt
    have rW:=Row.below HR.out hb lg
    have hlb:=hO.bnd i hlt
    have hsat:=hO.sat i hlt
    have c4:wr.cell? ⟨gw,4,none⟩=some (.slice (some ⟨ge,0,none⟩) en ec):=by rw [← e1];exact rW.cell 4
    have lgw:gw<wr.heap.size:=rW.lt
    clear hb rW hO e1
    generalize lE i=li at *
    generalize aE i=ai at *
    by_cases hjl:j<li
    ·
     obtain ⟨g,rfl,_,hr⟩:=hsat (by omega)
     have d0:wr.cell? ⟨g,j*6,none⟩=some (.int .i64 (-1000-(i:Int))):=(hr.cell _).trans (markL_at (markE i) 6 rfl li j 0 hjl (by omega))
     have d1:wr.cell? ⟨g,j*6+1,none⟩=some (.int .i64 (-1000-(i:Int))):=(hr.cell _).trans (markL_at (markE i) 6 rfl li j 1 hjl (by omega))
     have d2:wr.cell? ⟨g,j*6+2,none⟩=some (.int .i64 (-1000-(i:Int))):=(hr.cell _).trans (markL_at (markE i) 6 rfl li j 2 hjl (by omega))
     have d3:wr.cell? ⟨g,j*6+3,none⟩=some (.int .i64 (-1000-(i:Int))):=(hr.cell _).trans (markL_at (markE i) 6 rfl li j 3 hjl (by omega))
     have d4:wr.cell? ⟨g,j*6+4,none⟩=some (.int .i64 (-1000-(i:Int))):=(hr.cell _).trans (markL_at (markE i) 6 rfl li j 4 hjl (by omega))
     have d5:wr.cell? ⟨g,j*6+5,none⟩=some (.int .i64 (-1000-(i:Int))):=(hr.cell _).trans (markL_at (markE i) 6 rfl li j 5 hjl (by omega))
     have lr:=hr.lt
     clear hr hsat
     go_wp2_with fail
     have nw1:=World.new_ne _ _ c4
     have nw2:=World.new_ne _ _ e3
     have nw3:=World.new_ne _ _ d0
     go_region_held3 (fun w'=>w'.cell? ⟨gw,4,none⟩=some (.slice (some ⟨ge,0,none⟩) en ec)∧w'.cell? ⟨ge,i,none⟩=some (.slice (some ⟨g,0,none⟩) li li)∧w'.cell? ⟨g,j*6,none⟩=some (.int .i64 (-1000-(i:Int)))∧w'.cell? ⟨g,j*6+1,none⟩=some (.int .i64 (-1000-(i:Int)))∧w'.cell? ⟨g,j*6+2,none⟩=some (.int .i64 (-1000-(i:Int)))∧w'.cell? ⟨g,j*6+3,none⟩=some (.int .i64 (-1000-(i:Int)))∧w'.cell? ⟨g,j*6+4,none⟩=some (.int .i64 (-1000-(i:Int)))∧w'.cell? ⟨g,j*6+5,none⟩=some (.int .i64 (-1000-(i:Int)))) (go_keep) (first | (go_at_call 22;refine (kmarkEvent_any i (by omega) _).mono ?_;rintro e wv ⟨rfl,rfl⟩))
     all_goals
      go_wp2_with fail
      go_roundw
      case rel=>exact ⟨j+1,by omega,by go_num,below_step HBQ.out (((Below.refl _ _).alloc (Nat.le_refl _) _).drew) rfl⟩
      case measure=>simp [intOf];omega
    ·
     clear hsat
     go_wp2_with fail
     go_roundw
     case rel=>exact ⟨i+1,by omega,by go_num,HBQ.out⟩
     case measure=>simp [intOf];omega
  ·
   have HPV1:Hid (Below w.heap.size w wr):=HBW.out
   clear HBW
   go_wp2_with fail
   clear c4 lgw
   go_loopw [5] (fun u wr=>∃ (i:Nat),i≤pn∧u = .int .i64 i∧Below w.heap.size w wr) (fun u _=>pn-(intOf u).toNat)
   case atStart=>exact ⟨0,by omega,rfl,HPV1.out⟩
   case round=>
    obtain ⟨i,hi,rfl,hb⟩:=hrel
    have HBW:Hid _:=hb
    have rW:=Row.below HR.out hb lg
    have c4:wr.cell? ⟨gw,5,none⟩=some (.slice pa pn pc):=rW.cell 5
    have lgw:gw<wr.heap.size:=rW.lt
    clear hb rW
    by_cases hlt:i<pn
    ·
     go_wp2_with fail
     go_loopw [6] (fun u wq=>∃ (j:Nat),j≤lP i∧u = .int .i64 j∧Below w.heap.size w wq) (fun u _=>lP i-(intOf u).toNat)
     case atStart=>exact ⟨0,by omega,rfl,HBW.out⟩
     case round=>
      obtain ⟨j,hj,rfl,hb⟩:=hrel
      have HBQ:Hid _:=hb
      have hO:=HP.out.below hb
      obtain ⟨ge,e1,e2,e3⟩:=hO.item hlt
      have rW:=Row.below HR.out hb lg
      have hlb:=hO.bnd i hlt
      have hsat:=hO.sat i hlt
      have c4:wr.cell? ⟨gw,5,none⟩=some (.slice (some ⟨ge,0,none⟩) pn pc):=by rw [← e1];exact rW.cell 5
      have lgw:gw<wr.heap.size:=rW.lt
      clear hb rW hO e1
      generalize lP i=li at *
      generalize aP i=ai at *
      by_cases hjl:j<li
      ·
       obtain ⟨g,rfl,_,hr⟩:=hsat (by omega)
       have d0:wr.cell? ⟨g,j*3,none⟩=some (.int .i64 (-1000-(i:Int))):=(hr.cell _).trans (markL_at (markP i) 3 rfl li j 0 hjl (by omega))
       have d1:wr.cell? ⟨g,j*3+1,none⟩=some (.int .i64 (-1000-(i:Int))):=(hr.cell _).trans (markL_at (markP i) 3 rfl li j 1 hjl (by omega))
       have d2:wr.cell? ⟨g,j*3+2,none⟩=some (.int .i64 (-1000-(i:Int))):=(hr.cell _).trans (markL_at (markP i) 3 rfl li j 2 hjl (by omega))
       have lr:=hr.lt
       clear hr hsat
       go_wp2_with fail
       have nw1:=World.new_ne _ _ c4
       have nw2:=World.new_ne _ _ e3
       have nw3:=World.new_ne _ _ d0
       go_region_held3 (fun w'=>w'.cell? ⟨gw,5,none⟩=some (.slice (some ⟨ge,0,none⟩) pn pc)∧w'.cell? ⟨ge,i,none⟩=some (.slice (some ⟨g,0,none⟩) li li)∧w'.cell? ⟨g,j*3,none⟩=some (.int .i64 (-1000-(i:Int)))∧w'.cell? ⟨g,j*3+1,none⟩=some (.int .i64 (-1000-(i:Int)))∧w'.cell? ⟨g,j*3+2,none⟩=some (.int .i64 (-1000-(i:Int)))) (go_keep) (first | (go_at_call 23;refine (kmarkCopy_any i (by omega) _).mono ?_;rintro e wv ⟨rfl,rfl⟩))
       all_goals
        go_wp2_with fail
        go_roundw
        case rel=>exact ⟨j+1,by omega,by go_num,below_step HBQ.out (((Below.refl _ _).alloc (Nat.le_refl _) _).drew) rfl⟩
        case measure=>simp [intOf];omega
      ·
       clear hsat
       go_wp2_with fail
       go_roundw
       case rel=>exact ⟨i+1,by omega,by go_num,HBQ.out⟩
       case measure=>simp [intOf];omega
    ·
     have HPV2:Hid (Below w.heap.size w wr):=HBW.out
     clear HBW
     go_wp2_with fail
     clear c4 lgw
     go_loopw [7] (fun u wr=>∃ (i:Nat),i≤bn∧u = .int .i64 i∧Below w.heap.size w wr) (fun u _=>bn-(intOf u).toNat)
     case atStart=>exact ⟨0,by omega,rfl,HPV2.out⟩
     case round=>
      obtain ⟨i,hi,rfl,hb⟩:=hrel
      have HBW:Hid _:=hb
      have rW:=Row.below HR.out hb lg
      have c4:wr.cell? ⟨gw,6,none⟩=some (.slice ba bn bc):=rW.cell 6
      have lgw:gw<wr.heap.size:=rW.lt
      clear hb rW
      by_cases hlt:i<bn
      ·
       go_wp2_with fail
       go_loopw [8] (fun u wq=>∃ (j:Nat),j≤lB i∧u = .int .i64 j∧Below w.heap.size w wq) (fun u _=>lB i-(intOf u).toNat)
       case atStart=>exact ⟨0,by omega,rfl,HBW.out⟩
       case round=>
        obtain ⟨j,hj,rfl,hb⟩:=hrel
        have HBQ:Hid _:=hb
        have hO:=HB.out.below hb
        obtain ⟨ge,e1,e2,e3⟩:=hO.item hlt
        have rW:=Row.below HR.out hb lg
        have hlb:=hO.bnd i hlt
        have hsat:=hO.sat i hlt
        have c4:wr.cell? ⟨gw,6,none⟩=some (.slice (some ⟨ge,0,none⟩) bn bc):=by rw [← e1];exact rW.cell 6
        have lgw:gw<wr.heap.size:=rW.lt
        clear hb rW hO e1
        generalize lB i=li at *
        generalize aB i=ai at *
        by_cases hjl:j<li
        ·
         obtain ⟨g,rfl,_,hr⟩:=hsat (by omega)
         have d0:wr.cell? ⟨g,j*2,none⟩=some (.int .i64 (-1000-(i:Int))):=(hr.cell _).trans (markL_at (markB i) 2 rfl li j 0 hjl (by omega))
         have d1:wr.cell? ⟨g,j*2+1,none⟩=some (.bool true):=(hr.cell _).trans (markL_at (markB i) 2 rfl li j 1 hjl (by omega))
         have lr:=hr.lt
         clear hr hsat
         go_wp2_with fail
         have nw1:=World.new_ne _ _ c4
         have nw2:=World.new_ne _ _ e3
         have nw3:=World.new_ne _ _ d0
         go_region_held3 (fun w'=>w'.cell? ⟨gw,6,none⟩=some (.slice (some ⟨ge,0,none⟩) bn bc)∧w'.cell? ⟨ge,i,none⟩=some (.slice (some ⟨g,0,none⟩) li li)∧w'.cell? ⟨g,j*2,none⟩=some (.int .i64 (-1000-(i:Int)))∧w'.cell? ⟨g,j*2+1,none⟩=some (.bool true)) (go_keep) (first | (go_at_call 24;refine (kmarkBlock_any i (by omega) _).mono ?_;rintro e wv ⟨rfl,rfl⟩))
         all_goals
          go_wp2_with fail
          go_roundw
          case rel=>exact ⟨j+1,by omega,by go_num,below_step HBQ.out (((Below.refl _ _).alloc (Nat.le_refl _) _).drew) rfl⟩
          case measure=>simp [intOf];omega
        ·
         clear hsat
         go_wp2_with fail
         go_roundw
         case rel=>exact ⟨i+1,by omega,by go_num,HBQ.out⟩
         case measure=>simp [intOf];omega
      ·
       have HPV3:Hid (Below w.heap.size w wr):=HBW.out
       go_wp2
       go_ret
       exact ⟨rfl,HPV3.out⟩
end Go.Proofs.YtehheaedbnfidaaGreat
