import Derived.Test.YtehheaedbnfidaaGreatClWPairD
import Derived.Test.YtehheaedbnfidaaGreatClRefSG
set_option maxRecDepth 100000
namespace Go.Proofs.YtehheaedbnfidaaGreat
open Go.RowKit
attribute [local go_sem] Tryz.nilInts Tryz.nilGrid
set_option maxHeartbeats 2000000 in
theorem whole_anyT (w0 wl w:World)(c:Cf)(s s1:Sl)(ma:Option Addr)(ml mc:Nat)(h0:CfgAt w0 c s)(hc:CfR c)(hb0:Below w0.heap.size w0 wl)(h:LentC w0 wl c s s1 ma ml mc)(hbl:Below wl.heap.size wl w) :
  Calls Tryz.prog 32 #[cfgV c s1,.slice ma ml mc,cfgV c s] w fun e w'=>e = .returned (.bool true)∧Below w0.heap.size w w'∧∀ j,wl.heap.size≤j→j<w.heap.size→w'.heap[j]? = w.heap[j]? := by
 have hb:Below w0.heap.size w0 w:=below_step hb0 hbl rfl
 have HC:Hid _:=h
 obtain ⟨⟨⟨g1,b1,h1w⟩,⟨g2,b2,h2w⟩⟩,_⟩:=h
 have h1:=h1w.below hbl (Nat.le_refl _)
 have h2:=h2w.below hbl (Nat.le_refl _)
 have hsl:wl.heap.size≤w.heap.size:=hbl.size
 have r1:=hc.ways
 rw [h0.ways.hlen] at r1
 have r2:=hc.slots
 rw [h0.slots.hlen] at r2
 have bW:Below w.heap.size w ((w.alloc (.cells (cfgA c s1) 43)).alloc (.cells (cfgA c s) 43)):=((Below.refl _ _).alloc (Nat.le_refl _) _).alloc (by simp) _
 have bW0:=below_step hb bW rfl
 have V1:Hid _:=h1.len h0.ways
 have V2:Hid _:=h2.len h0.slots
 have o1:=h1w.own
 have o2:=h2w.own
 have O1:Hid _:=o1
 have O2:Hid _:=o2
 have rB:Row ((w.alloc (.cells (cfgA c s1) 43)).alloc (.cells (cfgA c s) 43)) w.heap.size (cfgL c s1) 43:=by
  have:Row (w.alloc (.cells (cfgA c s1) 43)) w.heap.size (cfgL c s1) 43:=heap_alloc_new w _
  exact this.alloc _
 clear o1 o2
 go_enter Tryz.func32,Tryz.ntmps32
 go_wp2_with fail
 refine (wholeInts_any _ _ _ c.ways _ _ _ g1 _ (h0.ways.below bW0 (Nat.le_refl _)) r1 (h1.below bW (Nat.le_refl _))).mono ?_
 rintro e w' ⟨rfl,rfl⟩
 go_wp2_with fail
 refine (wholeInts_any _ _ _ c.slots _ _ _ g2 _ (h0.slots.below bW0 (Nat.le_refl _)) r2 (h2.below bW (Nat.le_refl _))).mono ?_
 rintro e w' ⟨rfl,rfl⟩
 go_wp2_with fail
 refine (wholeTurns_any w0 wl _ c s s1 ma ml mc h0 hc hb0 HC.out (below_step hbl bW rfl)).mono ?_
 rintro e w2 ⟨rfl,p1,p2,p3⟩
 have q2:∀ o,w2.cell? ⟨w.heap.size,o,none⟩=(cfgA c s1)[o]? := by
  intro o
  have:Row w2 w.heap.size (cfgL c s1) 43:=by unfold Row;rw [p3 _ hsl];exact rB
  rw [this.cell];simp
 have room1:=((h1.below bW (Nat.le_refl _)).room).shaped p2
 have room2:=((h2.below bW (Nat.le_refl _)).room).shaped p2
 have P1:Hid _:=p1
 have T1:Hid _:=p3
 clear p1 p2 p3 rB
 go_wp2_with fail
 refine (spoilInts_any _ _ _ g1 w0.heap.size 0 _ (by rw [V1.out];exact r1) room1 b1).mono ?_
 rintro e w3 ⟨rfl,p1,p2,p3,_⟩
 have q3:∀ o,w3.cell? ⟨w.heap.size,o,none⟩=(cfgA c s1)[o]? := by
  intro o
  rw [World.cell?_of_block (w:=w2) (p3 w.heap.size (fun hv=>by have:=O1.out hv;omega))]
  exact q2 o
 have room2':=room2.shaped p2
 have P3:Hid _:=p1
 have T3:Hid _:=p3
 clear p1 p2 p3 q2
 go_wp2_with fail
 refine (spoilInts_any _ _ _ g2 w0.heap.size 0 _ (by rw [V2.out];exact r2) room2' b2).mono ?_
 rintro e w4 ⟨rfl,p1,p2,p3,_⟩
 have P4:Hid _:=p1
 have T4:Hid _:=p3
 clear p1 p2 p3 q3
 go_wp2
 go_ret
 exact ⟨rfl,(((bW.mono hb.size).trans P1.out).trans P3.out).trans P4.out,fun j hj hjw=>(((T4.out j (fun hv=>by have:=O2.out hv;omega)).trans (T3.out j (fun hv=>by have:=O1.out hv;omega))).trans (T1.out j hj)).trans (bW.block j hjw)⟩
end Go.Proofs.YtehheaedbnfidaaGreat
namespace Go.Proofs.YtehheaedbnfidaaGreat
open Go.RowKit
theorem worksAll_one (M:MDat)(d:Nat)(t:Int)(n j:Nat)(S:So)(h:j<n):So.worksAll M d t (n-j) j S=So.worksAll M d t (n-(j+1)) (j+1) (So.works M d j S t):=by
 rw [show n-j=(n-(j+1))+1 by omega,So.worksAll]
theorem play_next {M:MDat}{d T0:Nat}(hc:chk M.c=0)(hd:(d:Int)<M.c.domains)(h0:T0≤10000):(T0:Int)≤soonZ M d (So.upto M d T0) T0∧∀ T1:Nat,T0≤T1→(T1:Int)≤soonZ M d (So.upto M d T0) T0→So.upto M d T1=So.upto M d T0:=by
 refine ⟨soon_ge hc (fail_upto hc T0 h0) (fun k hk=>((SoOk.upto hc T0 h0).fr k hk).2) (by omega),fun T1 h1 h2=>?_⟩
 have:=upto_skip hc hd T0 (T1-T0) (by rw [show T0+(T1-T0)=T1 by omega];exact h2)
 rw [show T0+(T1-T0)=T1 by omega] at this
 exact this
set_option maxHeartbeats 12800000 in
theorem rplayed_any (L:RLoc)(M:RDat)(d:Nat)(w:World)(h:RefM w L M)(hc:CfgAt w M.c M.s)(hd:d<L.nd) :
  Calls Tryz.prog 50 #[.pointer (some ⟨L.gr,0,none⟩),.int .i64 d] w fun e w'=>∃ X,e = .returned (.pointer (some ⟨SLoc.gs X,0,none⟩))∧X.d=d∧Ctx w w' w.heap.size X L M (So.upto M.toM d M.T.toNat):=by
 obtain ⟨k0,hk0,hu0,hu1,hu2⟩:=info_parts Tryz.infoInt
 have R:=right_of h.right
 have hdd:(d:Int)<M.toM.c.domains:=by have:=h.nd;show (d:Int)<M.c.domains;omega
 obtain ⟨n,hn⟩:∃ n:Nat,M.c.cores=n:=⟨M.c.cores.toNat,by have:=R.c1;omega⟩
 have hn3:n≤3:=by have:=R.c2;omega
 have hn1:n=M.c.cores.toNat:=by omega
 obtain ⟨T,hT⟩:∃ T:Nat,M.T=T:=⟨M.T.toNat,by have:=h.T0;omega⟩
 have hT1:T≤10000:=by have:=h.T1;omega
 have hT2:M.T.toNat=T:=by omega
 have m0:w.cell? ⟨L.gr,0,none⟩=some (.int .i64 n):=by rw [← hn,h.row.cell];rfl
 have hm3:∀ w':World,(Instr.makeSlice 25 (.int .i64 (n:Int)) (.int .i64 (n:Int))).run Tryz.prog w' = .ok (.slice (some ⟨w'.heap.size,0,none⟩) n n) (w'.alloc (.cells (madeCells #[.int .i64 0] n) 3)):=fun w'=>by
  have:=run_make (P:=Tryz.prog) w' 25 3 k0 (.int .i64 0) Tryz.underlying25 hk0 hu0 .i64 .i64 (n:Int) (n:Int) (by omega) (Int.le_refl _) (by rw [hu2];omega) (by omega)
  simp only [Int.toNat_natCast,hu1,Nat.mul_one] at this
  exact this
 have HST:Hid (∀ gn gf gb gh:Nat,_→_→_→_→_→_):=fun gn gf gb gh h1 h2 h3 h4 hx=>play_start (gn:=gn) (gf:=gf) (gb:=gb) (gh:=gh) h hc hd hn1 h1 h2 h3 h4 hx
 have HPN:Hid (∀ T0:Nat,T0≤10000→_):=fun T0 h0=>play_next (M:=M.toM) (d:=d) (T0:=T0) h.right hdd h0
 have HSO:Hid (∀ T0:Nat,T0≤10000→SoOk M.toM d (So.upto M.toM d T0) (5*T0)):=fun T0 h0=>SoOk.upto5 h.right T0 h0
 have HCH:Hid (chk M.toM.c=0):=h.right
 have HN:Hid (n=M.c.cores.toNat):=hn1
 have HMC:Hid (M.c.cores=n):=hn
 have HT:Hid (M.T=T):=hT
 rw [hT2]
 clear hk0 hu0 hu1 hu2 h hc R hn hn1 hT hT2 hdd
 go_enter Tryz.func50,Tryz.ntmps50
 go_wp2_with fail
 go_cut [6] (fun p wx=>∃ X,p = .pointer (some ⟨SLoc.gs X,0,none⟩)∧X.d=d∧Ctx w wx w.heap.size X L M (So.start n))
 case first=>
  clear m0
  go_region_held3 (fun _=>True) (trivial) (fail)
  all_goals go_wp2_with fail
  all_goals go_meet
  all_goals have hmi:madeCells #[Value.int .i64 0] n=(List.replicate n (Value.int .i64 0)).toArray:=made_int n
  all_goals
   obtain ⟨z,hz⟩:∃ z,w.heap.size=z:=⟨_,rfl⟩
   have HST:=HST.out
   rw [hz] at HST
   rw [hmi,hz]
  all_goals exact ⟨_,rfl,rfl,HST _ _ _ _ (by omega) (by omega) (by omega) (by omega) (by omega)⟩
 case rest=>
  obtain ⟨X,rfl,hxd,hX⟩:=hcut
  clear m0 hm3 HST
  have hS0:SoOk M.toM X.d (So.start n) 0:=by rw [HN.out];exact SoOk.start
  have HSN:=rsoonest_any w w.heap.size 0 X L M (So.start n) 0 wc hX hS0 (by omega) (by omega)
  obtain ⟨gs,hgs⟩:∃ gs,X.gs=gs:=⟨_,rfl⟩
  rw [hgs] at HSN
  rw [hgs]
  have HXX:Hid _:=hX
  have HXD:Hid _:=hxd
  clear hX
  go_wp2_with fail
  refine HSN.mono ?_;rintro e w1 ⟨rfl,hb1⟩
  have hX1:=HXX.out.reads hb1
  rw [HXD.out]
  go_wp2_with fail
  go_loopw [7] (fun t wr=>∃ (T0:Nat) (X':SLoc),X'.gs=gs∧X'.d=d∧T0≤T∧t = .int .i64 (soonZ M.toM d (So.upto M.toM d T0) T0)∧Ctx w wr w.heap.size X' L M (So.upto M.toM d T0)) (fun t _=>((T:Int)-intOf t).toNat)
  case atStart=>exact ⟨0,X,hgs,HXD.out,by omega,by rw [show So.upto M.toM d 0=So.start n from by rw [HN.out];rfl];rfl,by rw [show So.upto M.toM d 0=So.start n from by rw [HN.out];rfl];exact hX1⟩
  case round=>
   obtain ⟨T0,X2,g1,g2,hle,rfl,hX2⟩:=hrel
   obtain ⟨p1,p2⟩:=HPN.out T0 (by omega)
   obtain ⟨u,hu⟩:∃ u:Nat,soonZ M.toM d (So.upto M.toM d T0) T0=u:=⟨(soonZ M.toM d (So.upto M.toM d T0) T0).toNat,by omega⟩
   rw [hu] at p1 p2
   rw [hu]
   have m4:wr.cell? ⟨L.gr,16,none⟩=some (.int .i64 T):=by rw [← HT.out,hX2.ref.row.cell];rfl
   clear hu HSN hb1 hX1
   by_cases hlt:(u:Int)<(T:Int)
   ·
    have e1:=p2 u (by omega) (Int.le_refl _)
    have HX2:Hid (Ctx w wr w.heap.size X2 L M (So.upto M.toM d u)):=by unfold Hid;rw [e1];exact hX2
    have hS:=HSO.out u (by omega)
    have HSV:=rservice_any w w.heap.size (5*u) X2 L M (So.upto M.toM d u) u wr HX2.out (by rw [g2];exact hS) (by omega) (by omega) (by omega)
    rw [g1,g2] at HSV
    have HE1:Hid _:=e1
    have HS:Hid (SoOk M.toM d (So.service M.toM d (So.upto M.toM d u) u) (5*u+3)):=hS.service HCH.out (by omega) (by omega)
    clear hX2 e1 p2 hS
    go_wp2_with fail
    refine HSV.mono ?_;rintro e w2 ⟨rfl,X3,g3,g4,hX3⟩
    clear m4 HSV
    go_wp2_with fail
    go_loopw [8] (fun k wq=>∃ (j:Nat) (X':SLoc) (S':So),X'.gs=gs∧X'.d=d∧j≤n∧k = .int .i64 j∧Ctx w wq w.heap.size X' L M S'∧SoOk M.toM d S' (5*u+3+2*j)∧So.worksAll M.toM d u (n-j) j S'=So.upto M.toM d (u+1)) (fun k _=>((n:Int)-intOf k).toNat)
    case atStart=>exact ⟨0,X3,_,g3,g4,by omega,rfl,hX3,HS.out,by rw [Nat.sub_zero];show So.worksAll M.toM d u n 0 _=So.cycle M.toM d (So.upto M.toM d u) (u:Nat);unfold So.cycle;rw [HN.out];rfl⟩
    case round=>
     obtain ⟨j,X4,S4,g5,g6,hj,rfl,hX4,hS4,hw4⟩:=hrel
     by_cases hjn:(j:Int)<(n:Int)
     ·
      have HW:=rworks_any w w.heap.size (5*u+3+2*j) X4 L M S4 j u wr hX4 (by rw [g6];exact hS4) (by omega) (by have:=HN.out;omega) (by omega) (by omega)
      rw [g5,g6] at HW
      have HS5:Hid _:=hS4.works HCH.out (show j<M.toM.c.cores.toNat by have:=HN.out;show j<M.c.cores.toNat;omega) (show (0:Int)≤(u:Int) by omega) (by omega)
      have HW5:Hid _:=worksAll_one M.toM d u n j S4 (by omega)
      have HW4:Hid _:=hw4
      clear hX4 hS4 hw4
      go_wp2_with fail
      refine HW.mono ?_;rintro e w3 ⟨rfl,X5,g7,g8,hX5⟩
      go_wp2_with fail
      go_roundw
      case rel=>exact ⟨j+1,X5,_,g7,g8,by omega,by go_num,hX5,HS5.out,HW5.out.symm.trans HW4.out⟩
      case measure=>simp [intOf];omega
     ·
      have ej:j=n:=by omega
      subst ej
      rw [Nat.sub_self] at hw4
      have hX5:Ctx w wr w.heap.size X4 L M (So.upto M.toM d (u+1)):=by rw [← hw4];exact hX4
      have HSN:=rsoonest_any w w.heap.size (5*(u+1)) X4 L M (So.upto M.toM d (u+1)) ((u+1:Nat):Int) wr hX5 (by rw [g6];exact HSO.out (u+1) (by omega)) (by omega) (by omega)
      rw [g5,g6] at HSN
      have HX5:Hid _:=hX5
      have p3:=(HPN.out (u+1) (by omega)).1
      have eu:((u+1:Nat):Int)=(u:Int)+1:=by omega
      rw [eu] at HSN
      clear hX4 hS4 hw4 hX5
      go_wp2_with fail
      refine HSN.mono ?_;rintro e w3 ⟨rfl,hb3⟩
      go_wp2_with fail
      go_roundw
      case rel=>exact ⟨u+1,X4,g5,g6,by omega,by rw [eu],HX5.out.reads hb3⟩
      case measure=>
       rw [eu] at p3
       simp only [intOf]
       omega
   ·
    have HF:Hid (Ctx w wr w.heap.size X2 L M (So.upto M.toM d T)):=by unfold Hid;rw [p2 T hle (by omega)];exact hX2
    clear hX2 p2
    go_wp2
    go_ret
    exact ⟨X2,by rw [g1];first | rfl | trivial,g2,HF.out⟩
set_option maxHeartbeats 1600000 in
theorem rTrace_good (L:RLoc)(M:RDat)(d:Nat)(w:World)(h:RefM w L M)(hc:CfgAt w M.c M.s)(hd:d<L.nd) :
  Calls Tryz.prog 44 #[.pointer (some ⟨L.gr,0,none⟩),.int .i64 d] w fun e w'=>∃ X,e = .returned (.tuple #[.slice (SLoc.ea X) X.el X.ec,.int .i64 0])∧X.d=d∧Ctx w w' w.heap.size X L M (So.upto M.toM d M.T.toNat):=by
 have hP:=rplayed_any L M d w h hc hd
 have m1:w.cell? ⟨L.gr,1,none⟩=some (.int .i64 M.c.domains):=by rw [h.row.cell];rfl
 have hdd:(d:Int)<M.c.domains:=by have:=h.nd;omega
 have d0:(0:Int)≤(d:Int):=by omega
 clear h hc
 go_enter Tryz.func44,Tryz.ntmps44
 go_wp2_with fail
 refine hP.mono ?_
 rintro e w1 ⟨X,rfl,hX,hC⟩
 have c3:w1.cell? ⟨X.gs,3,none⟩=some (.slice X.ea X.el X.ec):=by rw [hC.solo.row.cell];rfl
 have HC:Hid _:=hC
 have HX:Hid _:=hX
 clear hC hX m1 hP
 go_wp2
 go_ret2
 exact ⟨X,rfl,HX.out,HC.out⟩
set_option maxHeartbeats 1600000 in
theorem rTrace_bad (L:RLoc)(M:RDat)(d:Int)(w:World)(h:RefM w L M)(hd:d<0∨M.c.domains≤d) :
  Calls Tryz.prog 44 #[.pointer (some ⟨L.gr,0,none⟩),.int .i64 d] w fun e w'=>e = .returned (.tuple #[.slice none 0 0,.int .i64 6])∧w'=w:=by
 have m1:w.cell? ⟨L.gr,1,none⟩=some (.int .i64 M.c.domains):=by rw [h.row.cell];rfl
 have cases:d<0∨(0≤d∧M.c.domains≤d):=by omega
 clear h hd
 rcases cases with b1|⟨b1,b2⟩
 all_goals
  go_enter Tryz.func44,Tryz.ntmps44
  go_wp2
  go_ret2
  exact ⟨rfl,rfl⟩
end Go.Proofs.YtehheaedbnfidaaGreat
