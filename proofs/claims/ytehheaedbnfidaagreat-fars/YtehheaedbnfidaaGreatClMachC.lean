import Derived.Test.YtehheaedbnfidaaGreatClWOpenC
set_option maxRecDepth 100000
namespace Go.Proofs.YtehheaedbnfidaaGreat
open Go.RowKit
set_option maxHeartbeats 1600000 in
theorem fLayNo_any (ns wn:Nat)(X:FLoc)(blk:Nat→Nat→Bk)(tch:Nat→List Int)(g o x q:Nat)(way:Int)(b:Bk)(w:World)(h:FarM w ns wn X blk tch)(hp:w.cell? ⟨g,o,none⟩=some (.slice (some ⟨X.r,0,none⟩) ns X.rc))(hx:x≤1000000)(hq:Hid (q=x%ns))(hj:way<0) :
  Calls Tryz.prog 164 #[.pointer (some ⟨g,o,none⟩),.int .i64 x,.int .i64 way,.agg (bkA b)] w fun e w'=>e = .returned (.tuple #[])∧Below w.heap.size w w':=by
 have hqs:q<ns:=by rw [hq.out];exact Nat.mod_lt _ h.n0
 obtain ⟨e1,e2⟩:=h.setAt hqs
 have n1:=h.n1
 have lg:g<w.heap.size:=cell_lt hp
 have l1:=h.row.lt
 have bs:=fun o2=>fsetOf_any ns X g o x q (w.alloc o2) ((Below.cell ((Below.refl w.heap.size w).alloc (Nat.le_refl _) o2) (p:=⟨g,o,none⟩) lg).trans hp) h.n0 h.n1 hx hq
 go_enter Tryz.func164,Tryz.ntmps164
 go_wp2_with (go_at_call 158;refine (bs _).mono ?_;rintro e w' ⟨rfl,rfl⟩)
 refine bodyPost_ret (results_none rfl _ _ _) rfl ?_
 exact ⟨rfl,(Below.refl _ _).alloc (Nat.le_refl _) _⟩
theorem first_lt (p:Nat→Bool):∀ (n j:Nat),firstW p n j<(n:Int)+j∧(firstW p n j=-1∨((j:Int)≤firstW p n j∧p (firstW p n j).toNat=true))
 | 0,j=>⟨by simp [firstW];omega,Or.inl rfl⟩
 | n+1,j=>by
  unfold firstW
  by_cases h:p j=true
  ·
   rw [if_pos h]
   exact ⟨by omega,Or.inr ⟨Int.le_refl _,by rw [Int.toNat_natCast];exact h⟩⟩
  ·
   rw [if_neg h]
   have:=first_lt p n (j+1)
   exact ⟨by omega,this.2.imp id fun h=>⟨by omega,h.2⟩⟩
theorem way_lt (b:Nat→Bk)(n:Nat)(x:Int):wayF b n x<n∧-1≤wayF b n x:=by
 have h:=first_lt (fun j=>decide ((b j).line=x)) n 0
 unfold wayF
 rcases h.2 with e|e <;> omega
structure At (w:World)(N:Cn)(X:XLoc)(m:Mh)(d:Nat):Prop where
 c2:w.cell? ⟨X.g,2,none⟩=some (.int .i64 N.ln)
 c18:w.cell? ⟨X.g,18,none⟩=some (.slice (some ⟨X.dm,0,none⟩) N.nd X.dc)
 d1:w.cell? ⟨X.dm,d*4+1,none⟩=some (.slice (some ⟨(X.f d).r,0,none⟩) N.ns (X.f d).rc)
 lg:X.g<w.heap.size
 ld:X.dm<w.heap.size
theorem MachM.atD {w:World}{N:Cn}{X:XLoc}{m:Mh}(h:MachM w N X m){d:Nat}(hd:d<N.nd):At w N X m d:=by
 obtain ⟨n1,n2,n3,n4,n5,_⟩:=h.nums
 refine ⟨by rw [h.row.cell,n5];rfl,by rw [h.row.cell];rfl,(dom_at h hd).2.1,h.row.lt,h.dom.lt⟩
set_option maxHeartbeats 6400000 in
theorem kperform_any (N:Cn)(X:XLoc)(m:Mh)(d:Nat)(o:OpT)(x:Nat)(w:World)(h:MachM w N X m)(hd:d<N.nd)(h0:0≤o.2.1)(h1:o.2.1≤1000)(hx:Hid (x=(o.2.1 / (N.ln:Int)).toNat)) :
  Calls Tryz.prog 154 #[.pointer (some ⟨X.g,0,none⟩),.int .i64 d,.agg (opArr o)] w fun e w'=>e = .returned (.int .i64 (m.valueOf N d o))∧MachM w' N X (m.perform N d o)∧Goes w w' X X:=by
 obtain ⟨n1,n2,n3,n4,n5,n6,n7,n8,n9,n10,n11,n12,n13,n14,n15⟩:=h.nums
 have hl:=kline_any N X m o x
 have HR0:Row (w.alloc (.cells (opArr o) 69)) w.heap.size (opL o) 69:=heap_alloc_new w _
 have hb0:Below w.heap.size w (w.alloc (.cells (opArr o) 69)):=(Below.refl _ _).alloc (Nat.le_refl _) _
 have hl1:=hl _ (h.below hb0 (Nat.le_refl _)) h0 h1 hx
 have sz0:w.heap.size<(w.alloc (.cells (opArr o) 69)).heap.size:=by simp
 -- the line,the place
 obtain ⟨q,hq⟩:∃ q,q=x%N.ns:=⟨_,rfl⟩
 have HQ:Hid _:=hq
 have hqs:q<N.ns:=by rw [hq];exact Nat.mod_lt _ (h.far d hd).n0
 have q0:0≤o.2.1 / (N.ln:Int):=Int.ediv_nonneg h0 (by omega)
 have q1:o.2.1 / (N.ln:Int)≤o.2.1:=Int.ediv_le_self _ h0
 have hxI:(x:Int)=o.2.1 / (N.ln:Int):=by have:=hx.out;omega
 have hx1:x≤1000:=by omega
 have hmod:=Int.mul_ediv_add_emod o.2.1 (N.ln:Int)
 have m1:0≤o.2.1%(N.ln:Int):=Int.emod_nonneg _ (by omega)
 have m2:o.2.1%(N.ln:Int)<(N.ln:Int):=Int.emod_lt_of_pos _ (by omega)
 obtain ⟨y,hy⟩:∃ y,x*N.ln=y:=⟨_,rfl⟩
 have hyI:(x:Int)*(N.ln:Int)=(y:Int):=by rw [← hy];simp
 have hyle:(y:Int)≤o.2.1∧o.2.1-(y:Int)<4:=by
  rw [← hyI,hxI,Int.mul_comm]
  omega
 obtain ⟨p,hp⟩:∃ p:Nat,(p:Int)=o.2.1-(y:Int):=⟨(o.2.1-(y:Int)).toNat,by omega⟩
 have hp4:p<4:=by omega
 have HPL:Hid (o.2.1.toNat-x*N.ln=p):=by unfold Hid;rw [hy];omega
 have e1:o.2.1-(y:Int)=(p:Int):=hp.symm
 have wy:IntKind.i64.wrap ((x:Int)*(N.ln:Int))=(y:Int):=by rw [hyI,IntKind.wrap_i64];omega
 have wy2:IntKind.i64.wrap (y:Int)=(y:Int):=by rw [IntKind.wrap_i64];omega
 have wp:IntKind.i64.wrap (o.2.1-(y:Int))=(p:Int):=by rw [e1,IntKind.wrap_i64];omega
 have wp2:IntKind.i64.wrap (p:Int)=(p:Int):=by rw [IntKind.wrap_i64];omega
 -- what comes out
 obtain ⟨way,hway⟩:∃ way,wayF (m.blk d q) (N.wn d) x=way:=⟨_,rfl⟩
 have hwl:=way_lt (m.blk d q) (N.wn d) x
 rw [hway] at hwl
 have HWAY:Hid _:=hway
 have HV:Hid (m.valueOf N d o=if o.1=0 then (if way<0 then 0 else (m.blk d q way.toNat).wd p) else o.2.2):=by
  unfold Hid Mh.valueOf
  rw [← hx.out]
  dsimp only
  rw [← hq,hway,HPL.out]
 have HP:Hid (m.perform N d o=if way<0∨o.1=0 then m else { m with blk:=up3 m.blk d q way.toNat ⟨(m.blk d q way.toNat).line,true,up1 (m.blk d q way.toNat).wd p o.2.2⟩ }):=by
  unfold Hid Mh.perform
  rw [← hx.out]
  dsimp only
  rw [← hq,hway,HPL.out]
 obtain ⟨ok,oa,ov⟩:=o
 dsimp only at *
 have HM:Hid _:=h
 have HLB:Hid _:=h.labs
 clear h hl hq hmod hy hp hway hyle m1 m2 q0 q1 hxI n1 n2 n3 n4 n5 n6 n7
 go_enter Tryz.func154,Tryz.ntmps154
 go_wp2_with fail
 refine hl1.mono ?_;rintro e w1 ⟨rfl,hb1⟩
 have hb2:Below w.heap.size w (w1):=below_step hb0 hb1 rfl
 have R1:Row w1 w.heap.size (opL (ok,oa,ov)) 69:=Row.below HR0 hb1 sz0
 clear hl1 hb0 hb1 HR0 sz0
 have M1:=HM.out.below hb2 (Nat.le_refl _)
 have A1:=M1.atD hd
 obtain ⟨a2,a18,ad1,alg,ald⟩:=A1
 have b0:w1.cell? ⟨w.heap.size,0,none⟩=some (.int .i64 ok):=R1.cell 0
 have b1:w1.cell? ⟨w.heap.size,1,none⟩=some (.int .i64 oa):=R1.cell 1
 have b2:w1.cell? ⟨w.heap.size,2,none⟩=some (.int .i64 ov):=R1.cell 2
 have lb:=R1.lt
 go_wp2_with fail
 go_quiet (fail)
 have hb3:Below w.heap.size w (w1.drewN nq):=Go.below_drewN hb2 _
 have M2:MachM (w1.drewN nq) N X m:=HM.out.below hb3 (Nat.le_refl _)
 have R2:Row (w1.drewN nq) w.heap.size (opL (ok,oa,ov)) 69:=R1
 clear M1 R1 hb2 a2 a18 ad1 alg ald b0 b1 b2 lb
 generalize w1.drewN nq=w2 at *
 obtain ⟨a2,a18,ad1,alg,ald⟩:=M2.atD hd
 have b0:w2.cell? ⟨w.heap.size,0,none⟩=some (.int .i64 ok):=R2.cell 0
 have b1:w2.cell? ⟨w.heap.size,1,none⟩=some (.int .i64 oa):=R2.cell 1
 have b2:w2.cell? ⟨w.heap.size,2,none⟩=some (.int .i64 ov):=R2.cell 2
 have lb:=R2.lt
 have hF:=fFind_any N.ns (N.wn d) (X.f d) (m.blk d) (m.tch d) X.dm (d*4+1) x q w2 (M2.far d hd) ad1 (by omega) HQ
 rw [HWAY.out] at hF
 have hA:=fAt_any N.ns (N.wn d) (X.f d) (m.blk d) (m.tch d) X.dm (d*4+1) x q way w2 (M2.far d hd) ad1 (by omega) HQ hwl.1
 go_wp2_with (go_at_call 150;refine hF.mono ?_;rintro e w' ⟨rfl,rfl⟩)
 refine hA.mono ?_;rintro e w3 ⟨rfl,hb4⟩
 clear hF hA
 have hb5:=below_step hb3 hb4 rfl
 have M3:=HM.out.below hb5 (Nat.le_refl _)
 have R3:=R2.below hb4 lb
 have HFA:Hid (∀ A:Obj,FarM (w3.alloc A).drew N.ns (N.wn d) (X.f d) (m.blk d) (m.tch d)∧(w3.alloc A).drew.cell? ⟨X.dm,d*4+1,none⟩=some (.slice (some ⟨(X.f d).r,0,none⟩) N.ns (X.f d).rc)∧MachM (w3.alloc A).drew N X m∧Below w.heap.size w (w3.alloc A).drew):=fun A=>by
  have hb:Below w3.heap.size w3 (w3.alloc A).drew:=((Below.refl _ _).alloc (Nat.le_refl _) _).drew
  have M4:=M3.below hb (Nat.le_refl _)
  exact ⟨M4.far d hd,(dom_at M4 hd).2.1,M4,hb5.trans (hb.mono hb5.size)⟩
 have HG:Hid (Goes w w3 X X):=Goes.of_below hb5
 obtain ⟨bb,hbb⟩:∃ bb,atB (m.blk d q) way=bb:=⟨_,rfl⟩
 have HBB:Hid _:=hbb
 rw [hbb]
 have HI:Hid (∀ k,(X.f d).ints N.ns k→k≠(X.f d).b q):=fun k hk e=>by
  have h1:=HM.out.labs.fi d hd k hk
  have h2:=HM.out.labs.fo d hd k (Or.inr ⟨q,hqs,e⟩)
  rw [h1] at h2
  simp at h2
 clear hbb a2 a18 ad1 alg ald b0 b1 b2
 obtain ⟨a2,a18,ad1,alg,ald⟩:=M3.atD hd
 have b0:w3.cell? ⟨w.heap.size,0,none⟩=some (.int .i64 ok):=R3.cell 0
 have b1:w3.cell? ⟨w.heap.size,1,none⟩=some (.int .i64 oa):=R3.cell 1
 have b2:w3.cell? ⟨w.heap.size,2,none⟩=some (.int .i64 ov):=R3.cell 2
 have lb3:=R3.lt
 have hb5s:=hb5.size
 obtain ⟨lB,mB,fB⟩:=bb
 have hcase:p=0∨p=1∨p=2∨p=3:=by omega
 clear M2 R2 M3 R3 hb3 hb4 lb HM e1 wy wy2 wp wp2 hyI
 by_cases a1:ok=0
 ·
  have a1b:(ok==0)=true:=by simp [a1]
  have HV2:Hid (m.valueOf N d (ok,oa,ov)=fB p):=by
   unfold Hid
   rw [HV.out,if_pos a1]
   have:=HBB.out
   unfold atB at this
   by_cases c:way<0
   ·
    rw [if_pos c] at this ⊢
    have:fB=fun _=>0:=by have:=congrArg Bk.wd this;exact this.symm
    rw [this]
   ·
    rw [if_neg c] at this ⊢
    rw [this]
  have HP2:Hid (m.perform N d (ok,oa,ov)=m):=by unfold Hid;rw [HP.out,if_pos (Or.inr a1)]
  have HE:Hid (∀ A:Obj,MachM (w3.alloc A) N X (m.perform N d (ok,oa,ov))∧Goes w (w3.alloc A) X X):=fun A=>by
   have h1:=HFA.out A
   rw [HP2.out]
   have hb:Below w3.heap.size w3 (w3.alloc A):=(Below.refl _ _).alloc (Nat.le_refl _) _
   exact ⟨h1.2.2.1.below (w':=w3.alloc A) (n:=(w3.alloc A).drew.heap.size) ⟨rfl,rfl,rfl,Nat.le_refl _,fun _ _=>rfl⟩ (Nat.le_refl _),HG.out.trans (Goes.of_below hb)⟩
  clear a1
  rcases hcase with e|e|e|e <;> subst e
  all_goals go_wp2
  all_goals go_ret
  all_goals exact ⟨ret_int HV2.out.symm,(HE.out _).1,(HE.out _).2⟩
 ·
  have a1b:(ok==0)=false:=by simp [a1]
  have HV2:Hid (m.valueOf N d (ok,oa,ov)=ov):=by unfold Hid;rw [HV.out,if_neg a1]
  by_cases c:way<0
  ·
   have HP2:Hid (m.perform N d (ok,oa,ov)=m):=by unfold Hid;rw [HP.out,if_pos (Or.inl c)]
   have hL:∀ (b:Bk) (A:Obj),Calls Tryz.prog 164 #[.pointer (some ⟨X.dm,d*4+1,none⟩),.int .i64 x,.int .i64 way,.agg (bkA b)] (w3.alloc A).drew fun e w'=>e = .returned (.tuple #[])∧Below (w3.alloc A).drew.heap.size (w3.alloc A).drew w':=fun b A=>
    fLayNo_any N.ns (N.wn d) (X.f d) (m.blk d) (m.tch d) X.dm (d*4+1) x q way b _ (HFA.out A).1 (HFA.out A).2.1 (by omega) HQ c
   have HE:Hid (∀ (A:Obj) (w':World),Below (w3.alloc A).drew.heap.size (w3.alloc A).drew w'→MachM w' N X (m.perform N d (ok,oa,ov))∧Goes w w' X X∧w'.cell? ⟨w.heap.size,2,none⟩=some (.int .i64 ov)):=fun A w' hb=>by
    have h1:=HFA.out A
    rw [HP2.out]
    refine ⟨h1.2.2.1.below hb (Nat.le_refl _),(Goes.of_below h1.2.2.2).trans (Goes.of_below hb),?_⟩
    rw [hb.cell (p:=⟨w.heap.size,2,none⟩) (by show w.heap.size<(w3.alloc A).drew.heap.size;have:(w3.alloc A).drew.heap.size=w3.heap.size+1:=(by simp [World.drew]);omega)]
    have hb2:Below w3.heap.size w3 (w3.alloc A).drew:=((Below.refl _ _).alloc (Nat.le_refl _) _).drew
    rw [hb2.cell (p:=⟨w.heap.size,2,none⟩) lb3]
    exact b2
   clear HP
   rcases hcase with e|e|e|e <;> subst e
   ·
    go_wp2_with fail
    go_region_with (go_at_call 164;refine (hL ⟨lB,true,up1 fB 0 ov⟩ _).mono ?_;rintro e w4 ⟨rfl,hb6⟩;have hE:=HE.out _ _ hb6;have c4:=hE.2.2)
    all_goals go_wp2
    all_goals go_ret
    all_goals exact ⟨ret_int HV2.out.symm,hE.1,hE.2.1⟩
   ·
    go_wp2_with fail
    go_region_with (go_at_call 164;refine (hL ⟨lB,true,up1 fB 1 ov⟩ _).mono ?_;rintro e w4 ⟨rfl,hb6⟩;have hE:=HE.out _ _ hb6;have c4:=hE.2.2)
    all_goals go_wp2
    all_goals go_ret
    all_goals exact ⟨ret_int HV2.out.symm,hE.1,hE.2.1⟩
   ·
    go_wp2_with fail
    go_region_with (go_at_call 164;refine (hL ⟨lB,true,up1 fB 2 ov⟩ _).mono ?_;rintro e w4 ⟨rfl,hb6⟩;have hE:=HE.out _ _ hb6;have c4:=hE.2.2)
    all_goals go_wp2
    all_goals go_ret
    all_goals exact ⟨ret_int HV2.out.symm,hE.1,hE.2.1⟩
   ·
    go_wp2_with fail
    go_region_with (go_at_call 164;refine (hL ⟨lB,true,up1 fB 3 ov⟩ _).mono ?_;rintro e w4 ⟨rfl,hb6⟩;have hE:=HE.out _ _ hb6;have c4:=hE.2.2)
    all_goals go_wp2
    all_goals go_ret
    all_goals exact ⟨ret_int HV2.out.symm,hE.1,hE.2.1⟩
  ·
   obtain ⟨j,rfl⟩:=Int.eq_ofNat_of_zero_le (show 0≤way by omega)
   have hjw:j<N.wn d:=by omega
   have HBJ:Hid (m.blk d q j=⟨lB,mB,fB⟩):=by
    have:=HBB.out
    unfold atB at this
    rwa [if_neg c,Int.toNat_natCast] at this
   have HP2:Hid (m.perform N d (ok,oa,ov)={ m with blk:=up1 m.blk d (up2 (m.blk d) q j ⟨lB,true,up1 fB p ov⟩) }):=by
    unfold Hid
    rw [HP.out,if_neg (by omega),Int.toNat_natCast,HBJ.out]
    have:up3 m.blk d q j ⟨lB,true,up1 fB p ov⟩=up1 m.blk d (up2 (m.blk d) q j ⟨lB,true,up1 fB p ov⟩):=by
     funext a b2 c2
     unfold up3 up1 up2
     by_cases e1:a=d
     · subst e1;simp
     · simp [e1]
    rw [← this]
   have hL:∀ (b:Bk) (A:Obj),Calls Tryz.prog 164 #[.pointer (some ⟨X.dm,d*4+1,none⟩),.int .i64 x,.int .i64 j,.agg (bkA b)] (w3.alloc A).drew fun e w'=>e = .returned (.tuple #[])∧FarM w' N.ns (N.wn d) (X.f d) (up2 (m.blk d) q j b) (m.tch d)∧Touch ((X.f d).own N.ns) (w3.alloc A).drew w':=fun b A=>
    fLay_any N.ns (N.wn d) (X.f d) (m.blk d) (m.tch d) X.dm (d*4+1) x q j b _ (HFA.out A).1 HI.out (HFA.out A).2.1 (by omega) HQ hjw
   have HE:Hid (∀ (A:Obj) (w':World),FarM w' N.ns (N.wn d) (X.f d) (up2 (m.blk d) q j ⟨lB,true,up1 fB p ov⟩) (m.tch d)→Touch ((X.f d).own N.ns) (w3.alloc A).drew w'→MachM w' N X (m.perform N d (ok,oa,ov))∧Goes w w' X X∧w'.cell? ⟨w.heap.size,2,none⟩=some (.int .i64 ov)):=fun A w' hF hT=>by
    have h1:=HFA.out A
    rw [HP2.out]
    refine ⟨h1.2.2.1.setFar hd hF hT,(Goes.of_below h1.2.2.2).trans (Goes.of_touch hT (h1.2.2.1.labs.fo d hd)),?_⟩
    have hlt:w.heap.size<(w3.alloc A).drew.heap.size:=by
     have:(w3.alloc A).drew.heap.size=w3.heap.size+1:=by simp [World.drew]
     omega
    have hno:¬(X.f d).own N.ns w.heap.size:=fun ho=>by
     have h2:=HLB.out.fo d hd _ ho
     have:=HLB.out.lt _ (by rw [h2];simp)
     omega
    have hb2:Below w3.heap.size w3 (w3.alloc A).drew:=((Below.refl _ _).alloc (Nat.le_refl _) _).drew
    have e1:w'.cell? ⟨w.heap.size,2,none⟩=(w3.alloc A).drew.cell? ⟨w.heap.size,2,none⟩:=by simp only [World.cell?];rw [hT.block _ hlt hno]
    rw [e1,hb2.cell (p:=⟨w.heap.size,2,none⟩) lb3]
    exact b2
   clear HP
   rcases hcase with e|e|e|e <;> subst e
   ·
    go_wp2_with fail
    go_region_with (go_at_call 164;refine (hL ⟨lB,true,up1 fB 0 ov⟩ _).mono ?_;rintro e w4 ⟨rfl,hF6,hT6⟩;have hE:=HE.out _ _ hF6 hT6;have c4:=hE.2.2)
    all_goals go_wp2
    all_goals go_ret
    all_goals exact ⟨ret_int HV2.out.symm,hE.1,hE.2.1⟩
   ·
    go_wp2_with fail
    go_region_with (go_at_call 164;refine (hL ⟨lB,true,up1 fB 1 ov⟩ _).mono ?_;rintro e w4 ⟨rfl,hF6,hT6⟩;have hE:=HE.out _ _ hF6 hT6;have c4:=hE.2.2)
    all_goals go_wp2
    all_goals go_ret
    all_goals exact ⟨ret_int HV2.out.symm,hE.1,hE.2.1⟩
   ·
    go_wp2_with fail
    go_region_with (go_at_call 164;refine (hL ⟨lB,true,up1 fB 2 ov⟩ _).mono ?_;rintro e w4 ⟨rfl,hF6,hT6⟩;have hE:=HE.out _ _ hF6 hT6;have c4:=hE.2.2)
    all_goals go_wp2
    all_goals go_ret
    all_goals exact ⟨ret_int HV2.out.symm,hE.1,hE.2.1⟩
   ·
    go_wp2_with fail
    go_region_with (go_at_call 164;refine (hL ⟨lB,true,up1 fB 3 ov⟩ _).mono ?_;rintro e w4 ⟨rfl,hF6,hT6⟩;have hE:=HE.out _ _ hF6 hT6;have c4:=hE.2.2)
    all_goals go_wp2
    all_goals go_ret
    all_goals exact ⟨ret_int HV2.out.symm,hE.1,hE.2.1⟩
end Go.Proofs.YtehheaedbnfidaaGreat
