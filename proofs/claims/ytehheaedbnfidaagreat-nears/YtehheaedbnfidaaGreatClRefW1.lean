import Derived.Test.YtehheaedbnfidaaGreatClWOpen
set_option maxRecDepth 100000
namespace Go.Proofs.YtehheaedbnfidaaGreat
open Go.RowKit
set_option maxHeartbeats 6400000 in
theorem rworks_idle (w0:World)(base B:Nat)(X:SLoc)(L:RLoc)(M:RDat)(S:So)(k:Nat)(t:Int)(w:World)(h:Ctx w0 w base X L M S)(hs:SoOk M.toM X.d S B)(hk:k<M.c.cores.toNat)(t0:0≤t)(t1:t≤10000)
  (hi:(S.how.getD k 0≠0∧(S.how.getD k 0≠2∨t≠S.began.getD k 0+2))∨(S.how.getD k 0=0∧(t<S.free.getD k 0∨((progF M.toM X.d k).length:Int)≤S.next.getD k 0∨openB M.c k X.d t=false))) :
  Calls Tryz.prog 95 #[.pointer (some ⟨X.gs,0,none⟩),.int .i64 k,.int .i64 t] w fun e w'=>e = .returned (.tuple #[])∧Ctx w0 w' base X L M S:=by
 have R:=right_of h.ok
 have hkc:(k:Int)<M.c.cores:=by have:=R.c1;omega
 obtain ⟨pa,hpl,hp64,hpc⟩:=h.prog hk
 have HP:=rprogD_any X L M k (.slice pa (progF M.toM X.d k).length (progF M.toM X.d k).length) w h.solo.row h.ref h.gr h.d hkc hpl
 have hz:=h.reads (w':=w.drew) ((Below.refl _ _).drew)
 have hkn:k<X.n:=by rw [h.n];exact hk
 have n3:X.n≤3:=by rw [h.n];have:=R.c2;omega
 have hn0:=hs.nx k hk
 have hw0:=hs.hw k hk
 have hf0:=hs.fr k hk
 have hb0:=hs.bg k hk
 have r0:w.drew.cell? ⟨X.gs,0,none⟩=some (.pointer (some ⟨L.gr,0,none⟩)):=by rw [hz.solo.row.cell,← h.gr];rfl
 have r1:w.drew.cell? ⟨X.gs,1,none⟩=some (.int .i64 X.d):=by rw [hz.solo.row.cell];rfl
 have r4:w.drew.cell? ⟨X.gs,4,none⟩=some (.slice (some ⟨X.gn,0,none⟩) X.n X.n):=by rw [hz.solo.row.cell];rfl
 have r5:w.drew.cell? ⟨X.gs,5,none⟩=some (.slice (some ⟨X.gf,0,none⟩) X.n X.n):=by rw [hz.solo.row.cell];rfl
 have r6:w.drew.cell? ⟨X.gs,6,none⟩=some (.slice (some ⟨X.gb,0,none⟩) X.n X.n):=by rw [hz.solo.row.cell];rfl
 have r7:w.drew.cell? ⟨X.gs,7,none⟩=some (.slice (some ⟨X.gh,0,none⟩) X.n X.n):=by rw [hz.solo.row.cell];rfl
 have e4:=row_int hz.solo.nx (k:=k) (by rw [hz.solo.nl];exact hkn)
 have e5:=row_int hz.solo.fx (k:=k) (by rw [hz.solo.fl];exact hkn)
 have e6:=row_int hz.solo.bx (k:=k) (by rw [hz.solo.bl];exact hkn)
 have e7:=row_int hz.solo.hx (k:=k) (by rw [hz.solo.hl];exact hkn)
 have mr:=row_q hz.ref.row
 have lr:=hz.ref.row.lt
 have lg:=hz.solo.row.lt
 have HOP:=ropen_any M.c M.s k X.d t
 have HCF:Hid (∀ W,Below w.heap.size w W→CfgAt W M.c M.s):=fun W hW=>(h.reads hW).cfg
 have HRX:Hid (∀ W,Below w.heap.size w W→Ctx w0 W base X L M S):=fun W hW=>h.reads hW
 have HR:Hid _:=R
 have HPL:Hid _:=hp64
 have HC7:Hid (∀ W,Below w.heap.size w W→W.cell? ⟨X.gs,7,none⟩=some (.slice (some ⟨X.gh,0,none⟩) X.n X.n)∧W.cell? ⟨X.gh,k,none⟩=some (.int .i64 (S.how.getD k 0))∧W.cell? ⟨X.gs,5,none⟩=some (.slice (some ⟨X.gf,0,none⟩) X.n X.n)∧W.cell? ⟨X.gf,k,none⟩=some (.int .i64 (S.free.getD k 0))∧W.cell? ⟨X.gs,4,none⟩=some (.slice (some ⟨X.gn,0,none⟩) X.n X.n)∧W.cell? ⟨X.gn,k,none⟩=some (.int .i64 (S.next.getD k 0))):=fun W hW=>by
  have q:=(h.reads hW).solo
  exact ⟨by rw [q.row.cell];rfl,row_int q.hx (by rw [q.hl];exact hkn),by rw [q.row.cell];rfl,row_int q.fx (by rw [q.fl];exact hkn),by rw [q.row.cell];rfl,row_int q.nx (by rw [q.nl];exact hkn)⟩
 generalize S.how.getD k 0=hv at *
 generalize S.began.getD k 0=bv at *
 generalize S.free.getD k 0=fv at *
 generalize S.next.getD k 0=nv at *
 generalize (progF M.toM X.d k).length=pl at *
 have hb1:IntKind.i64.wrap (bv+3)=bv+3:=by rw [IntKind.wrap_i64];omega
 have hb2:IntKind.i64.wrap (bv+3-1)=bv+2:=by rw [IntKind.wrap_i64];omega
 clear h hs hz hpl hpc R
 have cs:(hv=1∨(hv=2∧t≠bv+2))∨(hv=0∧t<fv)∨(hv=0∧¬t<fv∧(pl:Int)≤nv)∨(hv=0∧¬t<fv∧¬(pl:Int)≤nv∧openB M.c k X.d t=false):=by
  rcases hi with ⟨q1,q2⟩|⟨q1,q2⟩
  ·
   left
   rcases hw0 with q|⟨q|q,_⟩
   · exact absurd q q1
   · exact Or.inl q
   · exact Or.inr ⟨q,by omega⟩
  ·
   right
   by_cases a1:t<fv
   · exact Or.inl ⟨q1,a1⟩
   ·
    right
    by_cases a2:(pl:Int)≤nv
    · exact Or.inl ⟨q1,a1,a2⟩
    ·
     exact Or.inr ⟨q1,a1,a2,by
      rcases q2 with q|q|q
      · exact absurd q a1
      · exact absurd q a2
      · exact q⟩
 clear hi hw0
 rcases cs with (q1|⟨q1,q2⟩)|⟨q1,q2⟩|⟨q1,q2,q3⟩|⟨q1,q2,q3,q4⟩
 ·
  subst q1
  go_enter Tryz.func95,Tryz.ntmps95
  go_wp2_with fail
  refine HP.mono ?_;rintro e w1 ⟨rfl,rfl⟩
  clear HP
  go_wp2_with fail
  go_region_with (go_at_call 81;refine (HOP _ (HCF.out _ (((Below.refl _ _).drew).drew)) HR.out hkc t0 (by omega)).mono ?_;rintro e w2 ⟨rfl,hb3⟩)
  all_goals
   have hbw:Below w.heap.size w w2:=below_step (((Below.refl _ _).drew).drew) hb3 rfl
   obtain ⟨u7,v7,u5,v5,u4,v4⟩:=HC7.out w2 hbw
   have HF:Hid (Ctx w0 w2 base X L M S):=HRX.out w2 hbw
   clear r0 r1 r4 r5 r6 r7 e4 e5 e6 e7 mr hb3 hbw
   generalize openB M.c k X.d t=ob at *
   go_wp2_with fail
   exact bodyPost_ret (results_none rfl _ _ _) rfl ⟨rfl,HF.out⟩
 ·
  subst q1
  have q2':(t==bv+2)=false:=by simpa using q2
  go_enter Tryz.func95,Tryz.ntmps95
  go_wp2_with fail
  refine HP.mono ?_;rintro e w1 ⟨rfl,rfl⟩
  clear HP
  go_wp2_with fail
  go_region_with (go_at_call 81;refine (HOP _ (HCF.out _ (((Below.refl _ _).drew).drew)) HR.out hkc t0 (by omega)).mono ?_;rintro e w2 ⟨rfl,hb3⟩)
  all_goals
   have hbw:Below w.heap.size w w2:=below_step (((Below.refl _ _).drew).drew) hb3 rfl
   obtain ⟨u7,v7,u5,v5,u4,v4⟩:=HC7.out w2 hbw
   have HF:Hid (Ctx w0 w2 base X L M S):=HRX.out w2 hbw
   clear r0 r1 r4 r5 r6 r7 e4 e5 e6 e7 mr hb3 hbw
   generalize openB M.c k X.d t=ob at *
   go_wp2_with fail
   exact bodyPost_ret (results_none rfl _ _ _) rfl ⟨rfl,HF.out⟩
 ·
  subst q1
  go_enter Tryz.func95,Tryz.ntmps95
  go_wp2_with fail
  refine HP.mono ?_;rintro e w1 ⟨rfl,rfl⟩
  clear HP
  go_wp2_with fail
  go_region_with (go_at_call 81;refine (HOP _ (HCF.out _ (((Below.refl _ _).drew).drew)) HR.out hkc t0 (by omega)).mono ?_;rintro e w2 ⟨rfl,hb3⟩)
  all_goals
   have hbw:Below w.heap.size w w2:=below_step (((Below.refl _ _).drew).drew) hb3 rfl
   obtain ⟨u7,v7,u5,v5,u4,v4⟩:=HC7.out w2 hbw
   have HF:Hid (Ctx w0 w2 base X L M S):=HRX.out w2 hbw
   clear r0 r1 r4 r5 r6 r7 e4 e5 e6 e7 mr hb3 hbw
   generalize openB M.c k X.d t=ob at *
   go_wp2_with fail
   exact bodyPost_ret (results_none rfl _ _ _) rfl ⟨rfl,HF.out⟩
 ·
  subst q1
  go_enter Tryz.func95,Tryz.ntmps95
  go_wp2_with fail
  refine HP.mono ?_;rintro e w1 ⟨rfl,rfl⟩
  clear HP
  go_wp2_with fail
  go_region_with (go_at_call 81;refine (HOP _ (HCF.out _ (((Below.refl _ _).drew).drew)) HR.out hkc t0 (by omega)).mono ?_;rintro e w2 ⟨rfl,hb3⟩)
  all_goals
   have hbw:Below w.heap.size w w2:=below_step (((Below.refl _ _).drew).drew) hb3 rfl
   obtain ⟨u7,v7,u5,v5,u4,v4⟩:=HC7.out w2 hbw
   have HF:Hid (Ctx w0 w2 base X L M S):=HRX.out w2 hbw
   clear r0 r1 r4 r5 r6 r7 e4 e5 e6 e7 mr hb3 hbw
   generalize openB M.c k X.d t=ob at *
   go_wp2_with fail
   exact bodyPost_ret (results_none rfl _ _ _) rfl ⟨rfl,HF.out⟩
 ·
  subst q1
  rw [q4] at HOP
  go_enter Tryz.func95,Tryz.ntmps95
  go_wp2_with fail
  refine HP.mono ?_;rintro e w1 ⟨rfl,rfl⟩
  clear HP
  go_wp2_with fail
  go_region_with (go_at_call 81;refine (HOP _ (HCF.out _ (((Below.refl _ _).drew).drew)) HR.out hkc t0 (by omega)).mono ?_;rintro e w2 ⟨rfl,hb3⟩)
  all_goals
   have hbw:Below w.heap.size w w2:=below_step (((Below.refl _ _).drew).drew) hb3 rfl
   obtain ⟨u7,v7,u5,v5,u4,v4⟩:=HC7.out w2 hbw
   have HF:Hid (Ctx w0 w2 base X L M S):=HRX.out w2 hbw
   clear r0 r1 r4 r5 r6 r7 e4 e5 e6 e7 mr hb3 hbw
   go_wp2_with fail
   exact bodyPost_ret (results_none rfl _ _ _) rfl ⟨rfl,HF.out⟩
end Go.Proofs.YtehheaedbnfidaaGreat
