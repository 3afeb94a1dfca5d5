import Derived.Test.YtehheaedbnfidaaGreatClWRefM
set_option maxRecDepth 100000
namespace Go.Proofs.YtehheaedbnfidaaGreat
open Go.RowKit
set_option maxHeartbeats 6400000 in
theorem rstate_any (X:SLoc)(c:Cf)(sl:Sl)(L:RLoc)(T core x t:Int)(log:List Ent)(w:World)(h:SoR w X c sl L T)(hl:LogAt w X.la X.ll log)(hok:∀ e∈log,EntOk e)(x0:0≤x) :
  Calls Tryz.prog 87 #[.pointer (some ⟨X.gs,0,none⟩),.int .i64 core,.int .i64 x,.int .i64 t] w fun e w'=>e = .returned (.int .i64 (stateF c core x t false log))∧Below w.heap.size w w':=by
 have hm:=hl.hmax
 have c2:w.cell? ⟨X.gs,2,none⟩=some (.slice X.la X.ll X.lc):=by rw [h.row.cell];rfl
 have HL:Hid (log.length=X.ll):=hl.hlen
 obtain ⟨_,_,_,_,hnear,_,_⟩:=shape_bounds (chk_zero h.ok).1
 have y1:0<c.near:=by omega
 have y0:¬c.near=0:=by omega
 clear hnear
 go_enter Tryz.func87,Tryz.ntmps87
 go_wp2_with fail
 go_loopw [9,10] (fun lw i wr=>∃ (k:Nat) (lb:Bool),k≤X.ll∧lw = .bool lb∧i = .int .i64 ((k:Int)-1)∧stateF c core x t false log=stateF c core x t lb (log.drop (log.length-k))∧Below w.heap.size w wr) (fun _ i _=>(intOf i+1).toNat)
 case atStart=>exact ⟨X.ll,false,Nat.le_refl _,rfl,rfl,by rw [HL.out,Nat.sub_self,List.drop_zero],Below.refl _ _⟩
 case round=>
  obtain ⟨k,lb,hk,rfl,rfl,hf,hb⟩:=hrel
  have HF:Hid _:=hf
  clear hf
  by_cases hlt:0<k
  ·
   obtain ⟨k',rfl⟩:∃ k',k=k'+1:=⟨k-1,by omega⟩
   have e1:(((k'+1:Nat):Int)-1)=(k':Int):=by omega
   rw [e1]
   obtain ⟨b,hla,hlb,hcs⟩:=(hl.below hb (Nat.le_refl _)).hat k' (by omega)
   have HE:Hid _:=drop_rev log k' (by rw [HL.out];omega)
   have HO:EntOk (log.reverse.getD k' ent0):=hok _ (getD_mem_rev log k' (by rw [HL.out];omega))
   unfold ent0 at HE HO
   have cr2:=(h.below hb (Nat.le_refl _)).row.cell 2
   have z0:=hcs 0 (by omega)
   have z1:=hcs 1 (by omega)
   have z2:=hcs 2 (by omega)
   have z3:=hcs 3 (by omega)
   have z4:=hcs 4 (by omega)
   have z5:=hcs 5 (by omega)
   have z6:=hcs 6 (by omega)
   have z7:=hcs 7 (by omega)
   have z8:=hcs 8 (by omega)
   generalize log.reverse.getD k' ⟨0,0,0,0,0,false,false,0,0⟩=e at *
   obtain ⟨et,ewhat,ecore,eline,eway,est,elo,eaddr,eval⟩:=e
   simp only [List.getElem?_cons_zero,List.getElem?_cons_succ,Nat.add_zero] at z0 z1 z2 z3 z4 z5 z6 z7 z8 cr2
   rw [hla] at cr2
   have HLA:Hid _:=hla
   clear hla
   obtain ⟨l0,l1,t0,t1⟩:=HO
   dsimp only at l0 l1 t0 t1
   clear hcs e1
   have hbW:Below w.heap.size w (wr.alloc (.cells #[.int .i64 et,.int .i64 ewhat,.int .i64 ecore,.int .i64 eline,.int .i64 eway,.bool est,.bool elo,.int .i64 eaddr,.int .i64 eval] 132)):=hb.alloc hb.size _
   have rB:Row (wr.alloc (.cells #[.int .i64 et,.int .i64 ewhat,.int .i64 ecore,.int .i64 eline,.int .i64 eway,.bool est,.bool elo,.int .i64 eaddr,.int .i64 eval] 132)) wr.heap.size [.int .i64 et,.int .i64 ewhat,.int .i64 ecore,.int .i64 eline,.int .i64 eway,.bool est,.bool elo,.int .i64 eaddr,.int .i64 eval] 132:=heap_alloc_new wr _
   go_wp2_with fail
   refine (rflushed_any X c sl L T et t _ (h.below hbW (Nat.le_refl _)) t0 (by omega)).mono ?_;rintro e w1 ⟨rfl,hb1⟩
   have hbX:=below_step hbW hb1 rfl
   have rX:=rB.below hb1 rB.lt
   have hRX:=h.below hbX (Nat.le_refl _)
   have qX:=row_q rX
   have r0:w1.cell? ⟨X.gs,0,none⟩=some (.pointer (some ⟨X.gr,0,none⟩)):=by rw [hRX.row.cell];rfl
   have r5:w1.cell? ⟨X.gr,5,none⟩=some (.int .i64 c.near):=by rw [hRX.mrow.cell];rfl
   have d1:w1.cell? ⟨wr.heap.size,1,none⟩=some (.int .i64 ewhat):=by rw [rX.cell];rfl
   have d2:w1.cell? ⟨wr.heap.size,2,none⟩=some (.int .i64 ecore):=by rw [rX.cell];rfl
   have d3:w1.cell? ⟨wr.heap.size,3,none⟩=some (.int .i64 eline):=by rw [rX.cell];rfl
   have d5:w1.cell? ⟨wr.heap.size,5,none⟩=some (.bool est):=by rw [rX.cell];rfl
   have d6:w1.cell? ⟨wr.heap.size,6,none⟩=some (.bool elo):=by rw [rX.cell];rfl
   clear qX z0 z1 z2 z3 z4 z5 z6 z7 z8 cr2
   rcases Bool.eq_false_or_eq_true (flushedB c et t) with a0|a0
   ·
    rw [a0]
    go_wp2
    go_ret
    exact ⟨ret_int (by rw [HF.out,HE.out];simp [stateF,a0]),hbX⟩
   rw [a0]
   have HC:Hid (stateF c core x t lb (⟨et,ewhat,ecore,eline,eway,est,elo,eaddr,eval⟩::log.drop (log.length-k'))=if (ewhat==2&&eline==x)=true then 0 else if (ewhat==3&&ecore==core&&eline != x&&(eline%c.near==x%c.near))=true then 0 else if (ewhat==3&&ecore != core&&eline==x&&est)=true then 0 else if (ewhat==3&&ecore != core&&eline==x)=true then stateF c core x t true (log.drop (log.length-k')) else if (ewhat==4&&ecore==core&&eline==x&&!lb)=true then 3 else if (ewhat==3&&ecore==core&&eline==x&&elo&&!lb)=true then 2 else if ((ewhat==3 || ewhat==4)&&ecore==core&&eline==x)=true then 1 else stateF c core x t lb (log.drop (log.length-k'))):=by unfold Hid;rw [stateF,a0];simp only [Bool.false_eq_true,if_false]
   clear a0
   rcases Bool.eq_false_or_eq_true (eline==x) with a1|a1
   ·
    have a1':(eline != x)=false:=by rw [bne,a1];rfl
    by_cases w2:ewhat=2
    ·
     subst w2
     go_wp2_with fail
     go_ret
     exact ⟨ret_int (by rw [HF.out,HE.out,HC.out];simp [a1]),by first | exact hbX | exact below_drewN hbX _⟩
    by_cases w3:ewhat=3
    ·
     subst w3
     rcases Bool.eq_false_or_eq_true (ecore==core) with a2|a2
     ·
      have a2':(ecore != core)=false:=by rw [bne,a2];rfl
      cases elo <;> cases lb
      ·
       go_wp2_with fail
       go_quiet (fail)
       go_wp2
       go_ret
       exact ⟨ret_int (by rw [HF.out,HE.out,HC.out];simp [a1,a1',a2,a2']),by first | exact hbX | exact below_drewN hbX _⟩
      ·
       go_wp2_with fail
       go_quiet (fail)
       go_wp2
       go_ret
       exact ⟨ret_int (by rw [HF.out,HE.out,HC.out];simp [a1,a1',a2,a2']),by first | exact hbX | exact below_drewN hbX _⟩
      ·
       go_wp2_with fail
       go_quiet (fail)
       go_wp2
       go_ret
       exact ⟨ret_int (by rw [HF.out,HE.out,HC.out];simp [a1,a1',a2,a2']),by first | exact hbX | exact below_drewN hbX _⟩
      ·
       go_wp2_with fail
       go_quiet (fail)
       go_wp2
       go_ret
       exact ⟨ret_int (by rw [HF.out,HE.out,HC.out];simp [a1,a1',a2,a2']),by first | exact hbX | exact below_drewN hbX _⟩
     ·
      have a2':(ecore != core)=true:=by rw [bne,a2];rfl
      cases est
      ·
       go_wp2_with fail
       go_quiet (fail)
       go_wp2
       go_roundw
       case rel=>exact ⟨k',true,by omega,rfl,rfl,by rw [HF.out,HE.out,HC.out];simp [a1,a1',a2,a2'],by first | exact hbX | exact below_drewN hbX _⟩
       case measure=>simp [intOf]
      ·
       go_wp2_with fail
       go_quiet (fail)
       go_wp2
       go_ret
       exact ⟨ret_int (by rw [HF.out,HE.out,HC.out];simp [a1,a1',a2,a2']),by first | exact hbX | exact below_drewN hbX _⟩
    by_cases w4:ewhat=4
    ·
     subst w4
     rcases Bool.eq_false_or_eq_true (ecore==core) with a2|a2
     ·
      cases lb
      ·
       go_wp2_with fail
       go_quiet (fail)
       go_wp2
       go_ret
       exact ⟨ret_int (by rw [HF.out,HE.out,HC.out];simp [a1,a1',a2]),by first | exact hbX | exact below_drewN hbX _⟩
      ·
       go_wp2_with fail
       go_quiet (fail)
       go_wp2
       go_ret
       exact ⟨ret_int (by rw [HF.out,HE.out,HC.out];simp [a1,a1',a2]),by first | exact hbX | exact below_drewN hbX _⟩
     ·
      go_wp2_with fail
      go_quiet (fail)
      go_wp2
      go_roundw
      case rel=>exact ⟨k',lb,by omega,rfl,rfl,by rw [HF.out,HE.out,HC.out];simp [a1,a1',a2],by first | exact hbX | exact below_drewN hbX _⟩
      case measure=>simp [intOf]
    have b2:(ewhat==2)=false:=by simpa using w2
    have b3:(ewhat==3)=false:=by simpa using w3
    have b4:(ewhat==4)=false:=by simpa using w4
    clear w2 w3 w4
    go_wp2_with fail
    go_quiet (fail)
    go_wp2
    go_roundw
    case rel=>exact ⟨k',lb,by omega,rfl,rfl,by rw [HF.out,HE.out,HC.out];simp [b2,b3,b4],by first | exact hbX | exact below_drewN hbX _⟩
    case measure=>simp [intOf]
   ·
    have a1':(eline != x)=true:=by rw [bne,a1];rfl
    by_cases w3:ewhat=3
    ·
     subst w3
     rcases Bool.eq_false_or_eq_true (ecore==core) with a2|a2
     ·
      have a2':(ecore != core)=false:=by rw [bne,a2];rfl
      rcases Bool.eq_false_or_eq_true (eline%c.near==x%c.near) with a3|a3
      ·
       go_wp2_with fail
       go_quiet (fail)
       go_wp2
       go_ret
       exact ⟨ret_int (by rw [HF.out,HE.out,HC.out];simp [a1,a1',a2,a3]),by first | exact hbX | exact below_drewN hbX _⟩
      ·
       go_wp2_with fail
       go_quiet (fail)
       go_wp2
       go_roundw
       case rel=>exact ⟨k',lb,by omega,rfl,rfl,by rw [HF.out,HE.out,HC.out];simp [a1,a1',a2,a2',a3],by first | exact hbX | exact below_drewN hbX _⟩
       case measure=>simp [intOf]
     ·
      have a2':(ecore != core)=true:=by rw [bne,a2];rfl
      go_wp2_with fail
      go_quiet (fail)
      go_wp2
      go_roundw
      case rel=>exact ⟨k',lb,by omega,rfl,rfl,by rw [HF.out,HE.out,HC.out];simp [a1,a1',a2,a2'],by first | exact hbX | exact below_drewN hbX _⟩
      case measure=>simp [intOf]
    have b3:(ewhat==3)=false:=by simpa using w3
    clear w3
    rcases Bool.eq_false_or_eq_true (ewhat==2) with b2|b2
    ·
     rcases Bool.eq_false_or_eq_true (ewhat==4) with b4 | b4
     · simp only [beq_iff_eq] at b2 b4;omega
     ·
      go_wp2_with fail
      go_quiet (fail)
      go_wp2
      go_roundw
      case rel=>exact ⟨k',lb,by omega,rfl,rfl,by rw [HF.out,HE.out,HC.out];simp [a1,a1',b2,b3,b4],by first | exact hbX | exact below_drewN hbX _⟩
      case measure=>simp [intOf]
    ·
     rcases Bool.eq_false_or_eq_true (ewhat==4) with b4 | b4
     ·
      rcases Bool.eq_false_or_eq_true (ecore==core) with a2 | a2
      ·
       go_wp2_with fail
       go_quiet (fail)
       go_wp2
       go_roundw
       case rel=>exact ⟨k',lb,by omega,rfl,rfl,by rw [HF.out,HE.out,HC.out];simp [a1,a1',b2,b3,b4,a2],by first | exact hbX | exact below_drewN hbX _⟩
       case measure=>simp [intOf]
      ·
       go_wp2_with fail
       go_quiet (fail)
       go_wp2
       go_roundw
       case rel=>exact ⟨k',lb,by omega,rfl,rfl,by rw [HF.out,HE.out,HC.out];simp [a1,a1',b2,b3,b4,a2],by first | exact hbX | exact below_drewN hbX _⟩
       case measure=>simp [intOf]
     ·
      go_wp2_with fail
      go_quiet (fail)
      go_wp2
      go_roundw
      case rel=>exact ⟨k',lb,by omega,rfl,rfl,by rw [HF.out,HE.out,HC.out];simp [a1,a1',b2,b3,b4],by first | exact hbX | exact below_drewN hbX _⟩
      case measure=>simp [intOf]
  ·
   obtain rfl:k=0:=by omega
   go_wp2
   go_ret
   exact ⟨ret_int (by rw [HF.out,Nat.sub_zero,List.drop_length];cases lb <;> rfl),hb⟩
end Go.Proofs.YtehheaedbnfidaaGreat
