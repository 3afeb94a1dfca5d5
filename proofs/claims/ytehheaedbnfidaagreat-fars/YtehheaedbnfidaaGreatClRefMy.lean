import Derived.Test.YtehheaedbnfidaaGreatClWLentT
set_option maxRecDepth 100000
namespace Go.Proofs.YtehheaedbnfidaaGreat
open Go.RowKit
set_option maxHeartbeats 3200000 in
theorem rmemory_any (X:SLoc)(L:RLoc)(M:RDat)(a:Int)(log:List Ent)(w:World)(h:Row w X.gs (soloL X) 126)(hM:RefM w L M)(hg:X.gr=L.gr)(hd:X.d<L.nd)(a0:0≤a)(a1:a<M.c.priv+M.c.shared)(hl:LogAt w X.la X.ll log) :
  Calls Tryz.prog 51 #[.pointer (some ⟨X.gs,0,none⟩),.int .i64 a] w fun e w'=>e = .returned (.int .i64 (memoryF (a / M.c.line) a (firstF0 M.toM X.d a) log))∧Below w.heap.size w w':=by
 have hm:=hl.hmax
 have HL:Hid (log.length=X.ll):=hl.hlen
 have c0:w.cell? ⟨X.gs,0,none⟩=some (.pointer (some ⟨L.gr,0,none⟩)):=by rw [h.cell,← hg];rfl
 have c2:w.cell? ⟨X.gs,2,none⟩=some (.slice X.la X.ll X.lc):=by rw [h.cell];rfl
 have m2:w.cell? ⟨L.gr,2,none⟩=some (.int .i64 M.c.line):=by rw [hM.row.cell];rfl
 obtain ⟨_,_,_,_,_,_,hln,p1,p2,sh0,sh1⟩:=shape_bounds (chk_zero hM.right).1
 have y1:0<M.c.line:=by omega
 have y0:¬M.c.line=0:=by omega
 have y2:0≤a / M.c.line:=Int.ediv_nonneg a0 (by omega)
 have y3:a / M.c.line≤a:=Int.ediv_le_self _ a0
 have y4:IntKind.i64.wrap (a / M.c.line)=a / M.c.line:=by rw [IntKind.wrap_i64];omega
 clear hln
 go_enter Tryz.func51,Tryz.ntmps51
 go_wp2_with fail
 try (go_quiet (fail);go_wp2_with fail)
 generalize hx:a / M.c.line=x at *
 have HX:Hid _:=hx
 clear hx
 go_loopw [6] (fun i wr=>∃ k:Nat,k≤X.ll∧i = .int .i64 ((k:Int)-1)∧memoryF x a (firstF0 M.toM X.d a) log=memoryF x a (firstF0 M.toM X.d a) (log.drop (log.length-k))∧Below w.heap.size w wr) (fun i _=>(intOf i+1).toNat)
 case atStart=>exact ⟨X.ll,Nat.le_refl _,rfl,by rw [HL.out,Nat.sub_self,List.drop_zero],Below.refl _ _⟩
 case round=>
  obtain ⟨k,hk,rfl,hf,hb⟩:=hrel
  have HF:Hid _:=hf
  clear hf
  by_cases hlt:0<k
  ·
   obtain ⟨k',rfl⟩:∃ k',k=k'+1:=⟨k-1,by omega⟩
   have e1:(((k'+1:Nat):Int)-1)=(k':Int):=by omega
   rw [e1]
   obtain ⟨b,hla,hlb,hcs⟩:=(hl.below hb (Nat.le_refl _)).hat k' (by omega)
   have HE:Hid _:=drop_rev log k' (by rw [HL.out];omega)
   unfold ent0 at HE
   have cr2:=(h.below hb h.lt).cell 2
   have z1:=hcs 1 (by omega)
   have z3:=hcs 3 (by omega)
   generalize log.reverse.getD k' ⟨0,0,0,0,0,false,false,0,0⟩=e at *
   obtain ⟨et,ewhat,ecore,eline,eway,est,elo,eaddr,eval⟩:=e
   simp only [List.getElem?_cons_zero,List.getElem?_cons_succ] at z1 z3 cr2
   rw [hla] at cr2
   clear hcs e1
   rcases Bool.eq_false_or_eq_true (ewhat==2) with a2|a2
   ·
    rcases Bool.eq_false_or_eq_true (eline==x) with a3 | a3
    ·
     go_wp2_with fail
     refine (rword_any X L M a k' log _ (h.below hb h.lt) (hM.below hb (Nat.le_refl _)) hg hd a0 a1 (hl.below hb (Nat.le_refl _)) (by omega)).mono ?_;rintro e w1 ⟨rfl,hb1⟩
     go_wp2
     go_ret
     exact ⟨ret_int (by rw [HX.out,HF.out,HE.out];simp [memoryF,a2,a3]),below_step hb hb1 rfl⟩
    ·
     go_wp2
     go_roundw
     case rel=>exact ⟨k',by omega,rfl,by rw [HF.out,HE.out];simp [memoryF,a2,a3],hb⟩
     case measure=>simp [intOf]
   ·
    go_wp2
    go_roundw
    case rel=>exact ⟨k',by omega,rfl,by rw [HF.out,HE.out];simp [memoryF,a2],hb⟩
    case measure=>simp [intOf]
  ·
   obtain rfl:k=0:=by omega
   go_wp2_with fail
   refine (rfirst_any X L M a _ (h.below hb h.lt) (hM.below hb (Nat.le_refl _)) hg hd a0 a1).mono ?_;rintro e w1 ⟨rfl,hb1⟩
   go_wp2
   go_ret
   exact ⟨ret_int (by rw [HX.out,HF.out,Nat.sub_zero,List.drop_length];rfl),below_step hb hb1 rfl⟩
theorem play_log {L:RLoc}{M:RDat}{d:Nat}{w0 w:World}{base:Nat}{X:SLoc}(h:Ctx w0 w base X L M (So.upto M.toM d M.T.toNat)):LogAt w X.la X.ll (So.upto M.toM d M.T.toNat).log:=by
 refine h.solo.logAt ?_
 have h1:=(upto_len (M:=M.toM) (d:=d) h.ok M.T.toNat).1
 have:=h.solo.ll
 have:=h.ref.T1
 omega
set_option maxHeartbeats 1600000 in
theorem rMemory_good (L:RLoc)(M:RDat)(d:Nat)(a:Int)(w:World)(h:RefM w L M)(hc:CfgAt w M.c M.s)(hd:d<L.nd)(a0:0≤a)(a1:a<M.c.priv+M.c.shared) :
  Calls Tryz.prog 20 #[.pointer (some ⟨L.gr,0,none⟩),.int .i64 d,.int .i64 a] w fun e w'=>e = .returned (.tuple #[.int .i64 (memoryF (a / M.c.line) a (firstF0 M.toM d a) (So.upto M.toM d M.T.toNat).log),.int .i64 0])∧Below w.heap.size w w':=by
 have m1:w.cell? ⟨L.gr,1,none⟩=some (.int .i64 M.c.domains):=by rw [h.row.cell];rfl
 have m3:w.cell? ⟨L.gr,3,none⟩=some (.int .i64 M.c.priv):=by rw [h.row.cell];rfl
 have m4:w.cell? ⟨L.gr,4,none⟩=some (.int .i64 M.c.shared):=by rw [h.row.cell];rfl
 obtain ⟨_,_,_,_,_,_,hln,p1,p2,sh0,sh1⟩:=shape_bounds (chk_zero h.right).1
 have hdd:(d:Int)<M.c.domains:=by have:=h.nd;omega
 have d0:(0:Int)≤(d:Int):=by omega
 have y6:IntKind.i64.wrap (M.c.priv+M.c.shared)=M.c.priv+M.c.shared:=by rw [IntKind.wrap_i64];omega
 have HM:Hid _:=h
 have HCF:Hid _:=hc
 clear h hc hln
 go_enter Tryz.func20,Tryz.ntmps20
 go_wp2_with fail
 go_quiet (fail)
 go_wp2_with fail
 refine (rplayed_any L M d _ (HM.out.below (Go.below_drewN (Below.refl _ _) _) (Nat.le_refl _)) (HCF.out.below (Go.below_drewN (Below.refl _ _) _) (Nat.le_refl _)) hd).mono ?_
 rintro e w1 ⟨X,rfl,hX,hC⟩
 have hl:=play_log hC
 have hR:=rmemory_any X L M a _ w1 hC.solo.row hC.ref hC.gr hC.d a0 a1 hl
 rw [hX] at hR
 have HB:Hid (Below w.heap.size w w1):=below_step (Go.below_drewN (Below.refl _ _) _) hC.below rfl
 clear hC hX m1 m3 m4 hl
 go_wp2_with fail
 refine hR.mono ?_
 rintro e w2 ⟨rfl,hb2⟩
 have HB2:Hid (Below w.heap.size w w2):=below_step HB.out hb2 rfl
 clear hb2 hR
 go_wp2
 go_ret2
 exact ⟨rfl,HB2.out⟩
set_option maxHeartbeats 1600000 in
theorem rMemory_bad1 (L:RLoc)(M:RDat)(d a:Int)(w:World)(h:RefM w L M)(b1:d<0) :
  Calls Tryz.prog 20 #[.pointer (some ⟨L.gr,0,none⟩),.int .i64 d,.int .i64 a] w fun e w'=>e = .returned (.tuple #[.int .i64 0,.int .i64 6])∧Below w.heap.size w w':=by
 have m1:w.cell? ⟨L.gr,1,none⟩=some (.int .i64 M.c.domains):=by rw [h.row.cell];rfl
 have m3:w.cell? ⟨L.gr,3,none⟩=some (.int .i64 M.c.priv):=by rw [h.row.cell];rfl
 have m4:w.cell? ⟨L.gr,4,none⟩=some (.int .i64 M.c.shared):=by rw [h.row.cell];rfl
 obtain ⟨_,_,_,_,_,_,hln,p1,p2,sh0,sh1⟩:=shape_bounds (chk_zero h.right).1
 have y6:IntKind.i64.wrap (M.c.priv+M.c.shared)=M.c.priv+M.c.shared:=by rw [IntKind.wrap_i64];omega
 clear h hln
 go_enter Tryz.func20,Tryz.ntmps20
 go_wp2_with fail
 go_quiet (fail)
 go_wp2
 go_ret2
 exact ⟨rfl,Go.below_drewN (Below.refl _ _) _⟩
set_option maxHeartbeats 1600000 in
theorem rMemory_bad2 (L:RLoc)(M:RDat)(d a:Int)(w:World)(h:RefM w L M)(b1:0≤d)(b2:M.c.domains≤d) :
  Calls Tryz.prog 20 #[.pointer (some ⟨L.gr,0,none⟩),.int .i64 d,.int .i64 a] w fun e w'=>e = .returned (.tuple #[.int .i64 0,.int .i64 6])∧Below w.heap.size w w':=by
 have m1:w.cell? ⟨L.gr,1,none⟩=some (.int .i64 M.c.domains):=by rw [h.row.cell];rfl
 have m3:w.cell? ⟨L.gr,3,none⟩=some (.int .i64 M.c.priv):=by rw [h.row.cell];rfl
 have m4:w.cell? ⟨L.gr,4,none⟩=some (.int .i64 M.c.shared):=by rw [h.row.cell];rfl
 obtain ⟨_,_,_,_,_,_,hln,p1,p2,sh0,sh1⟩:=shape_bounds (chk_zero h.right).1
 have y6:IntKind.i64.wrap (M.c.priv+M.c.shared)=M.c.priv+M.c.shared:=by rw [IntKind.wrap_i64];omega
 clear h hln
 go_enter Tryz.func20,Tryz.ntmps20
 go_wp2_with fail
 have hb1:decide (d<0)=false:=by simp;omega
 have hb2:decide (M.c.domains≤d)=true:=by simp;omega
 clear b1 b2
 go_quiet (fail)
 go_wp2
 go_ret2
 exact ⟨rfl,Go.below_drewN (Below.refl _ _) _⟩
set_option maxHeartbeats 1600000 in
theorem rMemory_bad3 (L:RLoc)(M:RDat)(d a:Int)(w:World)(h:RefM w L M)(b1:0≤d)(b2:d<M.c.domains)(b3:a<0) :
  Calls Tryz.prog 20 #[.pointer (some ⟨L.gr,0,none⟩),.int .i64 d,.int .i64 a] w fun e w'=>e = .returned (.tuple #[.int .i64 0,.int .i64 6])∧Below w.heap.size w w':=by
 have m1:w.cell? ⟨L.gr,1,none⟩=some (.int .i64 M.c.domains):=by rw [h.row.cell];rfl
 have m3:w.cell? ⟨L.gr,3,none⟩=some (.int .i64 M.c.priv):=by rw [h.row.cell];rfl
 have m4:w.cell? ⟨L.gr,4,none⟩=some (.int .i64 M.c.shared):=by rw [h.row.cell];rfl
 obtain ⟨_,_,_,_,_,_,hln,p1,p2,sh0,sh1⟩:=shape_bounds (chk_zero h.right).1
 have y6:IntKind.i64.wrap (M.c.priv+M.c.shared)=M.c.priv+M.c.shared:=by rw [IntKind.wrap_i64];omega
 clear h hln
 go_enter Tryz.func20,Tryz.ntmps20
 go_wp2_with fail
 have hb1:decide (d<0)=false:=by simp;omega
 have hb2:decide (M.c.domains≤d)=false:=by simp;omega
 have hb3:decide (a<0)=true:=by simp;omega
 clear b1 b2 b3
 go_quiet (fail)
 go_wp2
 go_ret2
 exact ⟨rfl,Go.below_drewN (Below.refl _ _) _⟩
set_option maxHeartbeats 1600000 in
theorem rMemory_bad4 (L:RLoc)(M:RDat)(d a:Int)(w:World)(h:RefM w L M)(b1:0≤d)(b2:d<M.c.domains)(b3:0≤a)(b4:M.c.priv+M.c.shared≤a) :
  Calls Tryz.prog 20 #[.pointer (some ⟨L.gr,0,none⟩),.int .i64 d,.int .i64 a] w fun e w'=>e = .returned (.tuple #[.int .i64 0,.int .i64 6])∧Below w.heap.size w w':=by
 have m1:w.cell? ⟨L.gr,1,none⟩=some (.int .i64 M.c.domains):=by rw [h.row.cell];rfl
 have m3:w.cell? ⟨L.gr,3,none⟩=some (.int .i64 M.c.priv):=by rw [h.row.cell];rfl
 have m4:w.cell? ⟨L.gr,4,none⟩=some (.int .i64 M.c.shared):=by rw [h.row.cell];rfl
 obtain ⟨_,_,_,_,_,_,hln,p1,p2,sh0,sh1⟩:=shape_bounds (chk_zero h.right).1
 have y6:IntKind.i64.wrap (M.c.priv+M.c.shared)=M.c.priv+M.c.shared:=by rw [IntKind.wrap_i64];omega
 clear h hln
 go_enter Tryz.func20,Tryz.ntmps20
 go_wp2_with fail
 go_quiet (fail)
 go_wp2
 go_ret2
 exact ⟨rfl,Go.below_drewN (Below.refl _ _) _⟩
theorem rMemory_bad (L:RLoc)(M:RDat)(d a:Int)(w:World)(h:RefM w L M)(hd:d<0∨M.c.domains≤d∨a<0∨M.c.priv+M.c.shared≤a) :
  Calls Tryz.prog 20 #[.pointer (some ⟨L.gr,0,none⟩),.int .i64 d,.int .i64 a] w fun e w'=>e = .returned (.tuple #[.int .i64 0,.int .i64 6])∧Below w.heap.size w w':=by
 by_cases b1:d<0
 · exact rMemory_bad1 L M d a w h b1
 ·
  by_cases b2:M.c.domains≤d
  · exact rMemory_bad2 L M d a w h (by omega) b2
  ·
   by_cases b3:a<0
   · exact rMemory_bad3 L M d a w h (by omega) (by omega) b3
   · exact rMemory_bad4 L M d a w h (by omega) (by omega) (by omega) (by omega)
end Go.Proofs.YtehheaedbnfidaaGreat
