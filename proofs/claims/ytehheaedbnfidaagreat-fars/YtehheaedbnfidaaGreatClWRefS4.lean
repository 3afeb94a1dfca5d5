import Derived.Test.YtehheaedbnfidaaGreatClWRefM
set_option maxRecDepth 100000
namespace Go.Proofs.YtehheaedbnfidaaGreat
open Go.RowKit
set_option maxHeartbeats 3200000 in
theorem rlies_any (X:SLoc)(c:Cf)(sl:Sl)(L:RLoc)(T set way:Int)(log:List Ent)(w:World)(h:SoR w X c sl L T)(hl:LogAt w X.la X.ll log)(hok:∀ e∈log,EntOk e) :
  Calls Tryz.prog 90 #[.pointer (some ⟨X.gs,0,none⟩),.int .i64 set,.int .i64 way] w fun e w'=>e = .returned (.int .i64 (liesF c set way log))∧Below w.heap.size w w':=by
 have hm:=hl.hmax
 have c2:w.cell? ⟨X.gs,2,none⟩=some (.slice X.la X.ll X.lc):=by rw [h.row.cell];rfl
 have HL:Hid (log.length=X.ll):=hl.hlen
 obtain ⟨_,_,_,_,_,hsets,_⟩:=shape_bounds (chk_zero h.ok).1
 have y1:0<c.sets:=by omega
 have y0:¬c.sets=0:=by omega
 clear hsets
 go_enter Tryz.func90,Tryz.ntmps90
 go_wp2_with fail
 go_loopw [7] (fun i wr=>∃ k:Nat,k≤X.ll∧i = .int .i64 ((k:Int)-1)∧liesF c set way log=liesF c set way (log.drop (log.length-k))∧Below w.heap.size w wr) (fun i _=>(intOf i+1).toNat)
 case atStart=>exact ⟨X.ll,Nat.le_refl _,rfl,by rw [HL.out,Nat.sub_self,List.drop_zero],Below.refl _ _⟩
 case round=>
  obtain ⟨k,hk,rfl,hf,hb⟩:=hrel
  have HF:Hid _:=hf
  clear hf
  by_cases hlt:0<k
  ·
   obtain ⟨k',rfl⟩:∃ k',k=k'+1:=⟨k-1,by omega⟩
   have e1:(((k'+1:Nat):Int)-1)=(k':Int):=by omega
   rw [e1]
   obtain ⟨b,hla,hlb,hcs⟩:=(hl.below hb (Nat.le_refl _)).hat k' (by omega)
   have HE:Hid _:=drop_rev log k' (by rw [HL.out];omega)
   have HO:EntOk (log.reverse.getD k' ent0):=hok _ (getD_mem_rev log k' (by rw [HL.out];omega))
   unfold ent0 at HE HO
   have cr2:=(h.below hb (Nat.le_refl _)).row.cell 2
   have z0:=hcs 0 (by omega)
   have z1:=hcs 1 (by omega)
   have z2:=hcs 2 (by omega)
   have z3:=hcs 3 (by omega)
   have z4:=hcs 4 (by omega)
   have z5:=hcs 5 (by omega)
   have z6:=hcs 6 (by omega)
   have z7:=hcs 7 (by omega)
   have z8:=hcs 8 (by omega)
   generalize log.reverse.getD k' ⟨0,0,0,0,0,false,false,0,0⟩=e at *
   obtain ⟨et,ewhat,ecore,eline,eway,est,elo,eaddr,eval⟩:=e
   simp only [List.getElem?_cons_zero,List.getElem?_cons_succ,Nat.add_zero] at z0 z1 z2 z3 z4 z5 z6 z7 z8 cr2
   rw [hla] at cr2
   obtain ⟨l0,l1,t0,t1⟩:=HO
   dsimp only at l0 l1 t0 t1
   clear hcs e1
   have hbW:Below w.heap.size w (wr.alloc (.cells #[.int .i64 et,.int .i64 ewhat,.int .i64 ecore,.int .i64 eline,.int .i64 eway,.bool est,.bool elo,.int .i64 eaddr,.int .i64 eval] 132)):=hb.alloc hb.size _
   have hRW:=h.below hbW (Nat.le_refl _)
   have rB:Row (wr.alloc (.cells #[.int .i64 et,.int .i64 ewhat,.int .i64 ecore,.int .i64 eline,.int .i64 eway,.bool est,.bool elo,.int .i64 eaddr,.int .i64 eval] 132)) wr.heap.size [.int .i64 et,.int .i64 ewhat,.int .i64 ecore,.int .i64 eline,.int .i64 eway,.bool est,.bool elo,.int .i64 eaddr,.int .i64 eval] 132:=heap_alloc_new wr _
   have r0:(wr.alloc (.cells #[.int .i64 et,.int .i64 ewhat,.int .i64 ecore,.int .i64 eline,.int .i64 eway,.bool est,.bool elo,.int .i64 eaddr,.int .i64 eval] 132)).cell? ⟨X.gs,0,none⟩=some (.pointer (some ⟨X.gr,0,none⟩)):=by rw [hRW.row.cell];rfl
   have r6:(wr.alloc (.cells #[.int .i64 et,.int .i64 ewhat,.int .i64 ecore,.int .i64 eline,.int .i64 eway,.bool est,.bool elo,.int .i64 eaddr,.int .i64 eval] 132)).cell? ⟨X.gr,6,none⟩=some (.int .i64 c.sets):=by rw [hRW.mrow.cell];rfl
   have d1:(wr.alloc (.cells #[.int .i64 et,.int .i64 ewhat,.int .i64 ecore,.int .i64 eline,.int .i64 eway,.bool est,.bool elo,.int .i64 eaddr,.int .i64 eval] 132)).cell? ⟨wr.heap.size,1,none⟩=some (.int .i64 ewhat):=by rw [rB.cell];rfl
   have d3:(wr.alloc (.cells #[.int .i64 et,.int .i64 ewhat,.int .i64 ecore,.int .i64 eline,.int .i64 eway,.bool est,.bool elo,.int .i64 eaddr,.int .i64 eval] 132)).cell? ⟨wr.heap.size,3,none⟩=some (.int .i64 eline):=by rw [rB.cell];rfl
   have d4:(wr.alloc (.cells #[.int .i64 et,.int .i64 ewhat,.int .i64 ecore,.int .i64 eline,.int .i64 eway,.bool est,.bool elo,.int .i64 eaddr,.int .i64 eval] 132)).cell? ⟨wr.heap.size,4,none⟩=some (.int .i64 eway):=by rw [rB.cell];rfl
   rcases Bool.eq_false_or_eq_true (eline%c.sets==set) with a1|a1
   ·
    rcases Bool.eq_false_or_eq_true (eway==way) with a2 | a2
    ·
     rcases Bool.eq_false_or_eq_true (ewhat==1) with a3 | a3
     ·
      go_wp2_with fail
      generalize wr.alloc (.cells #[.int .i64 et,.int .i64 ewhat,.int .i64 ecore,.int .i64 eline,.int .i64 eway,.bool est,.bool elo,.int .i64 eaddr,.int .i64 eval] 132)=W at *
      go_quiet (fail)
      go_wp2
      go_ret
      exact ⟨ret_int (by rw [HF.out,HE.out];simp [liesF,a1,a2,a3]),below_drewN hbW _⟩
     ·
      rcases Bool.eq_false_or_eq_true (ewhat==2) with a4 | a4
      ·
       go_wp2_with fail
       generalize wr.alloc (.cells #[.int .i64 et,.int .i64 ewhat,.int .i64 ecore,.int .i64 eline,.int .i64 eway,.bool est,.bool elo,.int .i64 eaddr,.int .i64 eval] 132)=W at *
       go_quiet (fail)
       go_wp2_with fail
       go_quiet (fail)
       go_wp2
       go_ret
       exact ⟨ret_int (by rw [HF.out,HE.out];simp [liesF,a1,a2,a3,a4]),by first | exact below_drewN hbW _ | exact below_drewN (below_drewN hbW _) _⟩
      ·
       go_wp2_with fail
       generalize wr.alloc (.cells #[.int .i64 et,.int .i64 ewhat,.int .i64 ecore,.int .i64 eline,.int .i64 eway,.bool est,.bool elo,.int .i64 eaddr,.int .i64 eval] 132)=W at *
       go_quiet (fail)
       go_wp2_with fail
       go_quiet (fail)
       go_wp2
       go_roundw
       case rel=>exact ⟨k',by omega,rfl,by rw [HF.out,HE.out];simp [liesF,a1,a2,a3,a4],below_drewN hbW _⟩
       case measure=>simp [intOf]
    ·
     go_wp2_with fail
     generalize wr.alloc (.cells #[.int .i64 et,.int .i64 ewhat,.int .i64 ecore,.int .i64 eline,.int .i64 eway,.bool est,.bool elo,.int .i64 eaddr,.int .i64 eval] 132)=W at *
     go_quiet (fail)
     go_wp2_with fail
     go_quiet (fail)
     go_wp2
     go_roundw
     case rel=>exact ⟨k',by omega,rfl,by rw [HF.out,HE.out];simp [liesF,a1,a2],below_drewN hbW _⟩
     case measure=>simp [intOf]
   ·
    go_wp2_with fail
    generalize wr.alloc (.cells #[.int .i64 et,.int .i64 ewhat,.int .i64 ecore,.int .i64 eline,.int .i64 eway,.bool est,.bool elo,.int .i64 eaddr,.int .i64 eval] 132)=W at *
    go_quiet (fail)
    go_wp2_with fail
    go_quiet (fail)
    go_wp2
    go_roundw
    case rel=>exact ⟨k',by omega,rfl,by rw [HF.out,HE.out];simp [liesF,a1],below_drewN hbW _⟩
    case measure=>simp [intOf]
  ·
   obtain rfl:k=0:=by omega
   go_wp2
   go_ret
   exact ⟨ret_int (by rw [HF.out,Nat.sub_zero,List.drop_length];rfl),hb⟩
def RDat.toM (M:RDat):MDat:=⟨M.c,M.pr,M.ow,M.cm⟩
theorem RefM.below {w w':World}{L:RLoc}{M:RDat}{n:Nat}(h:RefM w L M)(hb:Below n w w')(hn:w.heap.size≤n):RefM w' L M:=by
 have n1:∀ {g A t},Row w g A t→Row w' g A t:=fun hr=>hr.below hb (Nat.lt_of_lt_of_le hr.lt hn)
 refine ⟨n1 h.row,h.np,h.nd,h.ns,n1 h.prow,h.plen,?_,n1 h.orow,?_,h.odis,n1 h.crow,h.clen,h.cdis,h.right,h.T0,h.T1,h.pmax⟩
 ·
  intro i hi
  rcases h.pat i hi with h1|⟨h1,h2⟩
  · exact Or.inl h1
  · exact Or.inr ⟨h1,n1 h2⟩
 ·
  intro d hd
  exact ⟨(h.oat d hd).1,n1 (h.oat d hd).2⟩
set_option maxHeartbeats 1600000 in
theorem rfirst_any (X:SLoc)(L:RLoc)(M:RDat)(a:Int)(w:World)(h:Row w X.gs (soloL X) 126)(hM:RefM w L M)(hg:X.gr=L.gr)(hd:X.d<L.nd)(a0:0≤a)(a1:a<M.c.priv+M.c.shared) :
  Calls Tryz.prog 97 #[.pointer (some ⟨X.gs,0,none⟩),.int .i64 a] w fun e w'=>e = .returned (.int .i64 (firstF0 M.toM X.d a))∧Below w.heap.size w w':=by
 have c0:w.cell? ⟨X.gs,0,none⟩=some (.pointer (some ⟨L.gr,0,none⟩)):=by rw [h.cell,← hg];rfl
 have c1:w.cell? ⟨X.gs,1,none⟩=some (.int .i64 X.d):=by rw [h.cell];rfl
 have m3:w.cell? ⟨L.gr,3,none⟩=some (.int .i64 M.c.priv):=by rw [hM.row.cell];rfl
 have m14:w.cell? ⟨L.gr,14,none⟩=some (.slice (some ⟨L.go,0,none⟩) L.nd L.nd):=by rw [hM.row.cell];rfl
 have m15:w.cell? ⟨L.gr,15,none⟩=some (.slice (some ⟨L.gc,0,none⟩) L.ns L.ns):=by rw [hM.row.cell];rfl
 have o1:w.cell? ⟨L.go,X.d,none⟩=some (.slice (some ⟨L.D X.d,0,none⟩) M.c.priv.toNat M.c.priv.toNat):=by
  rw [hM.orow.cell,List.getElem?_map,List.getElem?_range hd];rfl
 obtain ⟨ol,orow⟩:=hM.oat X.d hd
 obtain ⟨_,_,_,hdm,_,_,_,p1,p2,sh0,sh1⟩:=shape_bounds (chk_zero hM.right).1
 have hnd:=hM.nd
 have hns:=hM.ns
 by_cases a2:a<M.c.priv
 ·
  have HZ:Hid (firstF0 M.toM X.d a=(M.ow X.d).getD a.toNat 0):=by unfold Hid firstF0;rw [if_pos (show a<M.toM.c.priv from a2)];rfl
  obtain ⟨i,rfl⟩:=Int.eq_ofNat_of_zero_le a0
  rw [Int.toNat_natCast] at HZ
  obtain ⟨q,hq⟩:=Int.eq_ofNat_of_zero_le (show 0≤M.c.priv by omega)
  have hq':M.c.priv.toNat=q:=by omega
  rw [hq'] at o1 ol
  have hi:i<q:=by omega
  have o2:w.cell? ⟨L.D X.d,i,none⟩=some (.int .i64 ((M.ow X.d).getD i 0)):=by
   rw [orow.cell,List.getElem?_map,List.getElem?_eq_getElem (by omega)]
   simp [List.getD,List.getElem?_eq_getElem (show i<(M.ow X.d).length by omega)]
  generalize (M.ow X.d).getD i 0=v at *
  have hq2:q≤64:=by omega
  have hd2:L.nd≤4:=by omega
  have HQ:Hid _:=hq
  have HND:Hid _:=hnd
  have HNS:Hid _:=hns
  clear hq hq' ol hnd hns
  go_enter Tryz.func97,Tryz.ntmps97
  go_wp2_with fail
  go_quiet (fail)
  go_wp2
  go_ret
  exact ⟨ret_int HZ.out.symm,below_drewN (Below.refl _ _) _⟩
 ·
  have HZ:Hid (firstF0 M.toM X.d a=M.cm.getD (a-M.c.priv).toNat 0):=by unfold Hid firstF0;rw [if_neg (show ¬a<M.toM.c.priv from a2)];rfl
  obtain ⟨i,hi⟩:=Int.eq_ofNat_of_zero_le (show 0≤a-M.c.priv by omega)
  rw [hi,Int.toNat_natCast] at HZ
  have hi2:i<L.ns:=by omega
  have o2:w.cell? ⟨L.gc,i,none⟩=some (.int .i64 (M.cm.getD i 0)):=by
   rw [hM.crow.cell,List.getElem?_map,List.getElem?_eq_getElem (by rw [hM.clen];omega)]
   simp [List.getD,List.getElem?_eq_getElem (show i<M.cm.length by rw [hM.clen];omega)]
  generalize M.cm.getD i 0=v at *
  have hs2:L.ns≤32:=by omega
  have hea:a=M.c.priv+i:=by omega
  subst hea
  have HND:Hid _:=hnd
  have HNS:Hid _:=hns
  have e2:M.c.priv+(i:Int)-M.c.priv=(i:Int):=by omega
  clear hi ol hnd hns o1
  go_enter Tryz.func97,Tryz.ntmps97
  go_wp2_with fail
  go_quiet (fail)
  go_wp2
  go_ret
  exact ⟨ret_int HZ.out.symm,below_drewN (Below.refl _ _) _⟩
set_option maxHeartbeats 3200000 in
theorem rword_any (X:SLoc)(L:RLoc)(M:RDat)(a:Int)(n:Nat)(log:List Ent)(w:World)(h:Row w X.gs (soloL X) 126)(hM:RefM w L M)(hg:X.gr=L.gr)(hd:X.d<L.nd)(a0:0≤a)(a1:a<M.c.priv+M.c.shared)(hl:LogAt w X.la X.ll log)(hn:n≤X.ll) :
  Calls Tryz.prog 96 #[.pointer (some ⟨X.gs,0,none⟩),.int .i64 a,.int .i64 n] w fun e w'=>e = .returned (.int .i64 (wordF a (firstF0 M.toM X.d a) (log.drop (log.length-n))))∧Below w.heap.size w w':=by
 have hm:=hl.hmax
 have HL:Hid (log.length=X.ll):=hl.hlen
 go_enter Tryz.func96,Tryz.ntmps96
 go_wp2_with fail
 go_loopw [7] (fun i wr=>∃ k:Nat,k≤X.ll∧i = .int .i64 ((k:Int)-1)∧wordF a (firstF0 M.toM X.d a) (log.drop (log.length-n))=wordF a (firstF0 M.toM X.d a) (log.drop (log.length-k))∧Below w.heap.size w wr) (fun i _=>(intOf i+1).toNat)
 case atStart=>exact ⟨n,hn,rfl,rfl,Below.refl _ _⟩
 case round=>
  obtain ⟨k,hk,rfl,hf,hb⟩:=hrel
  have HF:Hid _:=hf
  clear hf
  by_cases hlt:0<k
  ·
   obtain ⟨k',rfl⟩:∃ k',k=k'+1:=⟨k-1,by omega⟩
   have e1:(((k'+1:Nat):Int)-1)=(k':Int):=by omega
   rw [e1]
   obtain ⟨b,hla,hlb,hcs⟩:=(hl.below hb (Nat.le_refl _)).hat k' (by omega)
   have HE:Hid _:=drop_rev log k' (by rw [HL.out];omega)
   unfold ent0 at HE
   have cr2:=(h.below hb h.lt).cell 2
   have z1:=hcs 1 (by omega)
   have z7:=hcs 7 (by omega)
   have z8:=hcs 8 (by omega)
   generalize log.reverse.getD k' ⟨0,0,0,0,0,false,false,0,0⟩=e at *
   obtain ⟨et,ewhat,ecore,eline,eway,est,elo,eaddr,eval⟩:=e
   simp only [List.getElem?_cons_zero,List.getElem?_cons_succ] at z1 z7 z8 cr2
   rw [hla] at cr2
   clear hcs e1
   rcases Bool.eq_false_or_eq_true (ewhat==4) with a2|a2
   ·
    rcases Bool.eq_false_or_eq_true (eaddr==a) with a3 | a3
    ·
     go_wp2
     go_ret
     exact ⟨ret_int (by rw [HF.out,HE.out];simp [wordF,a2,a3]),hb⟩
    ·
     go_wp2
     go_roundw
     case rel=>exact ⟨k',by omega,rfl,by rw [HF.out,HE.out];simp [wordF,a2,a3],hb⟩
     case measure=>simp [intOf]
   ·
    go_wp2
    go_roundw
    case rel=>exact ⟨k',by omega,rfl,by rw [HF.out,HE.out];simp [wordF,a2],hb⟩
    case measure=>simp [intOf]
  ·
   obtain rfl:k=0:=by omega
   go_wp2_with fail
   refine (rfirst_any X L M a _ (h.below hb h.lt) (hM.below hb (Nat.le_refl _)) hg hd a0 a1).mono ?_;rintro e w1 ⟨rfl,hb1⟩
   go_wp2
   go_ret
   exact ⟨ret_int (by rw [HF.out,Nat.sub_zero,List.drop_length];rfl),below_step hb hb1 rfl⟩
set_option maxHeartbeats 1600000 in
theorem rsways_any (X:SLoc)(c:Cf)(sl:Sl)(L:RLoc)(T:Int)(w:World)(h:SoR w X c sl L T)(hw:Ints w sl.wa sl.wl sl.wc c.ways) :
  Calls Tryz.prog 89 #[.pointer (some ⟨X.gs,0,none⟩)] w fun e w'=>e = .returned (.int .i64 (c.ways.count (X.d:Int):Nat))∧Below w.heap.size w w':=by
 have c0:w.cell? ⟨X.gs,0,none⟩=some (.pointer (some ⟨X.gr,0,none⟩)):=by rw [h.row.cell];rfl
 have c1:w.cell? ⟨X.gs,1,none⟩=some (.int .i64 X.d):=by rw [h.row.cell];rfl
 have m7:w.cell? ⟨X.gr,7,none⟩=some (.slice sl.wa sl.wl sl.wc):=by rw [h.mrow.cell];rfl
 go_enter Tryz.func89,Tryz.ntmps89
 go_wp2_with fail
 go_quiet ((go_at_call 78;exact Calls.quiet_of_same (rcount_any _ _ _ c.ways _ _ (hw.drewN _))))
 go_wp2
 go_ret
 exact ⟨rfl,below_drewN (Below.refl _ _) _⟩
set_option maxHeartbeats 1600000 in
theorem rfault_any (c:Cf)(s:Sl)(o:OpT)(w:World)(p0:0≤c.priv)(p1:c.priv≤64)(s0:0≤c.shared)(s1:c.shared≤32) :
  Calls Tryz.prog 131 #[cfgV c s,.agg #[.int .i64 o.1,.int .i64 o.2.1,.int .i64 o.2.2]] w fun e w'=>e = .returned (.int .i64 (faultF c o))∧Below w.heap.size w w':=by
 obtain ⟨kd,ad,vl⟩:=o
 dsimp only
 have HB:Hid (∀ o o',Below w.heap.size w ((w.alloc o).alloc o')):=fun o o'=>((Below.refl _ _).alloc (Nat.le_refl _) o).alloc (by simp) o'
 by_cases a1:ad<0
 ·
  have HZ:Hid (faultF c (kd,ad,vl)=1):=by unfold Hid faultF;rw [if_pos (Or.inl a1)]
  go_enter Tryz.func131,Tryz.ntmps131
  go_wp2
  go_ret
  exact ⟨ret_int HZ.out.symm,HB.out _ _⟩
 by_cases a2:c.priv+c.shared≤ad
 ·
  have HZ:Hid (faultF c (kd,ad,vl)=1):=by unfold Hid faultF;rw [if_pos (Or.inr a2)]
  go_enter Tryz.func131,Tryz.ntmps131
  go_wp2
  go_ret
  exact ⟨ret_int HZ.out.symm,HB.out _ _⟩
 by_cases a3:kd=1
 ·
  subst a3
  by_cases a4:c.priv≤ad
  ·
   have HZ:Hid (faultF c (1,ad,vl)=2):=by unfold Hid faultF;rw [if_neg (by simp;omega),if_pos ⟨rfl,a4⟩]
   go_enter Tryz.func131,Tryz.ntmps131
   go_wp2
   go_ret
   exact ⟨ret_int HZ.out.symm,HB.out _ _⟩
  ·
   have HZ:Hid (faultF c (1,ad,vl)=0):=by unfold Hid faultF;rw [if_neg (by simp;omega),if_neg (by simp;omega)]
   go_enter Tryz.func131,Tryz.ntmps131
   go_wp2
   go_ret
   exact ⟨ret_int HZ.out.symm,HB.out _ _⟩
 ·
  have HZ:Hid (faultF c (kd,ad,vl)=0):=by unfold Hid faultF;rw [if_neg (by simp;omega),if_neg (by simp;omega)]
  have a3':(kd==1)=false:=by simpa using a3
  clear a3
  go_enter Tryz.func131,Tryz.ntmps131
  go_wp2
  go_ret
  exact ⟨ret_int HZ.out.symm,HB.out _ _⟩
theorem owns_ints {w:World}{base:Nat}{sa:Option Addr}{len cap:Nat}{ts:List Int}(h:w.ownsRow base 3 1 (.slice sa len cap) ts.length (ts.map (Value.int .i64))):Ints w sa len cap ts:=by
 obtain ⟨h1,h2⟩:=h
 rcases h2 with ⟨h3,h4⟩|⟨g,cap',cur,hv,hg,hh,hn,hm,hs,ht⟩
 ·
  simp only [Value.slice.injEq] at h3
  obtain ⟨e1,e2,e3⟩:=h3
  rw [e1,e2,e3]
  have:ts=[]:=List.eq_nil_of_length_eq_zero h4
  subst this
  exact ⟨rfl,Nat.le_refl _,by unfold maxLen;omega,fun _=>rfl,fun i hi=>absurd hi (Nat.not_lt_zero _)⟩
 ·
  simp only [Value.slice.injEq] at hv
  obtain ⟨e1,e2,e3⟩:=hv
  rw [e1,e2,e3]
  refine ⟨rfl,hn,hm,(fun h=>by cases h),fun i hi=>⟨g,0,rfl,?_⟩⟩
  have hr:Row w g cur.toList 3:=by unfold Row;simpa using hh
  rw [Nat.zero_add,hr.cell]
  have e4:cur.toList[i]? = (cur.toList.take (ts.length*1))[i]? := by
   rw [List.getElem?_take,if_pos (by omega)]
  rw [e4,ht,List.getElem?_map]
  simp [List.getD,List.getElem?_eq_getElem hi]
theorem touched_snoc {p:Ent→Bool}(log:List Ent)(k:Nat)(h:k<log.length):((log.reverse.take (k+1)).filter p).map Ent.way=((log.reverse.take k).filter p).map Ent.way++(if p (log.reverse.getD k ent0)=true then [(log.reverse.getD k ent0).way] else []):=by
 have hk:k<log.reverse.length:=by simpa using h
 have e:log.reverse.getD k ent0=log.reverse[k]:=by rw [List.getD_eq_getElem?_getD,List.getElem?_eq_getElem hk,Option.getD_some]
 rw [List.take_succ_eq_append_getElem hk,List.filter_append,List.map_append,e]
 generalize log.reverse[k]=x
 cases hp:p x <;> simp [hp]
theorem chosen_hit {c:Cf}{n k:Nat}{set:Int}{log:List Ent}(h:emptyF c set log n 0=(k:Int))(hk:k<n):chosenF c n set log=k:=by
 unfold chosenF
 rw [h]
 simp [hk]
theorem chosen_full {c:Cf}{n:Nat}{set:Int}{log:List Ent}(h:emptyF c set log n 0=(n:Int)):chosenF c n set log=victimZ n (touchedF c set log):=by
 unfold chosenF
 rw [h]
 simp
set_option maxHeartbeats 6400000 in
theorem rchosen_any (X:SLoc)(c:Cf)(sl:Sl)(L:RLoc)(T set:Int)(log:List Ent)(w:World)(h:SoR w X c sl L T)(hw:Ints w sl.wa sl.wl sl.wc c.ways)(hl:LogAt w X.la X.ll log)(hok:∀ e∈log,EntOk e)(hn:smallB (c.ways.count (X.d:Int):Nat)=true) :
  Calls Tryz.prog 130 #[.pointer (some ⟨X.gs,0,none⟩),.int .i64 set] w fun e w'=>e = .returned (.int .i64 (chosenF c (c.ways.count (X.d:Int)) set log))∧Below w.heap.size w w':=by
 have hm:=hl.hmax
 have HL:Hid (log.length=X.ll):=hl.hlen
 have HW:=rsways_any X c sl L T w h hw
 have HC1:Hid (∀ k:Nat,emptyF c set log (c.ways.count (X.d:Int)) 0=(k:Int)→k<c.ways.count (X.d:Int)→chosenF c (c.ways.count (X.d:Int)) set log=k):=fun k h1 h2=>chosen_hit h1 h2
 have HC2:Hid (emptyF c set log (c.ways.count (X.d:Int)) 0=((c.ways.count (X.d:Int):Nat):Int)→chosenF c (c.ways.count (X.d:Int)) set log=victimZ (c.ways.count (X.d:Int):Nat) (touchedF c set log)):=fun h1=>chosen_full h1
 have hn4:c.ways.count (X.d:Int)≤4:=by rcases (small_iff _).1 hn with e | e | e <;> omega
 have HN:Hid _:=hn
 generalize chosenF c (c.ways.count (X.d:Int)) set log=res at *
 generalize c.ways.count (X.d:Int)=n at *
 clear hn
 obtain ⟨i0,hi0,hz0,hz1,hz2⟩:=info_parts Tryz.infoInt
 obtain ⟨_,_,_,_,_,hsets,_⟩:=shape_bounds (chk_zero h.ok).1
 have y1:0<c.sets:=by omega
 have y0:¬c.sets=0:=by omega
 clear hsets
 go_enter Tryz.func130,Tryz.ntmps130
 go_wp2_with (go_at_call 89;refine Calls.mono HW ?_;rintro e w1 ⟨rfl,hb1⟩)
 go_loopw [6] (fun j wr=>∃ k:Nat,k≤n∧j = .int .i64 k∧emptyF c set log n 0=emptyF c set log (n-k) k∧Below w.heap.size w wr) (fun j _=>(n-intOf j).toNat)
 case atStart=>exact ⟨0,by omega,rfl,by simp,hb1⟩
 case round=>
  obtain ⟨k,hk,rfl,hf,hb⟩:=hrel
  have HF:Hid _:=hf
  clear hf
  by_cases hlt:k<n
  ·
   by_cases a1:liesF c set k log<0
   ·
    go_wp2_with fail
    refine (rlies_any X c sl L T set k log _ (h.below hb (Nat.le_refl _)) (hl.below hb (Nat.le_refl _)) hok).mono ?_;rintro e w2 ⟨rfl,hb2⟩
    go_wp2
    go_ret
    exact ⟨ret_int (HC1.out k (by rw [HF.out,emptyF_hit a1 _ (by omega)]) hlt).symm,below_step hb hb2 rfl⟩
   ·
    go_wp2_with fail
    refine (rlies_any X c sl L T set k log _ (h.below hb (Nat.le_refl _)) (hl.below hb (Nat.le_refl _)) hok).mono ?_;rintro e w2 ⟨rfl,hb2⟩
    go_wp2
    go_roundw
    case rel=>
     refine ⟨k+1,by omega,by go_num,?_,below_step hb hb2 rfl⟩
     rw [HF.out,show n-k=(n-(k+1))+1 by omega,emptyF_miss (by omega),show ((k+1:Nat):Int)=(k:Int)+1 by omega]
    case measure=>simp [intOf];omega
  ·
   have ek:k=n:=by omega
   subst ek
   have HV:=HC2.out (by rw [HF.out,Nat.sub_self];rfl)
   have HV:Hid _:=HV
   have HF0:Hid _:=hb
   go_wp2_with fail
   go_loopw [8,9] (fun v i wr2=>∃ (q:Nat) (sa:Option Addr) (cap:Nat) (ts:List Int),q≤X.ll∧i = .int .i64 q∧v = .slice sa ts.length cap∧ts=((log.reverse.take q).filter fun e=>e.what==3&&(e.line%c.sets==set)).map Ent.way∧ts.length≤q∧wr2.ownsRow w.heap.size 3 1 (.slice sa ts.length cap) ts.length (ts.map (Value.int .i64))∧Below w.heap.size w wr2) (fun _ i _=>(X.ll-intOf i).toNat)
   case atStart=>exact ⟨0,none,0,[],by omega,rfl,rfl,by simp,by simp,World.ownsRow_nil _ _ _ _,hb⟩
   case round=>
    obtain ⟨q,sa,cap,ts,hq,rfl,rfl,hts,htl,hown,hbr⟩:=hrel
    have HTS:Hid _:=hts
    have HTL:Hid _:=htl
    clear hts htl
    by_cases hql:q<X.ll
    ·
     obtain ⟨b,hla,hlb,hcs⟩:=(hl.below hbr (Nat.le_refl _)).hat q hql
     have HSN:Hid _:=touched_snoc (p:=fun e=>e.what==3&&(e.line%c.sets==set)) log q (by rw [HL.out];exact hql)
     have HO:EntOk (log.reverse.getD q ent0):=hok _ (getD_mem_rev log q (by rw [HL.out];omega))
     unfold ent0 at HSN HO
     have hR:=h.below hbr (Nat.le_refl _)
     have cr2:=hR.row.cell 2
     have cr0:wr.cell? ⟨X.gs,0,none⟩=some (.pointer (some ⟨X.gr,0,none⟩)):=by rw [hR.row.cell];rfl
     have cr6:wr.cell? ⟨X.gr,6,none⟩=some (.int .i64 c.sets):=by rw [hR.mrow.cell];rfl
     have z1:=hcs 1 (by omega)
     have z3:=hcs 3 (by omega)
     have z4:=hcs 4 (by omega)
     generalize log.reverse.getD q ⟨0,0,0,0,0,false,false,0,0⟩=e at *
     obtain ⟨et,ewhat,ecore,eline,eway,est,elo,eaddr,eval⟩:=e
     simp only [List.getElem?_cons_zero,List.getElem?_cons_succ] at z1 z3 z4 cr2
     rw [hla] at cr2
     obtain ⟨l0,l1,t0,t1⟩:=HO
     dsimp only at l0 l1 t0 t1
     have HLA:Hid _:=hla
     clear hcs hla hb1
     rcases Bool.eq_false_or_eq_true (ewhat==3) with a1|a1
     ·
      rcases Bool.eq_false_or_eq_true (eline%c.sets==set) with a2 | a2
      ·
       go_wp2_with fail
       go_quiet (fail)
       have hownW:(wr.drewN nq).ownsRow w.heap.size 3 1 (.slice sa ts.length cap) ts.length (ts.map (Value.int .i64)):=owns_same hown (fun _ _=>rfl)
       have OW:Hid _:=hownW
       have HB0:Hid (Below w.heap.size w (wr.drewN nq)):=below_drewN hbr _
       have HNW:Hid (((wr.drewN nq).alloc (.cells #[.int .i64 eway] 3)).heap[wr.heap.size]? = some (.cells #[.int .i64 eway] 3 (0,0))):=heap_alloc_new (wr.drewN nq) _
       have LM:Hid (ts.length+1≤maxLen):=by have:=HTL.out;unfold Hid maxLen;omega
       have L8:Hid ((ts.length+1)*8≤140737488355328):=by have:=HTL.out;unfold Hid;omega
       have LB:Hid (w.heap.size≤((wr.drewN nq).alloc (.cells #[.int .i64 eway] 3)).heap.size):=by
        have:=hbr.size
        unfold Hid
        simp
        omega
       clear hownW hown
       go_wp2_with (at_builtin;refine wpList_append_lies _ rfl _ _ 25 rfl w.heap.size 3 i0 (.int .i64 0) 1 8 Tryz.underlying25 hi0 hz0 hz1 hz2 rfl (by decide) (.slice sa ts.length cap) ts.length (ts.map (Value.int .i64)) rfl ?o1 ⟨wr.heap.size,0,none⟩ 1 1 [.int .i64 eway] ?o9 rfl ?o3 ?o4 (by omega) ?o5 ?o6 ?o7 _ rfl ?o8)
       case o1=>exact World.ownsRow.alloc OW.out _
       case o3=>exact World.news_of_block (cs:=#[.int .i64 eway]) (t:=3) (fr:=(0,0)) HNW.out
       case o4=>simp [Value.oneCell']
       case o5=>exact LM.out
       case o6=>exact L8.out
       case o7=>exact LB.out
       case o9=>rfl
       case o8=>
        intro gg cap2 w4 hown4 hgrow4 hat4 hlt4
        go_wp2
        go_roundw
        case rel=>
         refine ⟨q+1,some ⟨gg,0,none⟩,cap2,ts++[eway],by omega,by go_num,by simp,by rw [HSN.out,← HTS.out];simp [a1,a2],by have:=HTL.out;simp;omega,?_,?_⟩
         · rw [List.length_append,List.map_append];exact hown4
         · exact below_grown (HB0.out.alloc HB0.out.size _) LB.out hgrow4 (fun g hg=>(owns_lt OW.out g hg).2)
        case measure=>simp [intOf];omega
      ·
       go_wp2_with fail
       go_quiet (fail)
       go_wp2
       go_roundw
       case rel=>exact ⟨q+1,sa,cap,ts,by omega,by go_num,rfl,by rw [HSN.out,← HTS.out];simp [a1,a2],by have:=HTL.out;omega,owns_same hown (fun _ _=>rfl),below_drewN hbr _⟩
       case measure=>simp [intOf];omega
     ·
      go_wp2_with fail
      go_quiet (fail)
      go_wp2
      go_roundw
      case rel=>exact ⟨q+1,sa,cap,ts,by omega,by go_num,rfl,by rw [HSN.out,← HTS.out];simp [a1],by have:=HTL.out;omega,owns_same hown (fun _ _=>rfl),below_drewN hbr _⟩
      case measure=>simp [intOf];omega
    ·
     have eq:q=X.ll:=by omega
     have cr2:=(h.below hbr (Nat.le_refl _)).row.cell 2
     simp only [List.getElem?_cons_zero,List.getElem?_cons_succ] at cr2
     go_wp2_with fail
     refine (rvictim_any _ _ _ _ ts _ (owns_ints hown) HN.out).mono ?_;rintro e w2 ⟨rfl,rfl⟩
     go_wp2
     go_ret
     refine ⟨ret_int ?_,hbr⟩
     rw [HV.out,HTS.out]
     unfold touchedF
     rw [List.take_of_length_le (by rw [List.length_reverse,HL.out];omega)]
def QAt (w:World)(base:Nat)(X:SLoc)(qu:List Int):Prop:=
 X.ql=qu.length∧((X.qa=none∧X.qc=0∧qu=[])∨∃ (g off:Nat) (cur:List Value),X.qa=some ⟨g,off,none⟩∧base≤g∧Row w g cur 3∧X.ql≤X.qc∧X.qc≤maxLen∧off+X.qc≤cur.length∧(∀ i,i<X.ql→cur[off+i]? = some (.int .i64 (qu.getD i 0)))∧g≠X.gn∧g≠X.gf∧g≠X.gb∧g≠X.gh)
structure SoloM (w:World)(base:Nat)(X:SLoc)(S:So):Prop where
 row:Row w X.gs (soloL X) 126
 bs:base≤X.gs
 log:w.ownsRow base 132 9 (.slice X.la X.ll X.lc) S.log.length (logL S.log.reverse)
 ll:X.ll=S.log.length
 evs:w.ownsRow base 58 6 (.slice X.ea X.el X.ec) S.evs.length (evsL S.evs)
 el:X.el=S.evs.length
 nx:Row w X.gn (S.next.map (Value.int .i64)) 3
 nl:S.next.length=X.n
 nb:base≤X.gn
 fx:Row w X.gf (S.free.map (Value.int .i64)) 3
 fl:S.free.length=X.n
 fb:base≤X.gf
 bx:Row w X.gb (S.began.map (Value.int .i64)) 3
 bl:S.began.length=X.n
 bb:base≤X.gb
 hx:Row w X.gh (S.how.map (Value.int .i64)) 3
 hl:S.how.length=X.n
 hb:base≤X.gh
 dis:X.gn≠X.gf∧X.gn≠X.gb∧X.gn≠X.gh∧X.gf≠X.gb∧X.gf≠X.gh∧X.gb≠X.gh
 q:QAt w base X S.queue
theorem QAt.same {w w':World}{base:Nat}{X:SLoc}{qu:List Int}(h:QAt w base X qu)(hs:∀ g A,Row w g A 3→Row w' g A 3):QAt w' base X qu:=by
 obtain ⟨h1,h2⟩:=h
 refine ⟨h1,?_⟩
 rcases h2 with h2|⟨g,off,cur,a1,a2,a3,r⟩
 · exact Or.inl h2
 · exact Or.inr ⟨g,off,cur,a1,a2,hs g cur a3,r⟩
theorem SoloM.below {w w':World}{base n:Nat}{X:SLoc}{S:So}(h:SoloM w base X S)(hb:Below n w w')(hn:w.heap.size≤n):SoloM w' base X S:=by
 have n1:∀ {g A t},Row w g A t→Row w' g A t:=fun hr=>hr.below hb (Nat.lt_of_lt_of_le hr.lt hn)
 refine ⟨n1 h.row,h.bs,owns_same h.log fun g hg=>hb.block g (Nat.lt_of_lt_of_le (owns_lt h.log g hg).1 hn),h.ll,owns_same h.evs fun g hg=>hb.block g (Nat.lt_of_lt_of_le (owns_lt h.evs g hg).1 hn),h.el,n1 h.nx,h.nl,h.nb,n1 h.fx,h.fl,h.fb,n1 h.bx,h.bl,h.bb,n1 h.hx,h.hl,h.hb,h.dis,h.q.same fun g A hr=>n1 hr⟩
theorem owns_cell {w:World}{base:Nat}{e:TypeId}{size:Nat}{sa:Option Addr}{len cap n:Nat}{xs:List Value}(h:w.ownsRow base e size (.slice sa len cap) n xs)(hn:0<n):∃ g,sa=some ⟨g,0,none⟩∧len=n∧base≤g∧g<w.heap.size∧∀ m,m<n*size→w.cell? ⟨g,m,none⟩=xs[m]? := by
 obtain ⟨h1,h2⟩:=h
 rcases h2 with ⟨h3,h4⟩|⟨g,cap',cur,hv,hg,hh,hn',hm,hs,ht⟩
 · omega
 ·
  simp only [Value.slice.injEq] at hv
  obtain ⟨e1,e2,e3⟩:=hv
  have hr:Row w g cur.toList e:=by unfold Row;simpa using hh
  refine ⟨g,e1,e2,hg,hr.lt,fun m hm2=>?_⟩
  rw [hr.cell,← ht,List.getElem?_take,if_pos hm2]
theorem SoloM.logAt {w:World}{base:Nat}{X:SLoc}{S:So}(h:SoloM w base X S)(hm:X.ll≤100000):LogAt w X.la X.ll S.log:=by
 refine ⟨h.ll.symm,hm,fun i hi=>?_⟩
 have hi2:i<S.log.length:=by rw [← h.ll];exact hi
 obtain ⟨g,e1,e2,e3,e4,e5⟩:=owns_cell h.log (by omega)
 refine ⟨g,e1,e4,fun j hj=>?_⟩
 rw [e5 _ (by have:(i+1)*9≤S.log.length*9:=Nat.mul_le_mul_right _ hi2;omega)]
 unfold logL
 rw [flat_at entL 9 (fun _=>rfl) _ i j hj]
 have:i<S.log.reverse.length:=by simpa using hi2
 rw [List.getElem?_eq_getElem this,List.getD_eq_getElem?_getD,List.getElem?_eq_getElem this]
 rfl
def KeepP (w w':World):Prop:=∀ g A,Row w g A 69→Row w' g A 69
theorem KeepP.below {w w':World}{n:Nat}(hb:Below n w w')(hn:w.heap.size≤n):KeepP w w':=fun _ _ h=>h.below hb (Nat.lt_of_lt_of_le h.lt hn)
theorem KeepP.trans {a b c:World}(h:KeepP a b)(k:KeepP b c):KeepP a c:=fun g A hg=>k g A (h g A hg)
theorem KeepP.setCell {w:World}{g:Nat}{B:List Value}{t:TypeId}(h:Row w g B t)(ht:t≠69)(i:Nat)(v:Value):KeepP w (w.setCell ⟨g,i,none⟩ v):=fun k A hA=>
 hA.setCellOther _ _ (fun e=>by subst e;exact ht (row_type h hA))
theorem Tryz.infoEntry:(Tryz.prog.info? 132).map (fun i=>(i.zero,i.size,i.bytes))=some (some (.agg #[.int .i64 0,.int .i64 0,.int .i64 0,.int .i64 0,.int .i64 0,.bool false,.bool false,.int .i64 0,.int .i64 0]),9,64):=by kernel_rfl
theorem SoloM.grow {X0 w1:World}{base gg cap:Nat}{X:SLoc}{S:So}{e:Ent}(h:SoloM X0 base X S)(hbase:base≤X0.heap.size)(hgrow:X0.grownBy w1 (Value.slice X.la X.ll X.lc).ownBlock)
  (hown:w1.ownsRow base 132 9 (.slice (some ⟨gg,0,none⟩) (S.log.length+1) cap) (S.log.length+1) (logL S.log.reverse++entL e)) :
  SoloM (w1.setCell ⟨X.gs,2,none⟩ (.slice (some ⟨gg,0,none⟩) (S.log.length+1) cap)) base { X with la:=some ⟨gg,0,none⟩,ll:=S.log.length+1,lc:=cap } (S.told e)∧Below base X0 (w1.setCell ⟨X.gs,2,none⟩ (.slice (some ⟨gg,0,none⟩) (S.log.length+1) cap))∧KeepP X0 (w1.setCell ⟨X.gs,2,none⟩ (.slice (some ⟨gg,0,none⟩) (S.log.length+1) cap)):=by
 have n0:∀ {g A t},Row X0 g A t→t≠132→Row w1 g A t:=fun hr ht=>by
  unfold Row
  rw [hgrow.block _ hr.lt (fun he=>own_ne h.log hr ht he.symm)]
  exact hr
 have r1:=n0 h.row (by decide)
 have n1:∀ {g A t},Row X0 g A t→t≠132→t≠126→Row (w1.setCell ⟨X.gs,2,none⟩ (.slice (some ⟨gg,0,none⟩) (S.log.length+1) cap)) g A t:=fun hr ht hs=>
  (n0 hr ht).setCellOther _ _ (fun e=>by subst e;exact hs (row_type (n0 hr ht) r1))
 have ev1:w1.ownsRow base 58 6 (.slice X.ea X.el X.ec) S.evs.length (evsL S.evs):=
  owns_same h.evs fun g hg=>hgrow.block g (owns_lt h.evs g hg).1 (fun he=>owns_apart h.evs h.log (by decide) g hg he.symm)
 refine ⟨⟨r1.setCell 2 _,h.bs,?_,by simp [So.told],?_,h.el,n1 h.nx (by decide) (by decide),h.nl,h.nb,n1 h.fx (by decide) (by decide),h.fl,h.fb,n1 h.bx (by decide) (by decide),h.bl,h.bb,n1 h.hx (by decide) (by decide),h.hl,h.hb,h.dis,?_⟩,?_,fun g A hr=>n1 hr (by decide) (by decide)⟩
 ·
  have hs:(S.told e).log.length=S.log.length+1:=by simp [So.told]
  have hL:logL (S.told e).log.reverse=logL S.log.reverse++entL e:=by simp [So.told,logL]
  rw [hs,hL]
  refine owns_same hown fun g hg=>Below.heap_setCell _ _ _ _ ?_
  intro he
  subst he
  exact own_ne hown r1 (by decide) hg
 ·
  refine owns_same ev1 fun g hg=>Below.heap_setCell _ _ _ _ ?_
  intro he
  subst he
  exact own_ne ev1 r1 (by decide) hg
 · exact h.q.same fun g A hr=>n1 hr (by decide) (by decide)
 · exact (below_grown (Below.refl base X0) hbase hgrow (fun g hg=>(owns_lt h.log g hg).2)).setCell h.bs _
set_option maxHeartbeats 3200000 in
theorem rtold_any (base:Nat)(X:SLoc)(S:So)(e:Ent)(w:World)(h:SoloM w base X S)(hn:S.log.length≤90000) :
  Calls Tryz.prog 127 #[.pointer (some ⟨X.gs,0,none⟩),.agg #[.int .i64 e.t,.int .i64 e.what,.int .i64 e.core,.int .i64 e.line,.int .i64 e.way,.bool e.st,.bool e.lo,.int .i64 e.addr,.int .i64 e.val]] w fun x w'=>x = .returned (.tuple #[])∧∃ la lc,SoloM w' base { X with la:=la,ll:=S.log.length+1,lc:=lc } (S.told e)∧Below base w w'∧KeepP w w':=by
 obtain ⟨et,ewhat,ecore,eline,eway,est,elo,eaddr,eval⟩:=e
 dsimp only
 obtain ⟨i0,hi0,hz0,hz1,hz2⟩:=info_parts Tryz.infoEntry
 have lg:=h.row.lt
 have ag:=own_ne h.log h.row (by decide)
 have hbase:base≤w.heap.size:=by have:=h.bs;omega
 have LM:Hid (S.log.length+1≤maxLen):=by unfold Hid maxLen;omega
 have L8:Hid ((S.log.length+1)*64≤140737488355328):=by unfold Hid;omega
 clear hn
 go_enter Tryz.func127,Tryz.ntmps127
 go_wp2_with fail
 have rO:Row (w.alloc (.cells #[.int .i64 et,.int .i64 ewhat,.int .i64 ecore,.int .i64 eline,.int .i64 eway,.bool est,.bool elo,.int .i64 eaddr,.int .i64 eval] 132)) w.heap.size [.int .i64 et,.int .i64 ewhat,.int .i64 ecore,.int .i64 eline,.int .i64 eway,.bool est,.bool elo,.int .i64 eaddr,.int .i64 eval] 132:=heap_alloc_new w _
 have b1:Below w.heap.size w (w.alloc (.cells #[.int .i64 et,.int .i64 ewhat,.int .i64 ecore,.int .i64 eline,.int .i64 eway,.bool est,.bool elo,.int .i64 eaddr,.int .i64 eval] 132)):=(Below.refl _ _).alloc (Nat.le_refl _) _
 have h1:=h.below b1 (Nat.le_refl _)
 have sz1:(w.alloc (.cells #[.int .i64 et,.int .i64 ewhat,.int .i64 ecore,.int .i64 eline,.int .i64 eway,.bool est,.bool elo,.int .i64 eaddr,.int .i64 eval] 132)).heap.size=w.heap.size+1:=by simp
 have SZ:Hid _:=sz1
 clear sz1
 generalize w.alloc (.cells #[.int .i64 et,.int .i64 ewhat,.int .i64 ecore,.int .i64 eline,.int .i64 eway,.bool est,.bool elo,.int .i64 eaddr,.int .i64 eval] 132)=W at *
 have c2:W.cell? ⟨X.gs,2,none⟩=some (.slice X.la X.ll X.lc):=by rw [h1.row.cell];rfl
 have f2:W.frozen? ⟨X.gs,2,none⟩=false:=h1.row.frozen 2
 have d0:W.cell? ⟨w.heap.size,0,none⟩=some (.int .i64 et):=by rw [rO.cell];rfl
 have d1:W.cell? ⟨w.heap.size,1,none⟩=some (.int .i64 ewhat):=by rw [rO.cell];rfl
 have d2:W.cell? ⟨w.heap.size,2,none⟩=some (.int .i64 ecore):=by rw [rO.cell];rfl
 have d3:W.cell? ⟨w.heap.size,3,none⟩=some (.int .i64 eline):=by rw [rO.cell];rfl
 have d4:W.cell? ⟨w.heap.size,4,none⟩=some (.int .i64 eway):=by rw [rO.cell];rfl
 have d5:W.cell? ⟨w.heap.size,5,none⟩=some (.bool est):=by rw [rO.cell];rfl
 have d6:W.cell? ⟨w.heap.size,6,none⟩=some (.bool elo):=by rw [rO.cell];rfl
 have d7:W.cell? ⟨w.heap.size,7,none⟩=some (.int .i64 eaddr):=by rw [rO.cell];rfl
 have d8:W.cell? ⟨w.heap.size,8,none⟩=some (.int .i64 eval):=by rw [rO.cell];rfl
 have l1:=h1.row.lt
 have l2:=rO.lt
 have row1:=h1.row
 have hown1:=h1.log
 have hbW:base≤W.heap.size:=by have:=b1.size;omega
 go_region_law
  ((refine step_append_lies _ (by rfl) _ _ _ (by rfl) base 132 i0 _ 9 64 Tryz.underlying124 hi0 hz0 hz1 hz2 rfl (by omega) (.slice X.la X.ll X.lc) S.log.length (logL S.log.reverse) (by rfl) ((hown1.alloc _).drew) ⟨W.heap.size,0,none⟩ 1 1 [.int .i64 et,.int .i64 ewhat,.int .i64 ecore,.int .i64 eline,.int .i64 eway,.bool est,.bool elo,.int .i64 eaddr,.int .i64 eval] (by rfl) (by rfl) (World.news_of_block (cs:=#[.int .i64 et,.int .i64 ewhat,.int .i64 ecore,.int .i64 eline,.int .i64 eway,.bool est,.bool elo,.int .i64 eaddr,.int .i64 eval]) (t:=132) (fr:=(0,0)) (heap_alloc_new W _)) (by simp [Value.oneCell']) (by omega) LM.out L8.out (by simp;omega) (W.heap.size+1) (by simp) ?_;intro gg cap w1 hown2 hgrow hat hlt;have f2:w1.frozen? ⟨X.gs,2,none⟩=false:=(hgrow.frozen_far ⟨X.gs,2,none⟩ (by simp;omega) (Ne.symm ag)).trans ((row1.alloc _).frozen 2);have c3:w1.cell? ⟨X.gs,2,none⟩=some (.slice X.la X.ll X.lc):=(hgrow.cell_far ⟨X.gs,2,none⟩ (by simp;omega) (Ne.symm ag)).trans ((row1.alloc _).cell 2)))
 all_goals go_wp2
 all_goals refine bodyPost_end (results_none rfl _ _ _) rfl ?_
 all_goals
  have hX:SoloM (W.alloc (.cells #[.int .i64 et,.int .i64 ewhat,.int .i64 ecore,.int .i64 eline,.int .i64 eway,.bool est,.bool elo,.int .i64 eaddr,.int .i64 eval] 132)).drew base X S:=(h1.below ((Below.refl _ _).alloc (Nat.le_refl _) _) (Nat.le_refl _)).below ((Below.refl _ _).drew) (Nat.le_refl _)
  obtain ⟨g1,g2,g3⟩:=hX.grow (e:=⟨et,ewhat,ecore,eline,eway,est,elo,eaddr,eval⟩) (by have:=hX.row.lt;have:=h.bs;omega) hgrow hown2
  exact ⟨rfl,some ⟨gg,0,none⟩,cap,g1,((((b1.mono hbase).alloc hbW _)).drew).trans g2,((KeepP.below b1 (Nat.le_refl _)).trans (KeepP.below ((Below.refl _ _).alloc (Nat.le_refl _) _) (Nat.le_refl _))).trans ((KeepP.below ((Below.refl _ _).drew) (Nat.le_refl _)).trans g3)⟩
theorem Tryz.infoEvent:(Tryz.prog.info? 58).map (fun i=>(i.zero,i.size,i.bytes))=some (some (.agg #[.int .i64 0,.int .i64 0,.int .i64 0,.int .i64 0,.int .i64 0,.int .i64 0]),6,48):=by kernel_rfl
theorem row_int {w:World}{g:Nat}{xs:List Int}{t:TypeId}(h:Row w g (xs.map (Value.int .i64)) t){k:Nat}(hk:k<xs.length):w.cell? ⟨g,k,none⟩=some (.int .i64 (xs.getD k 0)):=by
 rw [h.cell,List.getElem?_map,List.getElem?_eq_getElem hk]
 simp [List.getD,List.getElem?_eq_getElem hk]
theorem SoloM.setN {w:World}{base:Nat}{X:SLoc}{S:So}(h:SoloM w base X S)(k:Nat)(v:Int):SoloM (w.setCell ⟨X.gn,k,none⟩ (.int .i64 v)) base X { S with next:=S.next.set k v }:=by
 obtain ⟨d1,d2,d3,d4,d5,d6⟩:=h.dis
 have n1:∀ {g A t},Row w g A t→g≠X.gn→Row (w.setCell ⟨X.gn,k,none⟩ (.int .i64 v)) g A t:=fun hr ht=>hr.setCellOther _ _ ht
 have n2:∀ {g A t},Row w g A t→t≠3→Row (w.setCell ⟨X.gn,k,none⟩ (.int .i64 v)) g A t:=fun hr ht=>hr.setCellOther _ _ (fun e=>by subst e;exact ht (row_type hr h.nx))
 have own:Row (w.setCell ⟨X.gn,k,none⟩ (.int .i64 v)) X.gn ((S.next.set k v).map (Value.int .i64)) 3:=by
  rw [List.map_set];exact h.nx.setCell k _
 refine ⟨n2 h.row (by decide),h.bs,owns_same h.log fun g hg=>Below.heap_setCell _ _ _ _ (fun e=>by subst e;exact own_ne h.log h.nx (by decide) hg),h.ll,owns_same h.evs fun g hg=>Below.heap_setCell _ _ _ _ (fun e=>by subst e;exact own_ne h.evs h.nx (by decide) hg),h.el,own,by simp [h.nl],h.nb,n1 h.fx (Ne.symm d1),h.fl,h.fb,n1 h.bx (Ne.symm d2),h.bl,h.bb,n1 h.hx (Ne.symm d3),h.hl,h.hb,h.dis,?_⟩
 obtain ⟨q1,q2⟩:=h.q
 refine ⟨q1,?_⟩
 rcases q2 with q2|⟨g,off,cur,a1,a2,a3,a4,a5,a6,a7,b1,b2,b3,b4⟩
 · exact Or.inl q2
 · exact Or.inr ⟨g,off,cur,a1,a2,n1 a3 b1,a4,a5,a6,a7,b1,b2,b3,b4⟩
theorem SoloM.setF {w:World}{base:Nat}{X:SLoc}{S:So}(h:SoloM w base X S)(k:Nat)(v:Int):SoloM (w.setCell ⟨X.gf,k,none⟩ (.int .i64 v)) base X { S with free:=S.free.set k v }:=by
 obtain ⟨d1,d2,d3,d4,d5,d6⟩:=h.dis
 have n1:∀ {g A t},Row w g A t→g≠X.gf→Row (w.setCell ⟨X.gf,k,none⟩ (.int .i64 v)) g A t:=fun hr ht=>hr.setCellOther _ _ ht
 have n2:∀ {g A t},Row w g A t→t≠3→Row (w.setCell ⟨X.gf,k,none⟩ (.int .i64 v)) g A t:=fun hr ht=>hr.setCellOther _ _ (fun e=>by subst e;exact ht (row_type hr h.fx))
 have own:Row (w.setCell ⟨X.gf,k,none⟩ (.int .i64 v)) X.gf ((S.free.set k v).map (Value.int .i64)) 3:=by
  rw [List.map_set];exact h.fx.setCell k _
 refine ⟨n2 h.row (by decide),h.bs,owns_same h.log fun g hg=>Below.heap_setCell _ _ _ _ (fun e=>by subst e;exact own_ne h.log h.fx (by decide) hg),h.ll,owns_same h.evs fun g hg=>Below.heap_setCell _ _ _ _ (fun e=>by subst e;exact own_ne h.evs h.fx (by decide) hg),h.el,n1 h.nx d1,h.nl,h.nb,own,by simp [h.fl],h.fb,n1 h.bx (Ne.symm d4),h.bl,h.bb,n1 h.hx (Ne.symm d5),h.hl,h.hb,h.dis,?_⟩
 obtain ⟨q1,q2⟩:=h.q
 refine ⟨q1,?_⟩
 rcases q2 with q2|⟨g,off,cur,a1,a2,a3,a4,a5,a6,a7,b1,b2,b3,b4⟩
 · exact Or.inl q2
 · exact Or.inr ⟨g,off,cur,a1,a2,n1 a3 b2,a4,a5,a6,a7,b1,b2,b3,b4⟩
theorem SoloM.setB {w:World}{base:Nat}{X:SLoc}{S:So}(h:SoloM w base X S)(k:Nat)(v:Int):SoloM (w.setCell ⟨X.gb,k,none⟩ (.int .i64 v)) base X { S with began:=S.began.set k v }:=by
 obtain ⟨d1,d2,d3,d4,d5,d6⟩:=h.dis
 have n1:∀ {g A t},Row w g A t→g≠X.gb→Row (w.setCell ⟨X.gb,k,none⟩ (.int .i64 v)) g A t:=fun hr ht=>hr.setCellOther _ _ ht
 have n2:∀ {g A t},Row w g A t→t≠3→Row (w.setCell ⟨X.gb,k,none⟩ (.int .i64 v)) g A t:=fun hr ht=>hr.setCellOther _ _ (fun e=>by subst e;exact ht (row_type hr h.bx))
 have own:Row (w.setCell ⟨X.gb,k,none⟩ (.int .i64 v)) X.gb ((S.began.set k v).map (Value.int .i64)) 3:=by
  rw [List.map_set];exact h.bx.setCell k _
 refine ⟨n2 h.row (by decide),h.bs,owns_same h.log fun g hg=>Below.heap_setCell _ _ _ _ (fun e=>by subst e;exact own_ne h.log h.bx (by decide) hg),h.ll,owns_same h.evs fun g hg=>Below.heap_setCell _ _ _ _ (fun e=>by subst e;exact own_ne h.evs h.bx (by decide) hg),h.el,n1 h.nx d2,h.nl,h.nb,n1 h.fx d4,h.fl,h.fb,own,by simp [h.bl],h.bb,n1 h.hx (Ne.symm d6),h.hl,h.hb,h.dis,?_⟩
 obtain ⟨q1,q2⟩:=h.q
 refine ⟨q1,?_⟩
 rcases q2 with q2|⟨g,off,cur,a1,a2,a3,a4,a5,a6,a7,b1,b2,b3,b4⟩
 · exact Or.inl q2
 · exact Or.inr ⟨g,off,cur,a1,a2,n1 a3 b3,a4,a5,a6,a7,b1,b2,b3,b4⟩
theorem SoloM.setH {w:World}{base:Nat}{X:SLoc}{S:So}(h:SoloM w base X S)(k:Nat)(v:Int):SoloM (w.setCell ⟨X.gh,k,none⟩ (.int .i64 v)) base X { S with how:=S.how.set k v }:=by
 obtain ⟨d1,d2,d3,d4,d5,d6⟩:=h.dis
 have n1:∀ {g A t},Row w g A t→g≠X.gh→Row (w.setCell ⟨X.gh,k,none⟩ (.int .i64 v)) g A t:=fun hr ht=>hr.setCellOther _ _ ht
 have n2:∀ {g A t},Row w g A t→t≠3→Row (w.setCell ⟨X.gh,k,none⟩ (.int .i64 v)) g A t:=fun hr ht=>hr.setCellOther _ _ (fun e=>by subst e;exact ht (row_type hr h.hx))
 have own:Row (w.setCell ⟨X.gh,k,none⟩ (.int .i64 v)) X.gh ((S.how.set k v).map (Value.int .i64)) 3:=by
  rw [List.map_set];exact h.hx.setCell k _
 refine ⟨n2 h.row (by decide),h.bs,owns_same h.log fun g hg=>Below.heap_setCell _ _ _ _ (fun e=>by subst e;exact own_ne h.log h.hx (by decide) hg),h.ll,owns_same h.evs fun g hg=>Below.heap_setCell _ _ _ _ (fun e=>by subst e;exact own_ne h.evs h.hx (by decide) hg),h.el,n1 h.nx d3,h.nl,h.nb,n1 h.fx d5,h.fl,h.fb,n1 h.bx d6,h.bl,h.bb,own,by simp [h.hl],h.hb,h.dis,?_⟩
 obtain ⟨q1,q2⟩:=h.q
 refine ⟨q1,?_⟩
 rcases q2 with q2|⟨g,off,cur,a1,a2,a3,a4,a5,a6,a7,b1,b2,b3,b4⟩
 · exact Or.inl q2
 · exact Or.inr ⟨g,off,cur,a1,a2,n1 a3 b4,a4,a5,a6,a7,b1,b2,b3,b4⟩
theorem SoloM.growE {X0 w1:World}{base gg cap:Nat}{X:SLoc}{S:So}{e:Ev}(h:SoloM X0 base X S)(hbase:base≤X0.heap.size)(hgrow:X0.grownBy w1 (Value.slice X.ea X.el X.ec).ownBlock)
  (hown:w1.ownsRow base 58 6 (.slice (some ⟨gg,0,none⟩) (S.evs.length+1) cap) (S.evs.length+1) (evsL S.evs++evL e)) :
  SoloM (w1.setCell ⟨X.gs,3,none⟩ (.slice (some ⟨gg,0,none⟩) (S.evs.length+1) cap)) base { X with ea:=some ⟨gg,0,none⟩,el:=S.evs.length+1,ec:=cap } { S with evs:=S.evs++[e] }∧Below base X0 (w1.setCell ⟨X.gs,3,none⟩ (.slice (some ⟨gg,0,none⟩) (S.evs.length+1) cap))∧KeepP X0 (w1.setCell ⟨X.gs,3,none⟩ (.slice (some ⟨gg,0,none⟩) (S.evs.length+1) cap)):=by
 have n0:∀ {g A t},Row X0 g A t→t≠58→Row w1 g A t:=fun hr ht=>by
  unfold Row
  rw [hgrow.block _ hr.lt (fun he=>own_ne h.evs hr ht he.symm)]
  exact hr
 have r1:=n0 h.row (by decide)
 have n1:∀ {g A t},Row X0 g A t→t≠58→t≠126→Row (w1.setCell ⟨X.gs,3,none⟩ (.slice (some ⟨gg,0,none⟩) (S.evs.length+1) cap)) g A t:=fun hr ht hs=>
  (n0 hr ht).setCellOther _ _ (fun e=>by subst e;exact hs (row_type (n0 hr ht) r1))
 have lo1:w1.ownsRow base 132 9 (.slice X.la X.ll X.lc) S.log.length (logL S.log.reverse):=
  owns_same h.log fun g hg=>hgrow.block g (owns_lt h.log g hg).1 (fun he=>owns_apart h.log h.evs (by decide) g hg he.symm)
 refine ⟨⟨r1.setCell 3 _,h.bs,?_,h.ll,?_,by simp,n1 h.nx (by decide) (by decide),h.nl,h.nb,n1 h.fx (by decide) (by decide),h.fl,h.fb,n1 h.bx (by decide) (by decide),h.bl,h.bb,n1 h.hx (by decide) (by decide),h.hl,h.hb,h.dis,?_⟩,?_,fun g A hr=>n1 hr (by decide) (by decide)⟩
 ·
  refine owns_same lo1 fun g hg=>Below.heap_setCell _ _ _ _ ?_
  intro he
  subst he
  exact own_ne lo1 r1 (by decide) hg
 ·
  have hs:(S.evs++[e]).length=S.evs.length+1:=by simp
  have hL:evsL (S.evs++[e])=evsL S.evs++evL e:=by simp [evsL]
  show World.ownsRow _ base 58 6 _ (S.evs++[e]).length (evsL (S.evs++[e]))
  rw [hs,hL]
  refine owns_same hown fun g hg=>Below.heap_setCell _ _ _ _ ?_
  intro he
  subst he
  exact own_ne hown r1 (by decide) hg
 · exact h.q.same fun g A hr=>n1 hr (by decide) (by decide)
 · exact (below_grown (Below.refl base X0) hbase hgrow (fun g hg=>(owns_lt h.evs g hg).2)).setCell h.bs _
theorem SoloM.pop {w:World}{base:Nat}{X:SLoc}{S:So}{k:Int}{q:List Int}{qg qoff:Nat}{qcur:List Value}(h:SoloM w base X S)(hq:S.queue=k::q)(a2:base≤qg)(a3:Row w qg qcur 3)(a4:X.ql≤X.qc)(a5:X.qc≤maxLen)(a6:qoff+X.qc≤qcur.length)
  (a7:∀ i,i<X.ql→qcur[qoff+i]? = some (.int .i64 (S.queue.getD i 0))) (b:qg≠X.gn∧qg≠X.gf∧qg≠X.gb∧qg≠X.gh) (off' cap' m:Nat) (hm:m=q.length) (hc:(X.qc=1∧off'=qoff∧cap'=0)∨(off'=qoff+1∧cap'=X.qc-1)) :
  SoloM (w.setCell ⟨X.gs,8,none⟩ (.slice (some ⟨qg,off',none⟩) m cap')) base { X with qa:=some ⟨qg,off',none⟩,ql:=m,qc:=cap' } { S with queue:=q }∧Below base w (w.setCell ⟨X.gs,8,none⟩ (.slice (some ⟨qg,off',none⟩) m cap'))∧KeepP w (w.setCell ⟨X.gs,8,none⟩ (.slice (some ⟨qg,off',none⟩) m cap')):=by
 subst hm
 have n1:∀ {g A t},Row w g A t→t≠126→Row (w.setCell ⟨X.gs,8,none⟩ (.slice (some ⟨qg,off',none⟩) q.length cap')) g A t:=fun hr ht=>
  hr.setCellOther _ _ (fun e=>by subst e;exact ht (row_type hr h.row))
 have ql:X.ql=q.length+1:=by rw [h.q.1,hq];rfl
 refine ⟨⟨h.row.setCell 8 _,h.bs,owns_same h.log fun g hg=>Below.heap_setCell _ _ _ _ (fun e=>by subst e;exact own_ne h.log h.row (by decide) hg),h.ll,owns_same h.evs fun g hg=>Below.heap_setCell _ _ _ _ (fun e=>by subst e;exact own_ne h.evs h.row (by decide) hg),h.el,n1 h.nx (by decide),h.nl,h.nb,n1 h.fx (by decide),h.fl,h.fb,n1 h.bx (by decide),h.bl,h.bb,n1 h.hx (by decide),h.hl,h.hb,h.dis,⟨rfl,Or.inr ⟨qg,off',qcur,rfl,a2,n1 a3 (by decide),?_,?_,?_,?_,b.1,b.2.1,b.2.2.1,b.2.2.2⟩⟩⟩,(Below.refl base w).setCell h.bs _,KeepP.setCell h.row (by decide) _ _⟩
 ·
  show q.length≤cap'
  omega
 ·
  show cap'≤maxLen
  omega
 ·
  show off'+cap'≤qcur.length
  omega
 ·
  intro i hi
  have hi2:i<q.length:=hi
  show qcur[off'+i]? = some (.int .i64 (q.getD i 0))
  have:=a7 (i+1) (by omega)
  rw [hq] at this
  rcases hc with hc|hc
  · omega
  ·
   rw [hc.1,show qoff+1+i=qoff+(i+1) by omega,this]
   rfl
end Go.Proofs.YtehheaedbnfidaaGreat
