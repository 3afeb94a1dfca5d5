import Derived.Test.YtehheaedbnfidaaGreatClConf5
set_option maxRecDepth 100000
namespace Go.Proofs.YtehheaedbnfidaaGreat
open Go.RowKit
theorem ret_ib {k:IntKind}{a b:Int}{p q:Bool}(h:a=b)(g:p=q):Ending.returned (.tuple #[.int k a,.bool p]) = .returned (.tuple #[.int k b,.bool q]):=by rw [h,g]
set_option maxHeartbeats 1600000 in
theorem cowner_any (c:Cf)(s:Sl)(i:Nat)(t:Int)(w:World)(h:CfgAt w c s)(hz:chk c=0)(hi:(i:Int)<c.cores)(t0:0≤t)(tm:t≤10000) :
  Calls Tryz.prog 119 #[cfgV c s,.int .i64 i,.int .i64 t] w fun e w'=>e = .returned (.tuple #[.int .i64 (turnZ c i t),.bool (openB c i (turnZ c i t) t)])∧Below w.heap.size w w':=by
 have k0:=Kept.start w (cfgA c s) 43
 have htl:=h.turns.hlen
 have htle:=h.turns.hle
 have htm:=h.turns.hmax
 unfold maxLen at htm
 have R:=right_of hz
 obtain ⟨c1,c2,d1,d2,s1,s2,t1,t2,w0,w1,f1,f2,q1,q2,tl,each⟩:=R
 have R:=right_of hz
 have tl':(s.tl:Int)=c.cores:=by rw [← htl];exact tl
 have HT:Hid _:=tl'
 have HTL:Hid _:=htl
 have tl3:s.tl≤3:=by omega
 have hi2:i<s.tl:=by omega
 obtain ⟨b,off,ia,il,ic,hta,hc,hints⟩:=h.turns.hat i hi2
 have hrow:=grid_row R (show i<c.turns.length by rw [HTL.out];exact hi2)
 have hlen:=hints.hlen
 have ile:=hints.hle
 have hil:il≤4:=by omega
 have hil0:1≤il:=by omega
 have HBD:b<w.heap.size:=cell_lt hc
 obtain ⟨wa,wl,wc,sa,sl,sc,ta,tl,tc⟩:=s
 dsimp only at *
 subst hta
 have hz2:turnZ c i t=(c.turns.getD i []).getD (t / c.quantum%((c.turns.getD i []).length:Int)).toNat 0:=rfl
 rw [hlen] at hz2
 obtain ⟨j,hj,hjl⟩:=mod_nat (a:=t / c.quantum) (n:=il) (by omega)
 rw [hj,Int.toNat_natCast] at hz2
 obtain ⟨b2,off2,hia,hc2⟩:=hints.hat j hjl
 subst hia
 have HZ2:Hid _:=hz2
 have HBD2:b2<w.heap.size:=cell_lt hc2
 have y1:0<c.quantum:=by omega
 have y2:0≤t / c.quantum:=Int.ediv_nonneg t0 (by omega)
 have y3:t / c.quantum≤t:=Int.ediv_le_self _ t0
 have i1:(0:Int)<(il:Int):=by omega
 have iz:((il:Int)==0)=false:=by simp;omega
 have HO:Hid (openB c i (turnZ c i t) t=(decide (0≤turnZ c i t)&&decide (t%c.quantum<c.quantum-c.flush-worstZ c))):=by
  unfold Hid openB;simp
 rw [hz2] at HO
 rw [hz2]
 generalize (c.turns.getD i []).getD j 0=v at *
 clear hz hz2 hlen hrow tl' htl each
 by_cases a5:0≤v
 ·
  have HO2:Hid (openB c i v t=decide (t%c.quantum<c.quantum-c.flush-worstZ c)):=by
   unfold Hid;rw [HO.out,decide_eq_true a5];rfl
  go_enter Tryz.func119,Tryz.ntmps119
  go_wp2_with fail
  have cf:=(h.below k0.below (Nat.le_refl _)).drew
  have k1d:=k0.drew
  go_region_with (go_at_call 76;refine (worst_any c _ _ cf R.c1 R.c2 R.s1 R.s2 R.t2).mono ?_;rintro e w2 ⟨rfl,hb2⟩;have k2:=k1d.next hb2 rfl;have q2:=k2.box)
  all_goals go_wp2
  all_goals go_ret2
  all_goals exact ⟨ret_ib rfl HO2.out.symm,k2.below⟩
 ·
  have HO2:Hid (openB c i v t=false):=by
   unfold Hid;rw [HO.out,decide_eq_false a5];rfl
  have a5':decide (0≤v)=false:=decide_eq_false a5
  go_enter Tryz.func119,Tryz.ntmps119
  go_wp2_with fail
  go_quiet (fail)
  go_wp2
  go_ret2
  exact ⟨ret_ib rfl HO2.out.symm,below_drewN k0.below _⟩
set_option maxHeartbeats 1600000 in
theorem cflushes_any (c:Cf)(s:Sl)(t:Int)(w:World)(hz:chk c=0)(t0:0≤t)(tm:t≤10000) :
  Calls Tryz.prog 143 #[cfgV c s,.int .i64 t] w fun e w'=>e = .returned (.bool (flushesB c t))∧Below w.heap.size w w':=by
 have k0:=Kept.start w (cfgA c s) 43
 obtain ⟨c1,c2,d1,d2,s1,s2,t1,t2,w0,w1,f1,f2,q1,q2,tl,each⟩:=right_of hz
 have y1:0<c.quantum:=by omega
 have y2:1≤c.quantum:=by omega
 have wq:IntKind.i64.wrap (c.quantum-c.flush)=c.quantum-c.flush:=by rw [IntKind.wrap_i64];omega
 have m1:0≤t%c.quantum:=Int.emod_nonneg _ (by omega)
 have m2:t%c.quantum<c.quantum:=Int.emod_lt_of_pos _ y1
 have wm:IntKind.i64.wrap (t%c.quantum)=t%c.quantum:=by rw [IntKind.wrap_i64];omega
 have HF:Hid (flushesB c t=(t%c.quantum==c.quantum-c.flush)):=by
  unfold Hid flushesB
  by_cases e:t%c.quantum=c.quantum-c.flush <;> simp [e]
 clear hz each tl
 go_enter Tryz.func143,Tryz.ntmps143
 go_wp2_with fail
 go_quiet (fail)
 go_wp2
 go_ret
 exact ⟨ret_bool HF.out.symm,below_drewN k0.below _⟩
set_option maxHeartbeats 1600000 in
theorem cserved_any (c:Cf)(s:Sl)(t:Int)(w:World)(h:CfgAt w c s)(hz:chk c=0)(t0:0≤t)(tm:t≤10000) :
  Calls Tryz.prog 147 #[cfgV c s,.int .i64 t] w fun e w'=>e = .returned (.int .i64 (servedF c t))∧Below w.heap.size w w':=by
 have k0:=Kept.start w (cfgA c s) 43
 obtain ⟨c1,c2,d1,d2,s1,s2,t1,t2,w0,w1,f1,f2,q1,q2,tl,each⟩:=right_of hz
 have hsl:=h.slots.hlen
 have hsle:=h.slots.hle
 have sl8:s.sl≤8:=by omega
 have sl0:1≤s.sl:=by omega
 have iz:((s.sl:Int)==0)=false:=by simp;omega
 have y1:0<c.slot:=by omega
 have y2:0≤t / c.slot:=Int.ediv_nonneg t0 (by omega)
 have y3:t / c.slot≤t:=Int.ediv_le_self _ t0
 have m1:0≤t%c.slot:=Int.emod_nonneg _ (by omega)
 have m2:t%c.slot<c.slot:=Int.emod_lt_of_pos _ y1
 have wm:IntKind.i64.wrap (t%c.slot)=t%c.slot:=by rw [IntKind.wrap_i64];omega
 have ws:IntKind.i64.wrap (c.slot-1)=c.slot-1:=by rw [IntKind.wrap_i64];omega
 have wd:IntKind.i64.wrap (t / c.slot)=t / c.slot:=by rw [IntKind.wrap_i64];omega
 obtain ⟨j,hj,hjl⟩:=mod_nat (a:=t / c.slot) (n:=s.sl) (by omega)
 obtain ⟨b,off,hsa,hc⟩:=h.slots.hat j hjl
 have HBD:b<w.heap.size:=cell_lt hc
 have HV:Hid (servedF c t=if t%c.slot=c.slot-1 then c.slots.getD j 0 else -1):=by
  unfold Hid servedF
  rw [hsl,hj,Int.toNat_natCast]
 generalize c.slots.getD j 0=v at *
 obtain ⟨wa,wl,wc,sa,sl,sc,ta,tl,tc⟩:=s
 dsimp only at *
 subst hsa
 clear hz each hsl h
 by_cases a1:t%c.slot=c.slot-1
 ·
  have HV2:Hid _:=HV.out
  rw [if_pos a1] at HV2
  have a1b:(t%c.slot==c.slot-1)=true:=by simp [a1]
  clear a1
  go_enter Tryz.func147,Tryz.ntmps147
  go_wp2_with fail
  go_quiet (fail)
  go_wp2_with fail
  go_quiet (fail)
  go_wp2
  go_ret
  exact ⟨ret_int HV2.out.symm,below_drewN (below_drewN k0.below _) _⟩
 ·
  have HV2:Hid _:=HV.out
  rw [if_neg a1] at HV2
  have a1b:(t%c.slot==c.slot-1)=false:=by simp [a1]
  go_enter Tryz.func147,Tryz.ntmps147
  go_wp2_with fail
  go_quiet (fail)
  go_wp2
  go_ret
  exact ⟨ret_int HV2.out.symm,below_drewN k0.below _⟩
end Go.Proofs.YtehheaedbnfidaaGreat
