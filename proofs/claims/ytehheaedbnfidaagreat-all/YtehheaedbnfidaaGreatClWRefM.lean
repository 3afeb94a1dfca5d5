import Derived.Test.YtehheaedbnfidaaGreatClWLent4
import Derived.Test.YtehheaedbnfidaaGreatClBound
set_option maxRecDepth 100000
namespace Go.Proofs.YtehheaedbnfidaaGreat
open Go.RowKit
abbrev machL (c:Cf)(s:Sl)(gp np go nd gc ns:Nat)(T:Int):List Value:=[.int .i64 c.cores,.int .i64 c.domains,.int .i64 c.line,.int .i64 c.priv,.int .i64 c.shared,.int .i64 c.near,.int .i64 c.sets,.slice s.wa s.wl s.wc,.int .i64 c.slot,.slice s.sa s.sl s.sc,.slice s.ta s.tl s.tc,.int .i64 c.quantum,.int .i64 c.flush,.slice (some ⟨gp,0,none⟩) np np,.slice (some ⟨go,0,none⟩) nd nd,.slice (some ⟨gc,0,none⟩) ns ns,.int .i64 T]
structure RLoc where
 gr:Nat
 gp:Nat
 np:Nat
 go:Nat
 nd:Nat
 gc:Nat
 ns:Nat
 G:Nat→Nat
 D:Nat→Nat
 PL:List Value
structure RDat where
 c:Cf
 s:Sl
 pr:Nat→List (Int × Int × Int)
 ow:Nat→List Int
 cm:List Int
 T:Int
structure RefM (w:World)(L:RLoc)(M:RDat):Prop where
 row:Row w L.gr (machL M.c M.s L.gp L.np L.go L.nd L.gc L.ns M.T) 103
 np:(L.np:Int)=M.c.domains*M.c.cores
 nd:(L.nd:Int)=M.c.domains
 ns:(L.ns:Int)=M.c.shared
 prow:Row w L.gp L.PL 28
 plen:L.PL.length=L.np
 pat:∀ i,i<L.np→(M.pr i=[]∧L.PL[i]? = some (.slice none 0 0))∨(L.PL[i]? = some (.slice (some ⟨L.G i,0,none⟩) (M.pr i).length (M.pr i).length)∧Row w (L.G i) (opsL (M.pr i)) 69)
 orow:Row w L.go ((List.range L.nd).map fun d=>.slice (some ⟨L.D d,0,none⟩) M.c.priv.toNat M.c.priv.toNat) 25
 oat:∀ d,d<L.nd→(M.ow d).length=M.c.priv.toNat∧Row w (L.D d) ((M.ow d).map (Value.int .i64)) 3
 odis:∀ d e,d<L.nd→e<L.nd→L.D d=L.D e→d=e
 crow:Row w L.gc (M.cm.map (Value.int .i64)) 3
 clen:M.cm.length=L.ns
 cdis:∀ d,d<L.nd→L.D d≠L.gc
 right:chk M.c=0
 T0:0≤M.T
 T1:M.T≤10000
 pmax:∀ i,i<L.np→(M.pr i).length≤64
def RLoc.own (L:RLoc)(b:Nat):Prop:=b=L.gr∨b=L.gp∨b=L.go∨b=L.gc∨(∃ i,i<L.np∧b=L.G i)∨∃ d,d<L.nd∧b=L.D d
theorem RefM.same {w w':World}{L:RLoc}{M:RDat}(h:RefM w L M)(hs:∀ b,L.own b→w'.heap[b]? = w.heap[b]?):RefM w' L M:=by
 refine ⟨h.row.same (hs _ (Or.inl rfl)),h.np,h.nd,h.ns,h.prow.same (hs _ (Or.inr (Or.inl rfl))),h.plen,?_,h.orow.same (hs _ (Or.inr (Or.inr (Or.inl rfl)))),?_,h.odis,h.crow.same (hs _ (Or.inr (Or.inr (Or.inr (Or.inl rfl))))),h.clen,h.cdis,h.right,h.T0,h.T1,h.pmax⟩
 ·
  intro i hi
  rcases h.pat i hi with h1|⟨h1,h2⟩
  · exact Or.inl h1
  · exact Or.inr ⟨h1,h2.same (hs _ (Or.inr (Or.inr (Or.inr (Or.inr (Or.inl ⟨i,hi,rfl⟩))))))⟩
 ·
  intro d hd
  exact ⟨(h.oat d hd).1,(h.oat d hd).2.same (hs _ (Or.inr (Or.inr (Or.inr (Or.inr (Or.inr ⟨d,hd,rfl⟩))))))⟩
theorem RefM.time {w:World}{L:RLoc}{M:RDat}(h:RefM w L M)(T:Int)(t0:0≤T)(t1:T≤10000):RefM (w.setCell ⟨L.gr,16,none⟩ (.int .i64 T)) L { M with T:=T }:=by
 have n1:∀ {g A t},Row w g A t→t≠103→Row (w.setCell ⟨L.gr,16,none⟩ (.int .i64 T)) g A t:=fun hr ht=>
  hr.setCellOther _ _ (fun e=>by subst e;exact ht (row_type hr h.row))
 refine ⟨h.row.setCell 16 _,h.np,h.nd,h.ns,n1 h.prow (by decide),h.plen,?_,n1 h.orow (by decide),?_,h.odis,n1 h.crow (by decide),h.clen,h.cdis,h.right,t0,t1,h.pmax⟩
 ·
  intro i hi
  rcases h.pat i hi with h1|⟨h1,h2⟩
  · exact Or.inl h1
  · exact Or.inr ⟨h1,n1 h2 (by decide)⟩
 ·
  intro d hd
  exact ⟨(h.oat d hd).1,n1 (h.oat d hd).2 (by decide)⟩
def runE (M:RDat)(n:Int):Int:=if n<0 then 6 else if 10000-M.T<n then 9 else 0
def runT (M:RDat)(n:Int):Int:=if n<0 then M.T else if 10000-M.T<n then M.T else M.T+n
set_option maxHeartbeats 800000 in
theorem rRun_any (L:RLoc)(M:RDat)(n:Int)(w:World)(h:RefM w L M) :
  Calls Tryz.prog 62 #[.pointer (some ⟨L.gr,0,none⟩),.int .i64 n] w fun e w'=>e = .returned (.int .i64 (runE M n))∧RefM w' L { M with T:=runT M n }∧Touch L.own w w':=by
 have T0:=h.T0
 have T1:=h.T1
 have c16:w.cell? ⟨L.gr,16,none⟩=some (.int .i64 M.T):=by rw [h.row.cell];rfl
 have f16:w.frozen? ⟨L.gr,16,none⟩=false:=h.row.frozen 16
 by_cases a1:n<0
 ·
  have e1:runE M n=6:=by unfold runE;rw [if_pos a1]
  have e2:runT M n=M.T:=by unfold runT;rw [if_pos a1]
  have HE:Hid _:=e1
  have HM:Hid (RefM w L { M with T:=runT M n }):=by unfold Hid;rw [e2];exact h
  clear e1 e2
  go_enter Tryz.func62,Tryz.ntmps62
  go_wp2
  go_ret
  exact ⟨ret_int HE.out.symm,HM.out,Touch.refl _ _⟩
 by_cases a2:10000-M.T<n
 ·
  have e1:runE M n=9:=by unfold runE;rw [if_neg a1,if_pos a2]
  have e2:runT M n=M.T:=by unfold runT;rw [if_neg a1,if_pos a2]
  have HE:Hid _:=e1
  have HM:Hid (RefM w L { M with T:=runT M n }):=by unfold Hid;rw [e2];exact h
  clear e1 e2
  go_enter Tryz.func62,Tryz.ntmps62
  go_wp2
  go_ret
  exact ⟨ret_int HE.out.symm,HM.out,Touch.refl _ _⟩
 ·
  have e1:runE M n=0:=by unfold runE;rw [if_neg a1,if_neg a2]
  have e2:runT M n=M.T+n:=by unfold runT;rw [if_neg a1,if_neg a2]
  have HE:Hid _:=e1
  have HM:Hid (RefM (w.setCell ⟨L.gr,16,none⟩ (.int .i64 (M.T+n))) L { M with T:=runT M n }):=by unfold Hid;rw [e2];exact h.time _ (by omega) (by omega)
  clear e1 e2
  go_enter Tryz.func62,Tryz.ntmps62
  go_wp2
  go_ret
  exact ⟨ret_int HE.out.symm,HM.out,Touch.setCell _ _ _ _ (Or.inl rfl)⟩
theorem RefM.share {w:World}{L:RLoc}{M:RDat}(h:RefM w L M)(a:Nat)(v:Int):RefM (w.setCell ⟨L.gc,a,none⟩ (.int .i64 v)) L { M with cm:=M.cm.set a v }:=by
 have n1:∀ {g A t},Row w g A t→t≠3→Row (w.setCell ⟨L.gc,a,none⟩ (.int .i64 v)) g A t:=fun hr ht=>
  hr.setCellOther _ _ (fun e=>by subst e;exact ht (row_type hr h.crow))
 refine ⟨n1 h.row (by decide),h.np,h.nd,h.ns,n1 h.prow (by decide),h.plen,?_,n1 h.orow (by decide),?_,h.odis,?_,by simp [h.clen],h.cdis,h.right,h.T0,h.T1,h.pmax⟩
 ·
  intro i hi
  rcases h.pat i hi with h1|⟨h1,h2⟩
  · exact Or.inl h1
  · exact Or.inr ⟨h1,n1 h2 (by decide)⟩
 ·
  intro d hd
  exact ⟨(h.oat d hd).1,(h.oat d hd).2.setCellOther _ _ (h.cdis d hd)⟩
 ·
  have:=h.crow.setCell a (.int .i64 v)
  rwa [← List.map_set] at this
theorem RefM.fill {w:World}{L:RLoc}{M:RDat}(h:RefM w L M)(d a:Nat)(v:Int)(hd:d<L.nd):RefM (w.setCell ⟨L.D d,a,none⟩ (.int .i64 v)) L { M with ow:=fun e=>if e=d then (M.ow d).set a v else M.ow e }:=by
 have hr0:=(h.oat d hd).2
 have n1:∀ {g A t},Row w g A t→t≠3→Row (w.setCell ⟨L.D d,a,none⟩ (.int .i64 v)) g A t:=fun hr ht=>
  hr.setCellOther _ _ (fun e=>by subst e;exact ht (row_type hr hr0))
 refine ⟨n1 h.row (by decide),h.np,h.nd,h.ns,n1 h.prow (by decide),h.plen,?_,n1 h.orow (by decide),?_,h.odis,h.crow.setCellOther _ _ (Ne.symm (h.cdis d hd)),h.clen,h.cdis,h.right,h.T0,h.T1,h.pmax⟩
 ·
  intro i hi
  rcases h.pat i hi with h1|⟨h1,h2⟩
  · exact Or.inl h1
  · exact Or.inr ⟨h1,n1 h2 (by decide)⟩
 ·
  intro e he
  by_cases ed:e=d
  ·
   subst ed
   simp only [if_true]
   refine ⟨by simp [(h.oat e he).1],?_⟩
   have:=hr0.setCell a (.int .i64 v)
   rwa [← List.map_set] at this
  ·
   simp only [ed,if_false]
   exact ⟨(h.oat e he).1,(h.oat e he).2.setCellOther _ _ (fun eq=>ed (h.odis e d he hd eq))⟩
def shareE (M:RDat)(a:Int):Int:=if a<0∨M.c.shared≤a then 6 else if 0<M.T then 7 else 0
def shareM (M:RDat)(a v:Int):RDat:=if shareE M a=0 then { M with cm:=M.cm.set a.toNat v } else M
def fillE (M:RDat)(d a:Int):Int:=if d<0∨M.c.domains≤d∨a<0∨M.c.priv≤a then 6 else if 0<M.T then 7 else 0
def fillM (M:RDat)(d a v:Int):RDat:=if fillE M d a=0 then { M with ow:=fun e=>if e=d.toNat then (M.ow d.toNat).set a.toNat v else M.ow e } else M
theorem cell_of_row {w:World}{g:Nat}{xs:List Int}{t:TypeId}{i:Nat}(h:Row w g (xs.map (Value.int .i64)) t)(hi:i<xs.length):w.cell? ⟨g,i,none⟩=some (.int .i64 (xs.getD i 0)):=by
 rw [h.cell,List.getElem?_map];simp [List.getD,hi]
set_option maxHeartbeats 1600000 in
theorem rShare_any (L:RLoc)(M:RDat)(a v:Int)(w:World)(h:RefM w L M) :
  Calls Tryz.prog 60 #[.pointer (some ⟨L.gr,0,none⟩),.int .i64 a,.int .i64 v] w fun e w'=>e = .returned (.int .i64 (shareE M a))∧RefM w' L (shareM M a v)∧Touch L.own w w':=by
 have T0:=h.T0
 have c4:w.cell? ⟨L.gr,4,none⟩=some (.int .i64 M.c.shared):=by rw [h.row.cell];rfl
 have c15:w.cell? ⟨L.gr,15,none⟩=some (.slice (some ⟨L.gc,0,none⟩) L.ns L.ns):=by rw [h.row.cell];rfl
 have c16:w.cell? ⟨L.gr,16,none⟩=some (.int .i64 M.T):=by rw [h.row.cell];rfl
 have hns:=h.ns
 have sb:=(shape_bounds (chk_zero h.right).1)
 have sb2:M.c.shared≤32:=by omega
 have HNS:Hid _:=hns
 have hnl:L.ns≤32:=by omega
 clear hns sb
 by_cases a1:a<0
 ·
  have e1:shareE M a=6:=by unfold shareE;rw [if_pos (Or.inl a1)]
  have HE:Hid _:=e1
  have HM:Hid (RefM w L (shareM M a v)):=by unfold Hid shareM;rw [if_neg (by rw [e1];decide)];exact h
  clear e1
  go_enter Tryz.func60,Tryz.ntmps60
  go_wp2
  go_ret
  exact ⟨ret_int HE.out.symm,HM.out,Touch.refl _ _⟩
 by_cases a2:M.c.shared≤a
 ·
  have e1:shareE M a=6:=by unfold shareE;rw [if_pos (Or.inr a2)]
  have HE:Hid _:=e1
  have HM:Hid (RefM w L (shareM M a v)):=by unfold Hid shareM;rw [if_neg (by rw [e1];decide)];exact h
  clear e1
  go_enter Tryz.func60,Tryz.ntmps60
  go_wp2
  go_ret
  exact ⟨ret_int HE.out.symm,HM.out,Touch.refl _ _⟩
 by_cases a3:0<M.T
 ·
  have e1:shareE M a=7:=by unfold shareE;rw [if_neg (by omega),if_pos a3]
  have HE:Hid _:=e1
  have HM:Hid (RefM w L (shareM M a v)):=by unfold Hid shareM;rw [if_neg (by rw [e1];decide)];exact h
  clear e1
  go_enter Tryz.func60,Tryz.ntmps60
  go_wp2
  go_ret
  exact ⟨ret_int HE.out.symm,HM.out,Touch.refl _ _⟩
 ·
  have e1:shareE M a=0:=by unfold shareE;rw [if_neg (by omega),if_neg a3]
  obtain ⟨i,rfl⟩:=Int.eq_ofNat_of_zero_le (show 0≤a by omega)
  have HE:Hid _:=e1
  have HM:Hid (RefM (w.setCell ⟨L.gc,i,none⟩ (.int .i64 v)) L (shareM M i v)):=by unfold Hid shareM;rw [if_pos e1,Int.toNat_natCast];exact h.share i v
  have hi:i<L.ns:=by have:=HNS.out;omega
  have ci:=cell_of_row h.crow (i:=i) (by rw [h.clen];exact hi)
  have fi:w.frozen? ⟨L.gc,i,none⟩=false:=h.crow.frozen i
  clear e1
  go_enter Tryz.func60,Tryz.ntmps60
  go_wp2
  go_ret
  exact ⟨ret_int HE.out.symm,HM.out,Touch.setCell _ _ _ _ (Or.inr (Or.inr (Or.inr (Or.inl rfl))))⟩
set_option maxHeartbeats 1600000 in
theorem rFill_any (L:RLoc)(M:RDat)(d a v:Int)(w:World)(h:RefM w L M) :
  Calls Tryz.prog 58 #[.pointer (some ⟨L.gr,0,none⟩),.int .i64 d,.int .i64 a,.int .i64 v] w fun e w'=>e = .returned (.int .i64 (fillE M d a))∧RefM w' L (fillM M d a v)∧Touch L.own w w':=by
 have T0:=h.T0
 have c1:w.cell? ⟨L.gr,1,none⟩=some (.int .i64 M.c.domains):=by rw [h.row.cell];rfl
 have c3:w.cell? ⟨L.gr,3,none⟩=some (.int .i64 M.c.priv):=by rw [h.row.cell];rfl
 have c14:w.cell? ⟨L.gr,14,none⟩=some (.slice (some ⟨L.go,0,none⟩) L.nd L.nd):=by rw [h.row.cell];rfl
 have c16:w.cell? ⟨L.gr,16,none⟩=some (.int .i64 M.T):=by rw [h.row.cell];rfl
 have sb:=(shape_bounds (chk_zero h.right).1)
 have sb1:M.c.domains≤4:=by omega
 have sb2:M.c.priv≤64:=by omega
 have sb3:0≤M.c.priv:=by omega
 have HND:Hid _:=h.nd
 have hnl:L.nd≤4:=by have:=h.nd;omega
 clear sb
 by_cases hbad:d<0∨M.c.domains≤d∨a<0∨M.c.priv≤a
 ·
  have e1:fillE M d a=6:=by unfold fillE;rw [if_pos hbad]
  have HE:Hid _:=e1
  have HM:Hid (RefM w L (fillM M d a v)):=by unfold Hid fillM;rw [if_neg (by rw [e1];decide)];exact h
  have cases:d<0∨(0≤d∧M.c.domains≤d)∨(0≤d∧d<M.c.domains∧a<0)∨(0≤d∧d<M.c.domains∧0≤a∧M.c.priv≤a):=by omega
  clear e1 hbad
  rcases cases with b1|⟨b1,b2⟩|⟨b1,b2,b3⟩|⟨b1,b2,b3,b4⟩
  all_goals
   go_enter Tryz.func58,Tryz.ntmps58
   go_wp2
   go_ret
   exact ⟨ret_int HE.out.symm,HM.out,Touch.refl _ _⟩
 ·
  have b1:0≤d:=by omega
  have b2:d<M.c.domains:=by omega
  have b3:0≤a:=by omega
  have b4:a<M.c.priv:=by omega
  by_cases a3:0<M.T
  ·
   have e1:fillE M d a=7:=by unfold fillE;rw [if_neg hbad,if_pos a3]
   have HE:Hid _:=e1
   have HM:Hid (RefM w L (fillM M d a v)):=by unfold Hid fillM;rw [if_neg (by rw [e1];decide)];exact h
   clear e1 hbad
   go_enter Tryz.func58,Tryz.ntmps58
   go_wp2
   go_ret
   exact ⟨ret_int HE.out.symm,HM.out,Touch.refl _ _⟩
  ·
   have e1:fillE M d a=0:=by unfold fillE;rw [if_neg hbad,if_neg a3]
   obtain ⟨i,rfl⟩:=Int.eq_ofNat_of_zero_le b1
   obtain ⟨j,rfl⟩:=Int.eq_ofNat_of_zero_le b3
   have hi:i<L.nd:=by have:=HND.out;omega
   have hj:j<M.c.priv.toNat:=by omega
   have hjI:(j:Int)<((M.c.priv.toNat:Nat):Int):=by omega
   have HE:Hid _:=e1
   have HM:Hid (RefM (w.setCell ⟨L.D i,j,none⟩ (.int .i64 v)) L (fillM M i j v)):=by unfold Hid fillM;rw [if_pos e1,Int.toNat_natCast,Int.toNat_natCast];exact h.fill i j v hi
   have co:w.cell? ⟨L.go,i,none⟩=some (.slice (some ⟨L.D i,0,none⟩) M.c.priv.toNat M.c.priv.toNat):=by rw [h.orow.cell,List.getElem?_map];simp [hi]
   have ci:=cell_of_row (h.oat i hi).2 (i:=j) (by rw [(h.oat i hi).1];exact hj)
   have fi:w.frozen? ⟨L.D i,j,none⟩=false:=(h.oat i hi).2.frozen j
   generalize M.c.priv.toNat=pn at *
   clear e1 hbad
   go_enter Tryz.func58,Tryz.ntmps58
   go_wp2
   go_ret
   exact ⟨ret_int HE.out.symm,HM.out,Touch.setCell _ _ _ _ (Or.inr (Or.inr (Or.inr (Or.inr (Or.inr ⟨i,hi,rfl⟩)))))⟩
abbrev entL (e:Ent):List Value:=[.int .i64 e.t,.int .i64 e.what,.int .i64 e.core,.int .i64 e.line,.int .i64 e.way,.bool e.st,.bool e.lo,.int .i64 e.addr,.int .i64 e.val]
abbrev evL (e:Ev):List Value:=[.int .i64 e.core,.int .i64 e.index,.int .i64 e.value,.int .i64 e.fault,.int .i64 e.issue,.int .i64 e.done]
def logL (l:List Ent):List Value:=l.flatMap entL
def evsL (l:List Ev):List Value:=l.flatMap evL
structure SLoc where
 gs:Nat
 gr:Nat
 d:Nat
 la:Option Addr
 ll:Nat
 lc:Nat
 ea:Option Addr
 el:Nat
 ec:Nat
 gn:Nat
 gf:Nat
 gb:Nat
 gh:Nat
 n:Nat
 qa:Option Addr
 ql:Nat
 qc:Nat
abbrev soloL (X:SLoc):List Value:=[.pointer (some ⟨X.gr,0,none⟩),.int .i64 X.d,.slice X.la X.ll X.lc,.slice X.ea X.el X.ec,.slice (some ⟨X.gn,0,none⟩) X.n X.n,.slice (some ⟨X.gf,0,none⟩) X.n X.n,.slice (some ⟨X.gb,0,none⟩) X.n X.n,.slice (some ⟨X.gh,0,none⟩) X.n X.n,.slice X.qa X.ql X.qc]
theorem flat_at {α:Type}(f:α→List Value)(k:Nat)(hf:∀ a,(f a).length=k):∀ (l:List α) (i j:Nat),j<k→(l.flatMap f)[i*k+j]? = (l[i]?).bind fun a=>(f a)[j]?
 | [],i,j,_=>by simp
 | x::xs,0,j,hj=>by
  rw [List.flatMap_cons,Nat.zero_mul,Nat.zero_add,List.getElem?_append_left (by rw [hf];exact hj)]
  simp
 | x::xs,i+1,j,hj=>by
  rw [List.flatMap_cons,List.getElem?_append_right (by rw [hf,Nat.succ_mul];omega),hf,show (i+1)*k+j-k=i*k+j by rw [Nat.succ_mul];omega,flat_at f k hf xs i j hj]
  simp
structure LogAt (w:World)(la:Option Addr)(ll:Nat)(log:List Ent):Prop where
 hlen:log.length=ll
 hmax:ll≤100000
 hat:∀ i,i<ll→∃ b,la=some ⟨b,0,none⟩∧b<w.heap.size∧∀ j,j<9→w.cell? ⟨b,i*9+j,none⟩=(entL (log.reverse.getD i ⟨0,0,0,0,0,false,false,0,0⟩))[j]?
theorem LogAt.below {w w':World}{la:Option Addr}{ll n:Nat}{log:List Ent}(h:LogAt w la ll log)(hb:Below n w w')(hn:w.heap.size≤n):LogAt w' la ll log:=by
 refine ⟨h.hlen,h.hmax,fun i hi=>?_⟩
 obtain ⟨b,h1,h2,h3⟩:=h.hat i hi
 refine ⟨b,h1,Nat.lt_of_lt_of_le h2 hb.size,fun j hj=>?_⟩
 rw [hb.cell (p:=⟨b,i*9+j,none⟩) (by have:(⟨b,i*9+j,none⟩:Addr).block=b:=rfl;rw [this];omega)]
 exact h3 j hj
structure SoR (w:World)(X:SLoc)(c:Cf)(s:Sl)(L:RLoc)(T:Int):Prop where
 row:Row w X.gs (soloL X) 126
 mrow:Row w X.gr (machL c s L.gp L.np L.go L.nd L.gc L.ns T) 103
 ok:chk c=0
theorem SoR.right {w:World}{X:SLoc}{c:Cf}{s:Sl}{L:RLoc}{T:Int}(h:SoR w X c s L T):Right c:=right_of h.ok
theorem SoR.below {w w':World}{X:SLoc}{c:Cf}{s:Sl}{L:RLoc}{T:Int}{n:Nat}(h:SoR w X c s L T)(hb:Below n w w')(hn:w.heap.size≤n):SoR w' X c s L T:=
 ⟨h.row.below hb (Nat.lt_of_lt_of_le h.row.lt hn),h.mrow.below hb (Nat.lt_of_lt_of_le h.mrow.lt hn),h.ok⟩
set_option maxHeartbeats 1600000 in
theorem rflushed_any (X:SLoc)(c:Cf)(sl:Sl)(L:RLoc)(T s t:Int)(w:World)(h:SoR w X c sl L T)(s0:0≤s)(s1:s≤100000) :
  Calls Tryz.prog 122 #[.pointer (some ⟨X.gs,0,none⟩),.int .i64 s,.int .i64 t] w fun e w'=>e = .returned (.bool (flushedB c s t))∧Below w.heap.size w w':=by
 have c0:w.cell? ⟨X.gs,0,none⟩=some (.pointer (some ⟨X.gr,0,none⟩)):=by rw [h.row.cell];rfl
 have c11:w.cell? ⟨X.gr,11,none⟩=some (.int .i64 c.quantum):=by rw [h.mrow.cell];rfl
 have c12:w.cell? ⟨X.gr,12,none⟩=some (.int .i64 c.flush):=by rw [h.mrow.cell];rfl
 have q1:=h.right.q1
 have q2:=h.right.q2
 have w0:=h.right.w0
 have f1:=h.right.f1
 have f2:=h.right.f2
 have y1:0<c.quantum:=by omega
 have y0:¬c.quantum=0:=by omega
 have y2:0≤s / c.quantum:=Int.ediv_nonneg s0 (by omega)
 have y3:s / c.quantum≤s:=Int.ediv_le_self _ s0
 have hd:=Int.mul_ediv_add_emod s c.quantum
 have r0:=Int.emod_nonneg s (show c.quantum≠0 by omega)
 have r1:=Int.emod_lt_of_pos s (show 0<c.quantum by omega)
 rw [Int.mul_comm] at hd
 have hF:flushedB c s t=if t<s / c.quantum*c.quantum+c.quantum-c.flush then false else if s<s / c.quantum*c.quantum+c.quantum-c.flush then true else decide (s / c.quantum*c.quantum+c.quantum-c.flush+c.quantum≤t):=rfl
 have e1:(s / c.quantum+1)*c.quantum=s / c.quantum*c.quantum+c.quantum:=by rw [Int.add_mul];omega
 obtain ⟨p,hp⟩:∃ p,s / c.quantum*c.quantum=p:=⟨_,rfl⟩
 obtain ⟨p2,hp2⟩:∃ p,(s / c.quantum+1)*c.quantum=p:=⟨_,rfl⟩
 rw [hp] at hd hF e1
 rw [hp2] at e1
 have HD:Hid _:=hd
 have HR:Hid _:=r1
 have hb1:0≤s / c.quantum*c.quantum:=Int.mul_nonneg y2 (by omega)
 have hb2:s / c.quantum*c.quantum≤100000:=by omega
 have hb3:0≤(s / c.quantum+1)*c.quantum:=by omega
 have hb4:(s / c.quantum+1)*c.quantum≤102000:=by omega
 have cases:t<p+c.quantum-c.flush∨(p+c.quantum-c.flush≤t∧s<p+c.quantum-c.flush)∨(p+c.quantum-c.flush≤t∧p+c.quantum-c.flush≤s∧t<p2+c.quantum-c.flush)∨(p+c.quantum-c.flush≤t∧p+c.quantum-c.flush≤s∧p2+c.quantum-c.flush≤t∧s<p2+c.quantum-c.flush):=by omega
 have HP:Hid _:=hp
 have HP2:Hid _:=hp2
 have HE:Hid _:=e1
 clear hd r0 r1 e1
 rcases cases with a1|⟨a1,a2⟩|⟨a1,a2,a3⟩|⟨a1,a2,a3,a4⟩
 ·
  have HZ:Hid (flushedB c s t=false):=by unfold Hid;rw [hF,if_pos a1]
  rw [← hp] at a1
  clear hF hp hp2
  go_enter Tryz.func122,Tryz.ntmps122
  go_wp2_with fail
  refine wp_loop_rounds 1 ?_
  rw [rounds_succ]
  go_wp2_with fail
  go_quiet (fail)
  go_wp2
  go_ret
  exact ⟨ret_bool HZ.out.symm,below_drewN (Below.refl _ _) _⟩
 ·
  have HZ:Hid (flushedB c s t=true):=by unfold Hid;rw [hF,if_neg (by omega),if_pos a2]
  rw [← hp] at a1 a2
  clear hF hp hp2
  go_enter Tryz.func122,Tryz.ntmps122
  go_wp2_with fail
  refine wp_loop_rounds 1 ?_
  rw [rounds_succ]
  go_wp2_with fail
  go_quiet (fail)
  go_wp2
  go_ret
  exact ⟨ret_bool HZ.out.symm,below_drewN (Below.refl _ _) _⟩
 ·
  have HZ:Hid (flushedB c s t=false):=by unfold Hid;rw [hF,if_neg (by omega),if_neg (by omega),decide_eq_false (by have:=HE.out;omega)]
  rw [← hp] at a1 a2
  rw [← hp2] at a3
  clear hF hp hp2
  go_enter Tryz.func122,Tryz.ntmps122
  go_wp2_with fail
  refine wp_loop_rounds 2 ?_
  rw [rounds_succ]
  go_wp2_with fail
  go_quiet (fail)
  go_wp2
  rw [rounds_succ]
  go_wp2_with fail
  go_quiet (fail)
  go_wp2
  go_ret
  exact ⟨ret_bool HZ.out.symm,below_drewN (Below.refl _ _) _⟩
 ·
  have HZ:Hid (flushedB c s t=true):=by unfold Hid;rw [hF,if_neg (by omega),if_neg (by omega),decide_eq_true (by have:=HE.out;omega)]
  rw [← hp] at a1 a2
  rw [← hp2] at a3 a4
  clear hF hp hp2
  go_enter Tryz.func122,Tryz.ntmps122
  go_wp2_with fail
  refine wp_loop_rounds 2 ?_
  rw [rounds_succ]
  go_wp2_with fail
  go_quiet (fail)
  go_wp2
  rw [rounds_succ]
  go_wp2_with fail
  go_quiet (fail)
  go_wp2
  go_ret
  exact ⟨ret_bool HZ.out.symm,below_drewN (Below.refl _ _) _⟩
def ent0:Ent:=⟨0,0,0,0,0,false,false,0,0⟩
theorem drop_rev (log:List Ent)(k:Nat)(h:k+1≤log.length):log.drop (log.length-(k+1))=log.reverse.getD k ent0::log.drop (log.length-k):=by
 have hm:log.length-(k+1)<log.length:=by omega
 rw [List.drop_eq_getElem_cons hm,show log.length-(k+1)+1=log.length-k by omega]
 congr 1
 have:k<log.reverse.length:=by simp;omega
 rw [List.getD_eq_getElem?_getD,List.getElem?_eq_getElem this,Option.getD_some,List.getElem_reverse]
 congr 1
 omega
theorem getD_mem_rev (log:List Ent)(k:Nat)(h:k<log.length):log.reverse.getD k ent0∈log:=by
 have:k<log.reverse.length:=by simpa using h
 rw [List.getD_eq_getElem?_getD,List.getElem?_eq_getElem this,Option.getD_some]
 exact List.mem_reverse.1 (List.getElem_mem this)
set_option maxHeartbeats 1600000 in
theorem rwhere_any (X:SLoc)(c:Cf)(sl:Sl)(L:RLoc)(T x:Int)(log:List Ent)(w:World)(h:SoR w X c sl L T)(hl:LogAt w X.la X.ll log) :
  Calls Tryz.prog 126 #[.pointer (some ⟨X.gs,0,none⟩),.int .i64 x] w fun e w'=>e = .returned (.int .i64 (whereF x log))∧Below w.heap.size w w':=by
 have hm:=hl.hmax
 have c2:w.cell? ⟨X.gs,2,none⟩=some (.slice X.la X.ll X.lc):=by rw [h.row.cell];rfl
 have HL:Hid (log.length=X.ll):=hl.hlen
 go_enter Tryz.func126,Tryz.ntmps126
 go_wp2_with fail
 go_loopw [5] (fun i wr=>∃ k:Nat,k≤X.ll∧i = .int .i64 ((k:Int)-1)∧whereF x log=whereF x (log.drop (log.length-k))∧Below w.heap.size w wr) (fun i _=>(intOf i+1).toNat)
 case atStart=>exact ⟨X.ll,Nat.le_refl _,rfl,by rw [HL.out,Nat.sub_self,List.drop_zero],Below.refl _ _⟩
 case round=>
  obtain ⟨k,hk,rfl,hf,hb⟩:=hrel
  have HF:Hid _:=hf
  clear hf
  by_cases hlt:0<k
  ·
   obtain ⟨k',rfl⟩:∃ k',k=k'+1:=⟨k-1,by omega⟩
   have e1:(((k'+1:Nat):Int)-1)=(k':Int):=by omega
   rw [e1]
   obtain ⟨b,hla,hlb,hcs⟩:=(hl.below hb (Nat.le_refl _)).hat k' (by omega)
   have HE:Hid _:=drop_rev log k' (by rw [HL.out];omega)
   unfold ent0 at HE
   have cr2:=(h.below hb (Nat.le_refl _)).row.cell 2
   have z0:=hcs 0 (by omega)
   have z1:=hcs 1 (by omega)
   have z2:=hcs 2 (by omega)
   have z3:=hcs 3 (by omega)
   have z4:=hcs 4 (by omega)
   have z5:=hcs 5 (by omega)
   have z6:=hcs 6 (by omega)
   have z7:=hcs 7 (by omega)
   have z8:=hcs 8 (by omega)
   generalize log.reverse.getD k' ⟨0,0,0,0,0,false,false,0,0⟩=e at *
   obtain ⟨et,ewhat,ecore,eline,eway,est,elo,eaddr,eval⟩:=e
   simp only [List.getElem?_cons_zero,List.getElem?_cons_succ,Nat.add_zero] at z0 z1 z2 z3 z4 z5 z6 z7 z8 cr2
   rw [hla] at cr2
   clear hcs e1
   rcases Bool.eq_false_or_eq_true (eline==x) with a1|a1
   ·
    rcases Bool.eq_false_or_eq_true (ewhat==1) with a2 | a2
    ·
     go_wp2
     go_ret
     exact ⟨ret_int (by rw [HF.out,HE.out];simp [whereF,a1,a2]),hb.alloc hb.size _⟩
    ·
     rcases Bool.eq_false_or_eq_true (ewhat==2) with a3 | a3
     ·
      go_wp2
      go_ret
      exact ⟨ret_int (by rw [HF.out,HE.out];simp [whereF,a1,a2,a3]),hb.alloc hb.size _⟩
     ·
      go_wp2
      go_roundw
      case rel=>exact ⟨k',by omega,rfl,by rw [HF.out,HE.out];simp [whereF,a1,a2,a3],hb.alloc hb.size _⟩
      case measure=>simp [intOf]
   ·
    go_wp2
    go_roundw
    case rel=>exact ⟨k',by omega,rfl,by rw [HF.out,HE.out];simp [whereF,a1],hb.alloc hb.size _⟩
    case measure=>simp [intOf]
  ·
   obtain rfl:k=0:=by omega
   go_wp2
   go_ret
   exact ⟨ret_int (by rw [HF.out,Nat.sub_zero,List.drop_length];rfl),hb⟩
end Go.Proofs.YtehheaedbnfidaaGreat
