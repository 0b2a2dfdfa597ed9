import Derived.Test.YtpcbbbilmpobaaaGreatDoorJ25
import Derived.Laws.CopyOwn
import Derived.Laws.MakeOwn
import Derived.Deep.DeepCutAuto
import Derived.Deep.CutBlock
set_option linter.unusedVariables false
set_option linter.unusedSimpArgs false
set_option linter.unnecessarySimpa false
set_option maxRecDepth 100000
set_option maxHeartbeats 8000000
namespace Go.Proofs.YtpcbbbilmpobaaaGreatDoor
open Go.RowKit
theorem PR.c0{w:World}{pb:Nat}{V:V6}{m:Mach}{A:List Nat}(h:PR A w pb V m):w.cell? ⟨pb,0,none⟩=some V.n:=by simp[World.cell?,h.row,V6.cells]
theorem PR.c1{w:World}{pb:Nat}{V:V6}{m:Mach}{A:List Nat}(h:PR A w pb V m):w.cell? ⟨pb,1,none⟩=some V.c:=by simp[World.cell?,h.row,V6.cells]
theorem PR.c2{w:World}{pb:Nat}{V:V6}{m:Mach}{A:List Nat}(h:PR A w pb V m):w.cell? ⟨pb,2,none⟩=some V.a:=by simp[World.cell?,h.row,V6.cells]
theorem PR.c3{w:World}{pb:Nat}{V:V6}{m:Mach}{A:List Nat}(h:PR A w pb V m):w.cell? ⟨pb,3,none⟩=some V.t:=by simp[World.cell?,h.row,V6.cells]
theorem PR.c4{w:World}{pb:Nat}{V:V6}{m:Mach}{A:List Nat}(h:PR A w pb V m):w.cell? ⟨pb,4,none⟩=some V.r:=by simp[World.cell?,h.row,V6.cells]
theorem PR.c5{w:World}{pb:Nat}{V:V6}{m:Mach}{A:List Nat}(h:PR A w pb V m):w.cell? ⟨pb,5,none⟩=some V.i:=by simp[World.cell?,h.row,V6.cells]
theorem PR.lt{w:World}{pb:Nat}{V:V6}{m:Mach}{A:List Nat}(h:PR A w pb V m):pb<w.heap.size:=(Array.getElem?_eq_some_iff.1 h.row).1
theorem aum_of{A:List Nat}{w:World}{cs:Array Value}{x:AutM}{g q:Nat}(h:autI.rel A w cs x)(ok:AutOK x)(hg:g<w.heap.size)(hh:∀ c u,cs[c]?=some u→w.cell? ⟨g,q+c,none⟩=some u) :
 ∃ va vn,AUm w g q x va vn∧RW A 1 w va (bc x.acc)∧RW A 1 w vn (ic x.nx):=by
 obtain ⟨va,vn,rfl,ra,rn⟩:=h;have hlc:x.cl.length=256:=ok.cl;have hh2:∀ c u,(acell x va vn).toList[c]?=some u→w.cell? ⟨g,q+c,none⟩=some u:=fun c u hu=>hh c u (by rw[← hu];simp)
 refine ⟨va,vn,⟨hg,hh2 0 _ (by simp[acell]),fun c hc=>?_,hh2 257 _ ?_,hh2 258 _ ?_⟩,ra,rn⟩
 ·have:=hh2 (1+c) (.int .u8 (x.cl.getD c 0:Nat)) (by
   have hl:c<x.cl.length:=by omega
   simp only[acell];rw[Nat.add_comm,List.getElem?_cons_succ,List.getElem?_append_left (by simp[nv];exact hl)];simp[nv,hl,List.getD])
  rwa [← Nat.add_assoc]at this
 ·simp only[acell]
  rw[List.getElem?_cons_succ,List.getElem?_append_right (by simp[nv,hlc])];simp[nv,hlc]
 ·simp only[acell]
  rw[List.getElem?_cons_succ,List.getElem?_append_right (by simp[nv,hlc])];simp[nv,hlc]
theorem pholds_any(w:World)(pb:Nat)(V:V6)(m:Mach)(h:PR [] w pb V m)(ok:MOK m)(x:Nat)(hx:x<m.tests.length)(vl:Value)(L:List LBL)(hL:LR w vl L)(hval:∀ n,(lblV L n).length≤1048576) :
 Calls Tryz.prog 68 #[.pointer (some ⟨pb,0,none⟩), .int .i64 x,vl] w fun e w'=>e=.returned (.bool (tstM m (lblV L (m.names.getD m.tests[x].n [])) m.tests[x]))∧Frm [] w w':=by
 have H:=hide h;have hpb:=h.lt;have hok:=ok.tests.2 m.tests[x] (List.getElem_mem hx);obtain ⟨an,cn,hVn,hn⟩:=h.pg.n.str;obtain ⟨ac,cc,hVc,hc⟩:=h.pg.c.str;obtain ⟨css,ha1,ha2⟩:=h.pg.a;obtain ⟨aa,ca,hVa,ha⟩:=row_at ha1 ha2;obtain ⟨at',ct,hVt,_,ht⟩:=h.pg.t;have htl:(tc m.tests).length=m.tests.length:=by simp[tc]
 obtain ⟨gt,ot,rfl,_,hgt,hcell⟩:=ht x (by rw[htl];exact hx);have p0:=h.c0;have p1:=h.c1;have p2:=h.c2;have p3:=h.c3;rw[hVn]at p0;rw[hVc]at p1;rw[hVa]at p2;rw[hVt,htl]at p3;have t0:w.cell? ⟨gt,ot+x*3,none⟩=some (.int .i64 (m.tests[x].n:Nat)):=hcell 0 _ (by simp[tc,tcell]);have t1:w.cell? ⟨gt,ot+x*3+1,none⟩=some (.int .i64 (m.tests[x].k:Nat)):=hcell 1 _ (by simp[tc,tcell]);have t2:w.cell? ⟨gt,ot+x*3+2,none⟩=some (.int .i64 (m.tests[x].x:Nat)):=hcell 2 _ (by simp[tc,tcell]);have hxb:=ok.tests.1;have hnb:=ok.names.1;have HAO:=hide ok.autos.2;have hcb:=ok.consts.1;have hab:=ok.autos.1;clear hcell ht htl ha1 ha2 h ok hVn hVc hVa hVt;generalize m.tests[x]=t at *;obtain ⟨gn,on,rfl,hgn,n0⟩:=hn t.n hok.n;have hgd:m.names.getD t.n []=m.names[t.n]'hok.n:=by simp[List.getD,hok.n]
 rw[hgd];have VO:Hid (∀ W,Frm [] w W→Calls Tryz.prog 84 #[vl, .string (bs (m.names[t.n]'hok.n))] W fun e w'=>e=.returned (.string (bs (lblV L (m.names[t.n]'hok.n))))∧Frm [] W w'):=fun W f=>valueOf_any vl L _ W (hL.frm f (by simp))
 have hvl:=hval (m.names[t.n]'hok.n);have hnl:=hok.n;have hk2:=hok.k;have hx':=hok.x;have hl:=bs_toList;have HC:=hide hc;have HA:=hide ha;generalize hnm:m.names[t.n]'hok.n=nm at *;have hsz:=bs_size (lblV L nm);generalize hvv:lblV L nm=v at *;have hd1:decide ((x:Int)<0)=false:=decide_eq_false (by omega);have hd2:decide ((t.n:Int)<0)=false:=decide_eq_false (by omega);have hd3:decide ((t.x:Int)<0)=false:=decide_eq_false (by omega);have hxb2:t.x<256:=by split at hx'<;>omega
 have P0:=hide p0;have P1:=hide p1;have P2:=hide p2;clear hn hc ha hL hval hok hgd hnm hvv;obtain ⟨tn,tk,tx⟩:=t;simp only at *;go_enter Tryz.func68,Tryz.ntmps68
 go_wp2_with fail
 go_quiet (fail)
 go_wp2_with fail
 have FN:Hid (Frm [] w ((w.alloc (Obj.cells #[.int .i64 (tn:Nat), .int .i64 (tk:Nat), .int .i64 (tx:Nat)] 97)).drewN nq).drew):=(((Frm.refl [] w).alloc _).drewN nq).drew;go_region_with (go_at_call 84;refine (VO.out _ FN.out).mono ?_;rintro e w' ⟨rfl,hF'⟩)
 all_goals
  have F2:=hide (FN.out.trans hF');have B2:w'.heap[w.heap.size]?=some (Obj.cells #[.int .i64 (tn:Nat), .int .i64 (tk:Nat), .int .i64 (tx:Nat)] 97):=(hF'.block w.heap.size (by simp) (by simp)).trans (heap1 _ _);have d1:w'.cell? ⟨w.heap.size,1,none⟩=some (.int .i64 (tk:Nat)):=by simp[World.cell?,B2]
  have d2:w'.cell? ⟨w.heap.size,2,none⟩=some (.int .i64 (tx:Nat)):=by simp[World.cell?,B2]
  have e1:=F2.out.at (p:=⟨pb,1,none⟩) hpb P1.out;have e2:=F2.out.at (p:=⟨pb,2,none⟩) hpb P2.out;clear B2 hF' FN p0 p1 p2 p3 t0 t1 t2 n0
  by_cases hk:tk=0
  ·have hxl:tx<m.consts.length:=by rw[if_neg (by omega)]at hx';exact hx'
   obtain ⟨gc,oc,rfl,hgc,k0⟩:=HC.out tx hxl;have HV:Hid (tstM m v ⟨tn,tk,tx⟩=(m.consts[tx]==v)):=by
    show _=_;unfold tstM;rw[if_pos hk];simp only[List.getD,List.getElem?_eq_getElem hxl,Option.getD_some];exact BEq.comm
   have k1:=F2.out.at (p:=⟨gc,oc+tx,none⟩) hgc k0;have hd4:decide ((tx:Int)<(m.consts.length:Int))=true:=decide_eq_true (by omega);have hd5:decide (tx<m.consts.length)=true:=decide_eq_true hxl;generalize m.consts[tx]=cst at *;subst hk;clear hx' HC HA k0;go_wp2_with fail
   go_quiet (fail)
   go_wp2;go_ret;rw[HV.out];exact ⟨rfl,F2.out.drewN _⟩
  ·have hk1:tk=1:=by omega
   have hxl:tx<m.autos.length:=by rw[if_pos hk1]at hx';exact hx'
   obtain ⟨ga,oa,cs,rfl,hga,_,hrel,hcs⟩:=HA.out tx hxl;have OK:Hid (AutOK m.autos[tx]):=HAO.out _ (List.getElem_mem hxl);have HV:Hid (tstM m v ⟨tn,tk,tx⟩=(m.autos[tx].acc.getD (autT m.autos[tx] 0 v) 0==1)):=by
    show _=_;unfold tstM;rw[if_neg hk];simp[List.getD,hxl]
   obtain ⟨va,vn,hU,ra,rn⟩:=aum_of hrel OK.out hga hcs;have TKS:Hid (∀ n,Calls Tryz.prog 85 #[.pointer (some ⟨ga,oa+tx*259,none⟩), .string (bs v)] (w'.drewN n) fun e u=>e=.returned (.bool (m.autos[tx].acc.getD (autT m.autos[tx] 0 v) 0==1))∧∃ q,u=(w'.drewN n).drewN q):=fun n =>
    takesM_any [pb] (w'.drewN n) ga (oa+tx*259) m.autos[tx] va vn v (hU.frm (F2.out.drewN n)) (ra.frm (F2.out.drewN n) (by simp)) (rn.frm (F2.out.drewN n) (by simp)) OK.out hvl
   have hd4:decide ((tx:Int)<(m.autos.length:Int))=true:=decide_eq_true (by omega);have hd5:decide (tx<m.autos.length)=true:=decide_eq_true hxl;generalize (m.autos[tx].acc.getD (autT m.autos[tx] 0 v) 0==1)=bb at *;subst hk1;clear hx' HC HA hU ra rn hrel hcs hk;go_wp2_with fail
   go_quiet ((go_at_call 85;exact Calls.quiet_of (TKS.out _)))
   go_wp2;go_ret;rw[HV.out];exact ⟨rfl,F2.out.drewN _⟩
theorem addQ5(g q j:Nat):(⟨g,q,none⟩:Addr).add j=⟨g,q+j,none⟩:=by unfold Addr.add;split<;>simp_all
def FreshQ(x:HitM)(w:World)(e:Ending)(w':World):Prop :=
 ∃ g,e=.returned (.agg (hcell x (.slice (some ⟨g,0,none⟩) x.bl.length x.bl.length)))∧Frm [] w w'∧w.heap.size≤g∧g<w'.heap.size∧RW [] 1 w' (.slice (some ⟨g,0,none⟩) x.bl.length x.bl.length) (sc x.bl)
theorem pfresh_any(x:HitM)(ab:Option Addr)(cb:Nat)(w:World)(hb:RW [] 1 w (.slice ab x.bl.length cb) (sc x.bl))(hlen:x.bl.length<5) :
 Calls Tryz.prog 67 #[.agg (hcell x (.slice ab x.bl.length cb))] w (FreshQ x w):=by
 obtain ⟨rc,bl,wt,ev,rp⟩:=x;simp only at hb hlen;obtain ⟨Zl,hZ⟩:∃ Zl:List Value,Zl=(madeCells #[.string ByteArray.empty] bl.length).toList:=⟨_,rfl⟩;have HZL:Hid (Zl.length=bl.length):=by show _=_;rw[hZ,Array.length_toList];exact size_madeCells _ _
 have hmk:∀ u:World,(Instr.makeSlice 47 (.int .i64 (bl.length:Int)) (.int .i64 (bl.length:Int))).run Tryz.prog u=.ok (.slice (some ⟨u.heap.size,0,none⟩) bl.length bl.length) (u.alloc (.cells Zl.toArray 9)):=fun u=>by
  obtain ⟨i0,hi,hz0,hz1,hz2⟩:=info_parts2 infoStr;have:=run_make (P:=Tryz.prog) u 47 9 i0 (.string ByteArray.empty) Tryz.underlying47 hi hz0 .i64 .i64 (bl.length:Int) (bl.length:Int) (by omega) (Int.le_refl _) (by rw[hz2];omega) (by omega);rw[hz1,Int.toNat_natCast,Nat.mul_one]at this;rw[this,hZ];rfl
 obtain ⟨cs,hcs⟩:∃ cs:List Value,cs=bl.map fun s=>.string (bs s):=⟨_,rfl⟩
 have HCL:Hid (cs.length=bl.length):=by show _=_;rw[hcs];simp
 obtain ⟨ab',cb',e,hrow⟩:=hb.str;simp only[Value.slice.injEq,true_and]at e;obtain ⟨rfl,rfl⟩:=e;have HROW:=hide hrow;have HCS:=hide hcs;clear hcs hZ hrow hb;obtain ⟨W,hW⟩:∃ W,W=((w.alloc (Obj.cells #[.string (bs rc), .slice ab bl.length cb, .int .i64 (wt:Nat), .int .i64 (ev:Nat), .int .i64 (rp:Nat)] 99)).alloc (Obj.cells hz 99)).alloc (Obj.cells Zl.toArray 9):=⟨_,rfl⟩;have FW:Frm [] w W:=by rw[hW];exact (((Frm.refl [] w).alloc _).alloc _).alloc _
 have hzW:W.heap.size=w.heap.size+3:=by rw[hW];simp
 have B0:Hid (W.heap[w.heap.size]?=some (Obj.cells #[.string (bs rc), .slice ab bl.length cb, .int .i64 (wt:Nat), .int .i64 (ev:Nat), .int .i64 (rp:Nat)] 99)):=by
  show _=_;rw[hW];exact ((((Frm.refl [] _).alloc _).alloc _).block w.heap.size (by simp) (by simp)).trans (heap1 _ _)
 have B1:Hid (W.heap[w.heap.size+1]?=some (Obj.cells hz 99)):=by
  show _=_;rw[hW];have:=heap1 (w.alloc (Obj.cells #[.string (bs rc), .slice ab bl.length cb, .int .i64 (wt:Nat), .int .i64 (ev:Nat), .int .i64 (rp:Nat)] 99)) (Obj.cells hz 99);rw[show (w.alloc (Obj.cells #[.string (bs rc), .slice ab bl.length cb, .int .i64 (wt:Nat), .int .i64 (ev:Nat), .int .i64 (rp:Nat)] 99)).heap.size=w.heap.size+1 by simp]at this;exact (((Frm.refl [] _).alloc _).block (w.heap.size+1) (by simp) (by simp)).trans this
 have B2:Hid (W.heap[w.heap.size+2]?=some (Obj.cells Zl.toArray 9 (0,0))):=by
  show _=_;rw[hW];have:=heap1 ((w.alloc (Obj.cells #[.string (bs rc), .slice ab bl.length cb, .int .i64 (wt:Nat), .int .i64 (ev:Nat), .int .i64 (rp:Nat)] 99)).alloc (Obj.cells hz 99)) (Obj.cells Zl.toArray 9);rw[show ((w.alloc (Obj.cells #[.string (bs rc), .slice ab bl.length cb, .int .i64 (wt:Nat), .int .i64 (ev:Nat), .int .i64 (rp:Nat)] 99)).alloc (Obj.cells hz 99)).heap.size=w.heap.size+2 by simp]at this;exact this
 have HN:Hid (cs.length=Nat.min bl.length bl.length):=by show _=_;rw[HCL.out];exact (Nat.min_self _).symm
 have HPOS:Hid (∀ dp:Option Addr,dp=some ⟨w.heap.size+2,0,none⟩→0<cs.length→dp=some ⟨w.heap.size+2,0,none⟩∧∃ ad,ab=some ad∧∀ j v,cs[j]?=some v→W.cell? (ad.add j)=some v):=by
  intro dp hdp h0;rw[HCL.out]at h0;obtain ⟨g,off,rfl,hg,_⟩:=HROW.out 0 h0;refine ⟨hdp,_,rfl,fun j v hv=>?_⟩;rw[HCS.out,List.getElem?_map,Option.map_eq_some_iff]at hv;obtain ⟨y,hy,rfl⟩:=hv;obtain ⟨hj,rfl⟩:=List.getElem?_eq_some_iff.1 hy;obtain ⟨g',off',e',hg',hc'⟩:=HROW.out j hj;simp only[Option.some.injEq,Addr.mk.injEq,and_true]at e';obtain ⟨rfl,rfl⟩:=e';rw[addQ5];exact FW.at (p:=⟨g,off+j,none⟩) hg hc'
 have HFIT:Hid (0+cs.length≤Zl.length):=by show _≤_;rw[HCL.out,HZL.out];omega
 have H1C:Hid (∀ v∈cs,v.oneCell'=true):=by
  intro v hv;rw[HCS.out]at hv;obtain ⟨y,_,rfl⟩:=List.mem_map.1 hv
  rfl
 have HB:Hid (Below (w.heap.size+2) W W):=Below.refl _ _;have HSP:Hid ((splice Zl 0 cs).toArray=cs.toArray):=by
  show _=_;unfold splice;rw[List.take_zero,List.nil_append,List.drop_eq_nil_of_le (by rw[HZL.out,HCL.out];omega),List.append_nil]
 have FWH:=hide FW;clear FW;simp only[hcell];go_enter Tryz.func67,Tryz.ntmps67
 rw[hW]at HB B2 HPOS;go_wp2_with (refine wpList_copy_splice rfl _ _ 47 47 rfl 9 Tryz.underlying47 infoStr1 _ _ _ _ _ _ rfl rfl (w.heap.size+2) 0 Zl 9 B2.out cs HN.out (HPOS.out _ rfl) HFIT.out H1C.out (w.heap.size+2) _ HB.out (by omega) ?_;intro w4 HG4 hB4;rw[← hW]at hB4;have C0:w4.heap[w.heap.size]?=_:=(hB4.block w.heap.size (by omega)).trans B0.out;have C1:w4.heap[w.heap.size+1]?=_:=(hB4.block (w.heap.size+1) (by omega)).trans B1.out;have a0:w4.cell? ⟨w.heap.size,0,none⟩=some (.string (bs rc)):=(by simp[World.cell?,C0]);have a1:w4.cell? ⟨w.heap.size,1,none⟩=some (.slice ab bl.length cb):=(by simp[World.cell?,C0]);have a2:w4.cell? ⟨w.heap.size,2,none⟩=some (.int .i64 (wt:Nat)):=(by simp[World.cell?,C0]);have a3:w4.cell? ⟨w.heap.size,3,none⟩=some (.int .i64 (ev:Nat)):=(by simp[World.cell?,C0]);have a4:w4.cell? ⟨w.heap.size,4,none⟩=some (.int .i64 (rp:Nat)):=(by simp[World.cell?,C0]);have az:∀ o,w4.frozen? ⟨w.heap.size,o,none⟩=false:=(fun o=>by simp[World.frozen?,C0]);have b0:w4.cell? ⟨w.heap.size+1,0,none⟩=some (.string ByteArray.empty):=(by simp[World.cell?,C1]);have b1:w4.cell? ⟨w.heap.size+1,1,none⟩=some (.slice none 0 0):=(by simp[World.cell?,C1]);have b2:w4.cell? ⟨w.heap.size+1,2,none⟩=some (.int .i64 0):=(by simp[World.cell?,C1]);have b3:w4.cell? ⟨w.heap.size+1,3,none⟩=some (.int .i64 0):=(by simp[World.cell?,C1]);have b4:w4.cell? ⟨w.heap.size+1,4,none⟩=some (.int .i64 0):=(by simp[World.cell?,C1]);have bz:∀ o,w4.frozen? ⟨w.heap.size+1,o,none⟩=false:=(fun o=>by simp[World.frozen?,C1]);have C1H:=hide C1;have HB4:=hide hB4;clear C0 C1 hB4)
 refine bodyPost_ret (results_cell1 rfl _ _ (w.heap.size+1) (hcell ⟨rc,bl,wt,ev,rp⟩ (.slice (some ⟨w.heap.size+2,0,none⟩) bl.length bl.length)) rfl (loadHit (set5_row _ _ _ _ _ ((((Frm.refl [w.heap.size] w4).setCell (p:=⟨w.heap.size,1,none⟩) (.inl (by simp)) _).block (w.heap.size+1) (by have:=HB4.out.size;omega) (by simp)).trans C1H.out)) rfl)) rfl ?_;have F4:Frm [] w w4:=FWH.out.below_trans HB4.out (by omega);have hz4:=HB4.out.size;have FS:∀ v,Frm [w.heap.size] w4 (w4.setCell ⟨w.heap.size,1,none⟩ v):=fun v=>(Frm.refl _ _).setCell (p:=⟨w.heap.size,1,none⟩) (.inl (by simp)) _
 have HG5:=HG4.out;rw[HSP.out]at HG5;refine ⟨w.heap.size+2,rfl,(F4.over (FS _) (by simp)).over (set5_frm _ _ _ _ _ _ _) (by simp),by omega,?_,?_⟩
 ·exact Nat.lt_of_lt_of_le (by omega:w.heap.size+2<w4.heap.size) (Nat.le_trans (FS _).size (set5_frm _ _ _ _ _ _ _).size)
 ·have R4:RW [w.heap.size,w.heap.size+1] 1 w4 (.slice (some ⟨w.heap.size+2,0,none⟩) bl.length bl.length) (sc bl):=by
   refine ⟨_,bl.length,by rw[sc_len],by rw[sc_len];omega,fun j hj=>⟨w.heap.size+2,0,rfl,by simp,by omega,fun c u hu=>?_⟩⟩;rw[sc_len]at hj;have hu2:c=0∧u=.string (bs bl[j]):=by
    cases c with
    | zero=>simp[sc]at hu;exact ⟨rfl,hu.symm⟩
    | succ c=>simp[sc]at hu
   obtain ⟨rfl,rfl⟩:=hu2;have hcj:cs[j]?=some (.string (bs bl[j])):=by rw[HCS.out];simp[hj]
   simp[World.cell?,HG5,hcj]
  exact ((R4.frm (FS _) (by simp)).frm (set5_frm _ _ _ _ _ _ _) (by simp)).avoid (by simp)
def PRunQ(A:List Nat)(m:Mach)(l:List Nat)(w:World)(e:Ending)(w':World):Prop :=
 ∃ v css,e=.returned v∧Frm [] w w'∧OW 99 5 w.heap.size w' v (lst css)∧RowI hitT A w' css (hitsM m l)
theorem pRun_any(A:List Nat)(w:World)(hA:∀ g∈A,g<w.heap.size)(pb:Nat)(V:V6)(m:Mach)(h:PR [] w pb V m)(ok:MOK m)(vl:Value)(L:List LBL)(hL:LR w vl L)(hval:∀ n,(lblV L n).length≤1048576) :
 Calls Tryz.prog 41 #[.pointer (some ⟨pb,0,none⟩),vl] w (PRunQ A m (runM m (lblV L) m.code.length 0) w):=by
 have H:=hide h;have OK:=hide ok;have HL:=hide hL;have HVAL:=hide hval;have hN:=ok.code.2.1;have hN1:=ok.code.1;have hpb:=h.lt;have HA:=hide hA;clear h ok hL hval hA;go_enter Tryz.func41,Tryz.ntmps41
 go_wp2_with fail
 go_loopg [5,6] m.code.length (fun k v5 v6 wr=>∃ (i:Nat) (l:List Nat) (css:List (Array Value)),v6=.int .i64 i∧i<m.code.length∧m.code.length≤i+k∧css.length≤i∧Frm [] w wr∧OW 99 5 w.heap.size wr v5 (lst css)∧Hid (RowI hitT (A++v5.ownBlock.toList) wr css (hitsM m l))∧Hid (l++runM m (lblV L) k i=runM m (lblV L) m.code.length 0))
 case atStart=>exact ⟨0,[],[],rfl,by omega,by omega,by simp,(Frm.refl _ _).alloc _,OW.empty _ _ _ _ (Nat.le_refl _),RowI.nil _ _ _,rfl⟩
 case round =>
  obtain ⟨i,l,css,rfl,hi,hik,hci,hF,hO,HI,HR⟩:=hrel;obtain ⟨ao,co,he⟩:=hO.shape;rw[lst_len]at he;subst he;have F:=hide hF;have O:=hide hO;have hzz:=hF.size;obtain ⟨n,hn⟩:∃ n,gk=n+1:=⟨gk-1,by omega⟩;subst hn;obtain ⟨ai,ci,hVi,_,hrow⟩:=H.out.pg.i;have hil:(icl m.code).length=m.code.length:=by simp[icl]
  obtain ⟨gi,oi,rfl,_,hgi,hcell⟩:=hrow i (by rw[hil];exact hi);have p5:=hF.at (p:=⟨pb,5,none⟩) hpb H.out.c5;rw[hVi,hil]at p5;have y0:wr.cell? ⟨gi,oi+i*4,none⟩=some (.int .i64 (m.code[i].op:Nat)):=hF.at (p:=⟨gi,oi+i*4+0,none⟩) hgi (hcell 0 _ (by simp[icl,icell]));have y1:wr.cell? ⟨gi,oi+i*4+1,none⟩=some (.int .i64 (m.code[i].x:Nat)):=hF.at (p:=⟨gi,oi+i*4+1,none⟩) hgi (hcell 1 _ (by simp[icl,icell]));have y2:wr.cell? ⟨gi,oi+i*4+2,none⟩=some (.int .i64 (m.code[i].a:Nat)):=hF.at (p:=⟨gi,oi+i*4+2,none⟩) hgi (hcell 2 _ (by simp[icl,icell]));have y3:wr.cell? ⟨gi,oi+i*4+3,none⟩=some (.int .i64 (m.code[i].b:Nat)):=hF.at (p:=⟨gi,oi+i*4+3,none⟩) hgi (hcell 3 _ (by simp[icl,icell]));have hcase:=ins_cases OK.out (lblV L) hi n;have hib2:=(OK.out.code.2.2 i hi).x;have HTC:Hid ((lst css).length=css.length):=lst_len css;have hd1:decide ((i:Int)<(m.code.length:Int))=true:=decide_eq_true (by omega);have hd1':decide (i<m.code.length)=true:=decide_eq_true hi;clear hrow hcell hil hVi hF hO;generalize m.code[i]=c at *;obtain ⟨op,x,a,b⟩:=c;simp only at y0 y1 y2 y3 hcase hib2;rcases hcase with ⟨rfl,hrun⟩|⟨rfl,hxr,hia,han,hrun⟩|⟨rfl,hia,han,hib,hbn,hxt,htok,hrun⟩
  ·have HE:Hid (runM m (lblV L) m.code.length 0=l):=by
    show _=_;rw[← HR.out,hrun,List.append_nil]
   clear HR hrun;go_wp2;go_ret;rw[HE.out];exact ⟨_,css,rfl,F.out.alloc _,O.out.frm (S:=[]) ((Frm.refl [] _).alloc _) (by simp),(HI.out.frm (S:=[]) ((Frm.refl [] _).alloc _) (by simp)).avoid (fun y hy=>.inl (List.mem_append_left _ hy))⟩
  ·have HR2:Hid ((l++[x])++runM m (lblV L) n a=runM m (lblV L) m.code.length 0):=by
    show _=_;rw[← HR.out,hrun];simp
   obtain ⟨cssr,r1,r2⟩:=H.out.pg.r;obtain ⟨ar,cr,hVr,hrr⟩:=row_at r1 r2;obtain ⟨gr,orr,csr,rfl,hgr,_,hrel,hcell⟩:=hrr x hxr;have HS:Hid (hitsM m (l++[x])=hitsM m l++[m.routes[x]]):=hitsM_snoc m l x hxr;have hbl:=(OK.out.routes.2 m.routes[x] (List.getElem_mem hxr)).b1;have hr17:=OK.out.routes.1;generalize m.routes[x]=hx at *;obtain ⟨vb,rfl,hvb⟩:=hrel;obtain ⟨ab,cb,rfl,_⟩:=hvb.str;have p4:=F.out.at (p:=⟨pb,4,none⟩) hpb H.out.c4;rw[hVr]at p4;have q0:wr.cell? ⟨gr,orr+x*5,none⟩=some (.string (bs hx.rc)):=F.out.at (p:=⟨gr,orr+x*5+0,none⟩) hgr (hcell 0 _ rfl);have q1:wr.cell? ⟨gr,orr+x*5+1,none⟩=some (.slice ab hx.bl.length cb):=F.out.at (p:=⟨gr,orr+x*5+1,none⟩) hgr (hcell 1 _ rfl);have q2:wr.cell? ⟨gr,orr+x*5+2,none⟩=some (.int .i64 (hx.wt:Nat)):=F.out.at (p:=⟨gr,orr+x*5+2,none⟩) hgr (hcell 2 _ rfl);have q3:wr.cell? ⟨gr,orr+x*5+3,none⟩=some (.int .i64 (hx.ev:Nat)):=F.out.at (p:=⟨gr,orr+x*5+3,none⟩) hgr (hcell 3 _ rfl);have q4:wr.cell? ⟨gr,orr+x*5+4,none⟩=some (.int .i64 (hx.rp:Nat)):=F.out.at (p:=⟨gr,orr+x*5+4,none⟩) hgr (hcell 4 _ rfl);have FR:Hid (∀ W,Frm [] w W→Calls Tryz.prog 67 #[.agg #[.string (bs hx.rc), .slice ab hx.bl.length cb, .int .i64 (hx.wt:Nat), .int .i64 (hx.ev:Nat), .int .i64 (hx.rp:Nat)]] W fun e w'=>∃ g,e=.returned (.agg #[.string (bs hx.rc), .slice (some ⟨g,0,none⟩) hx.bl.length hx.bl.length, .int .i64 (hx.wt:Nat), .int .i64 (hx.ev:Nat), .int .i64 (hx.rp:Nat)])∧Frm [] W w'∧W.heap.size≤g∧g<w'.heap.size∧RW [] 1 w' (.slice (some ⟨g,0,none⟩) hx.bl.length hx.bl.length) (sc hx.bl)):=fun W f =>
    (pfresh_any hx ab cb W ((hvb.frm f (by simp)).avoid (by simp)) hbl).mono (fun e w' h=>h)
   obtain ⟨h1,h2,h3,h4,h5⟩:=hx;simp only at q0 q1 q2 q3 q4 FR hbl;have hd2:decide ((x:Int)<(m.routes.length:Int))=true:=decide_eq_true (by omega);have hd2':decide (x<m.routes.length)=true:=decide_eq_true hxr;have hx0:0≤x:=Nat.zero_le _;have hpb2:pb<wr.heap.size:=by omega
   have hgr2:gr<wr.heap.size:=by omega
   have hd3:decide ((0:Int)≤(x:Int))=true:=decide_eq_true (by omega);clear HR hrun hcell hrr r1 r2 hVr hvb;go_wp2_with fail
   go_quiet (fail)
   go_upto_region 10 with fail
   go_cut [9] (fun v9 wc=>True∧∃ (g bh:Nat),v9=.pointer (some ⟨bh,0,none⟩)∧bh<wc.heap.size∧wc.heap[bh]?=some (Obj.cells #[.string (bs h1), .slice (some ⟨g,0,none⟩) h2.length h2.length, .int .i64 (h3:Nat), .int .i64 (h4:Nat), .int .i64 (h5:Nat)] 99 (0,0))∧Frm [] w wc∧OW 99 5 w.heap.size wc (.slice ao css.length co) (lst css)∧RowI hitT (A++(Value.ownBlock (.slice ao css.length co)).toList) wc css (hitsM m l)∧RW (A++(Value.ownBlock (.slice ao css.length co)).toList) 1 wc (.slice (some ⟨g,0,none⟩) h2.length h2.length) (sc h2))
   case first =>
    have FN1:Hid (Frm [] w ((wr.alloc (Obj.cells #[.int .i64 1, .int .i64 (x:Nat), .int .i64 (a:Nat), .int .i64 (b:Nat)] 102)).drewN (nq+1))):=(F.out.alloc _).drewN _;have FN2:Hid (Frm [] w (((wr.alloc (Obj.cells #[.int .i64 1, .int .i64 (x:Nat), .int .i64 (a:Nat), .int .i64 (b:Nat)] 102)).drewN (nq+1)).alloc (Obj.cells #[.string { data:=#[] }, .slice none 0 0, .int .i64 0, .int .i64 0, .int .i64 0] 99))):=((F.out.alloc _).drewN _).alloc _;go_region_with (first | (go_at_call 67;(with_reducible refine (FR.out _ FN1.out).mono ?_);rintro e w2 ⟨g,rfl,hF2,hg,hg2,hR⟩)|(go_at_call 67;(with_reducible refine (FR.out _ FN2.out).mono ?_);rintro e w2 ⟨g,rfl,hF2,hg,hg2,hR⟩;have B2:w2.heap[wr.heap.size+1]?=some (Obj.cells hz 99):=(hF2.block (wr.heap.size+1) (by simp) (by simp)).trans (heap_bd _ _ _ _);have b0:w2.cell? ⟨wr.heap.size+1,0,none⟩=some (.string ByteArray.empty):=(by simp[World.cell?,B2]);have b1:w2.cell? ⟨wr.heap.size+1,1,none⟩=some (.slice none 0 0):=(by simp[World.cell?,B2]);have b2:w2.cell? ⟨wr.heap.size+1,2,none⟩=some (.int .i64 0):=(by simp[World.cell?,B2]);have b3:w2.cell? ⟨wr.heap.size+1,3,none⟩=some (.int .i64 0):=(by simp[World.cell?,B2]);have b4:w2.cell? ⟨wr.heap.size+1,4,none⟩=some (.int .i64 0):=(by simp[World.cell?,B2]);have bz:∀ o,w2.frozen? ⟨wr.heap.size+1,o,none⟩=false:=(fun o=>by simp[World.frozen?,B2]);have B2H:=hide B2;clear B2))
    all_goals
     have hob:∀ r,Value.ownBlock (.slice ao css.length co)=some r→r<wr.heap.size:=fun r hr=>(O.out.lt hr).2
     have hg3:wr.heap.size≤g:=by simp at hg;omega
     have F2:=(F.out.alloc (Obj.cells #[.int .i64 1, .int .i64 (x:Nat), .int .i64 (a:Nat), .int .i64 (b:Nat)] 102)).drewN (nq+1);have hR2:RW (A++(Value.ownBlock (.slice ao css.length co)).toList) 1 w2 (.slice (some ⟨g,0,none⟩) h2.length h2.length) (sc h2):=hR.notin (fun hm=>by
      rcases List.mem_append.1 hm with hm|hm
      ·have:=HA.out g hm;omega
      ·simp at hm;have:=hob g hm;omega)
     first
     | (have FA:Frm [] wr (w2.alloc (Obj.cells #[.string (bs h1), .slice (some ⟨g,0,none⟩) h2.length h2.length, .int .i64 (h3:Nat), .int .i64 (h4:Nat), .int .i64 (h5:Nat)] 99)):=((((Frm.refl [] wr).alloc _).drewN _).trans hF2).alloc _
        go_wp2;go_meet;exact ⟨trivial,g,w2.heap.size,rfl,by simp,heap1 _ _,F.out.trans FA,O.out.frm FA (by simp),HI.out.frm FA (by simp),hR2.frm ((Frm.refl [] _).alloc _) (by simp)⟩)
     | (have FA:Frm [] wr w2:=((((Frm.refl [] wr).alloc _).drewN _).alloc _).trans hF2
        have B3:=B2H.out;have hne:Value.ownBlock (.slice ao css.length co)≠some (wr.heap.size+1):=fun e=>by have:=hob _ e;omega
        have hgn:g≠wr.heap.size+1:=by simp at hg;omega
        go_wp2;go_meet;refine ⟨trivial,g,wr.heap.size+1,rfl,?_,set5_row _ _ _ _ _ B3,?_,?_,?_,?_⟩
        ·exact Nat.lt_of_lt_of_le (Array.getElem?_eq_some_iff.1 B3).1 (set5_frm _ _ _ _ _ _ _).size
        ·exact (F.out.trans FA).over (set5_frm _ _ _ _ _ _ _) (by intro y hy;simp at hy;left;omega)
        ·exact (O.out.frm FA (by simp)).far (set5_frm _ _ _ _ _ _ _) hne
        ·exact ((((HI.out.avoid (B:=(wr.heap.size+1)::(A++(Value.ownBlock (.slice ao css.length co)).toList)) (by intro y hy;rcases List.mem_cons.1 hy with hy|hy;right;omega;left;exact hy)).frm FA (by simp)).frm (set5_frm _ _ _ _ _ _ _) (by simp)).avoid (by intro y hy;left;exact List.mem_cons_of_mem _ hy))
        ·exact ((hR.notin (B:=(wr.heap.size+1)::(A++(Value.ownBlock (.slice ao css.length co)).toList)) (by intro hm;rcases List.mem_cons.1 hm with hm|hm;exact hgn hm;rcases List.mem_append.1 hm with hm|hm;have:=HA.out g hm;omega;simp at hm;have:=hob g hm;omega)).frm (set5_frm _ _ _ _ _ _ _) (by simp)).avoid (by intro y hy;left;exact List.mem_cons_of_mem _ hy))
   case rest =>
    obtain ⟨_,g,bh,rfl,hbh,hB,hFc,hOc,hIc,hRc⟩:=hcut;have F9:=hide hFc;have O9:=hide hOc;have I9:=hide hIc;have R9:=hide hRc;have z0:wc.cell? ⟨bh,0,none⟩=some (.string (bs h1)):=by simp[World.cell?,hB]
    have z1:wc.cell? ⟨bh,1,none⟩=some (.slice (some ⟨g,0,none⟩) h2.length h2.length):=by simp[World.cell?,hB]
    have z2:wc.cell? ⟨bh,2,none⟩=some (.int .i64 (h3:Nat)):=by simp[World.cell?,hB]
    have z3:wc.cell? ⟨bh,3,none⟩=some (.int .i64 (h4:Nat)):=by simp[World.cell?,hB]
    have z4:wc.cell? ⟨bh,4,none⟩=some (.int .i64 (h5:Nat)):=by simp[World.cell?,hB]
    have hzc:=hFc.size;have HCX:Hid (∀ j u,(hcell ⟨h1,h2,h3,h4,h5⟩ (.slice (some ⟨g,0,none⟩) h2.length h2.length)).toList[j]?=some u→(wc.alloc (Obj.cells #[.string (bs h1), .slice (some ⟨g,0,none⟩) h2.length h2.length, .int .i64 (h3:Nat), .int .i64 (h4:Nat), .int .i64 (h5:Nat)] 99)).cell? ⟨wc.heap.size,j,none⟩=some u):=by
     intro j u hu;have:=heap1 wc (Obj.cells #[.string (bs h1), .slice (some ⟨g,0,none⟩) h2.length h2.length, .int .i64 (h3:Nat), .int .i64 (h4:Nat), .int .i64 (h5:Nat)] 99);simp only[World.cell?,this];simpa[hcell] using hu
    clear hB hFc hOc hIc hRc FR p4 q0 q1 q2 q3 q4 p5 y0 y1 y2 y3 HI O F;go_wp2_with (at_builtin;refine wp_appG _ rfl _ _ 55 99 _ 5 64 infoHit Tryz.underlying55 rfl (by omega) rfl w.heap.size (.slice ao css.length co) (lst css) wc.heap.size (hcell ⟨h1,h2,h3,h4,h5⟩ (.slice (some ⟨g,0,none⟩) h2.length h2.length)).toList rfl (O9.out.frm (S:=[]) ((Frm.refl [] _).alloc _) (by simp)) rfl rfl HCX.out (by intro u hu;simp[hcell]at hu;rcases hu with rfl|rfl|rfl|rfl|rfl<;>rfl) (by rw[HTC.out];omega) (by rw[HTC.out];omega) (by simp;omega) ?_;intro gg cap2 w4 hown4 hgrow hat hlt4;rw[HTC.out]at hown4 ⊢)
    have F4:Hid (Frm [] w w4):=(F9.out.alloc _).grown hgrow (fun r hr=>.inr (O9.out.lt hr).1);have O4:=hide hown4;have I4:Hid (RowI hitT (A++[gg]) w4 (css++[hcell ⟨h1,h2,h3,h4,h5⟩ (.slice (some ⟨g,0,none⟩) h2.length h2.length)]) (hitsM m l++[⟨h1,h2,h3,h4,h5⟩])) :=
     ((I9.out.frm (S:=[]) ((Frm.refl [] _).alloc _) (by simp)).snoc ⟨g,rfl,R9.out.frm (S:=[]) ((Frm.refl [] _).alloc _) (by simp)⟩).app hgrow hat
    clear hgrow hown4 hat I9 R9 HCX z0 z1 z2 z3 z4;go_roundg n
    case measure=>omega
    case rel =>
     have O5:=O4.out;rw[lst_snoc]at O5;refine ⟨a,l++[x],css++[hcell ⟨h1,h2,h3,h4,h5⟩ (.slice (some ⟨g,0,none⟩) h2.length h2.length)],rfl,han,by omega,by simp;omega,F4.out,O5,?_,HR2⟩;show RowI _ _ _ _ _;rw[HS.out];exact I4.out
  ·have HD:Hid (∀ W,Frm [] w W→Calls Tryz.prog 68 #[.pointer (some ⟨pb,0,none⟩), .int .i64 x,vl] W fun e w'=>e=.returned (.bool (tstM m (lblV L (m.names.getD m.tests[x].n [])) m.tests[x]))∧Frm [] W w'):=fun W f =>
    pholds_any W pb V m (H.out.frm f (by simp)) OK.out x hxt vl L (HL.out.frm f (by simp)) HVAL.out
   have HRUN:=hide hrun;have FN:Hid (Frm [] w (wr.alloc (Obj.cells #[.int .i64 2, .int .i64 (x:Nat), .int .i64 (a:Nat), .int .i64 (b:Nat)] 102))):=F.out.alloc _;have ON:=hide (O.out.frm (S:=[]) ((Frm.refl [] _).alloc (Obj.cells #[.int .i64 2, .int .i64 (x:Nat), .int .i64 (a:Nat), .int .i64 (b:Nat)] 102)) (by simp));have IN:=hide (HI.out.frm (S:=[]) ((Frm.refl [] _).alloc (Obj.cells #[.int .i64 2, .int .i64 (x:Nat), .int .i64 (a:Nat), .int .i64 (b:Nat)] 102)) (by simp));clear hrun htok;generalize hbt:tstM m (lblV L (m.names.getD m.tests[x].n [])) m.tests[x]=bt at *;clear hbt;have N1:=hide (HD.out _ FN.out);go_wp2_with fail
   refine (N1.out).mono ?_;rintro e w2 ⟨rfl,hF2⟩;have B2:w2.heap[wr.heap.size]?=some (Obj.cells #[.int .i64 2, .int .i64 (x:Nat), .int .i64 (a:Nat), .int .i64 (b:Nat)] 102):=(hF2.block wr.heap.size (by simp) (by simp)).trans (heap1 _ _);have d3:w2.cell? ⟨wr.heap.size,3,none⟩=some (.int .i64 (b:Nat)):=by simp[World.cell?,B2]
   have F2:=hide (FN.out.trans hF2);have O2:=hide (ON.out.frm hF2 (by simp));have I2:=hide (IN.out.frm hF2 (by simp));clear N1 hF2 B2 FN ON IN O HI HD;cases bt
   ·have HR2:Hid (l++runM m (lblV L) n b=runM m (lblV L) m.code.length 0):=by
     show _=_;rw[← HR.out,HRUN.out];rfl
    clear HR HRUN;go_wp2;go_roundg n
    case measure=>omega
    case rel=>exact ⟨b,l,css,rfl,hbn,by omega,by omega,F2.out,O2.out,I2,HR2⟩
   ·have HR2:Hid (l++runM m (lblV L) n a=runM m (lblV L) m.code.length 0):=by
     show _=_;rw[← HR.out,HRUN.out];rfl
    clear HR HRUN;go_wp2;go_roundg n
    case measure=>omega
    case rel=>exact ⟨a,l,css,rfl,han,by omega,by omega,F2.out,O2.out,I2,HR2⟩
theorem areLabels_any(v:Value)(L:List LBL)(w:World)(h:LR w v L)(hn:∀ x∈L,x.1.length≤1048576∧x.2.length≤1048576)(hcap:∀ a n c,v=.slice a n c→L.length≤c) :
 Calls Tryz.prog 40 #[v] w fun e w'=>e=.returned (.bool (labsOK L))∧Frm [] w w':=by
 have HLR:=hide h;obtain ⟨a,cap,rfl,h0,h1⟩:=h;have hc:=hcap a _ cap rfl;have H1:=hide h1;have HN:=hide hn;have hl:=bs_toList;have hsz:=bs_size;clear h1 hn hcap
 by_cases hL:12<L.length
 ·have HV:Hid (labsOK L=false):=by show _=_;unfold labsOK;rw[decide_eq_false (by omega)];rfl
  have hd:decide ((12:Int)<(L.length:Int))=true:=decide_eq_true (by omega);have hd':decide (12<L.length)=true:=decide_eq_true hL;go_enter Tryz.func40,Tryz.ntmps40
  go_wp2;go_ret;rw[HV.out];exact ⟨rfl,Frm.refl _ _⟩
 ·have HO:Hid (labsOK L=labsB [] L):=by show _=_;unfold labsOK;rw[decide_eq_true (by omega)];rfl
  have hd:decide ((12:Int)<(L.length:Int))=false:=decide_eq_false (by omega);have hd':decide (12<L.length)=false:=decide_eq_false hL;go_enter Tryz.func40,Tryz.ntmps40
  go_wp2_with fail
  go_loopg [10] L.length (fun k v10 wr=>∃ j:Nat,j+k=L.length∧v10=.int .i64 j∧Frm [] w wr∧Hid (labsB (L.take j) (L.drop j)=labsOK L))
  case atStart=>exact ⟨0,by omega,rfl,Frm.refl _ _,by show _=_;rw[HO.out];simp⟩
  case round =>
   obtain ⟨j,hjk,rfl,hfr,HF⟩:=hrel;have F:=hide hfr;have hzr:=hfr.size;clear hfr
   by_cases hlt:j<L.length
   ·have hd1:decide ((j:Int)<(L.length:Int))=true:=decide_eq_true (by omega)
    obtain ⟨g,off,rfl,hg,hc1,hc2⟩:=H1.out j hlt;have hx:=HN.out L[j] (List.getElem_mem hlt);have q1:=(F.out.cell (p:=⟨g,off+j*2,none⟩) hg (by simp)).trans hc1;have q2:=(F.out.cell (p:=⟨g,off+j*2+1,none⟩) hg (by simp)).trans hc2;have HA:Hid (labsOK L=(isNameL L[j].1&&decide (L[j].2.length≤40)&&!((L.take j).any fun y=>y.1==L[j].1)&&labsB (L.take (j+1)) (L.drop (j+1)))):=by
     show _=_;rw[← HF.out];exact labsB_at L j hlt
    clear HF hc1 hc2;generalize hLj:L[j]=x at *;clear hLj;obtain ⟨nm,vl⟩:=x;simp only at q1 q2 hx HA
    by_cases hvl:40<vl.length
    ·have hd2:decide ((40:Int)<(vl.length:Int))=true:=decide_eq_true (by omega)
     have hd2':decide (40<vl.length)=true:=decide_eq_true hvl;have HV:Hid (labsOK L=false):=by show _=_;rw[HA.out,decide_eq_false (by omega)];simp
     go_wp2_with fail
     go_quiet (fail)
     go_wp2;go_ret;rw[HV.out];exact ⟨rfl,(F.out.alloc _).drewN _⟩
    ·have hd2:decide ((40:Int)<(vl.length:Int))=false:=decide_eq_false (by omega)
     have hd2':decide (40<vl.length)=false:=decide_eq_false hvl;cases hin:isNameL nm
     ·have HV:Hid (labsOK L=false):=by show _=_;rw[HA.out,hin];rfl
      have NA:Hid (∀ W,Calls Tryz.prog 65 #[.string (bs nm)] W fun e w'=>e=.returned (.bool false)∧w'=W):=fun W=>by have:=IsName_any nm W hx.1;rw[hin]at this;exact this.mono (fun e w' h=>⟨h.1,h.2.symm⟩)
      go_wp2_with fail
      go_quiet ((go_at_call 65;exact Calls.quiet_of_same (NA.out _)))
      go_wp2;go_ret;rw[HV.out];exact ⟨rfl,(F.out.alloc _).drewN _⟩
     ·have NA:Hid (∀ W,Calls Tryz.prog 65 #[.string (bs nm)] W fun e w'=>e=.returned (.bool true)∧W=w'):=fun W=>by have:=IsName_any nm W hx.1;rw[hin]at this;exact this
      have HA2:Hid (labsOK L=(!((L.take j).any fun y=>y.1==nm)&&labsB (L.take (j+1)) (L.drop (j+1)))):=by
       show _=_;rw[HA.out,hin,decide_eq_true (by omega)];rfl
      have LT:Hid (∀ W,Frm [] w W→Calls Tryz.prog 66 #[.slice (some ⟨g,off,none⟩) j cap, .string (bs nm)] W fun e w'=>e=.returned (.bool ((L.take j).any fun x=>x.1==nm))∧Frm [] W w'):=fun W hW=>isNamed_any _ (L.take j) nm W ((HLR.out.frm hW (by simp)).take j (by omega))
      have hjc:j≤cap:=by omega
      clear HA;have FN:Hid (Frm [] w (wr.alloc (Obj.cells #[.string (bs nm), .string (bs vl)] 29)).drew):=(F.out.alloc _).drew;cases han:((L.take j).any fun x=>x.1==nm)
      ·rw[han]at LT
       have HF2:Hid (labsB (L.take (j+1)) (L.drop (j+1))=labsOK L):=by show _=_;rw[HA2.out,han];rfl
       go_wp2_with fail
       go_region_with (first | (go_at_call 65;refine (NA.out _).mono ?_;rintro e w' ⟨rfl,rfl⟩)|(go_at_call 66;refine (LT.out _ FN.out).mono ?_;rintro e w' ⟨rfl,hF'⟩))
       all_goals
        have F2:=hide (FN.out.trans hF');clear hF';go_wp2;go_roundg (gk-1)
        case measure=>omega
        case rel=>exact ⟨j+1,by omega,by go_num,F2.out,HF2⟩
      ·rw[han]at LT
       have HV:Hid (labsOK L=false):=by show _=_;rw[HA2.out,han];rfl
       go_wp2_with fail
       go_region_with (first | (go_at_call 65;refine (NA.out _).mono ?_;rintro e w' ⟨rfl,rfl⟩)|(go_at_call 66;refine (LT.out _ FN.out).mono ?_;rintro e w' ⟨rfl,hF'⟩))
       all_goals
        have F2:=hide (FN.out.trans hF');clear hF';go_wp2;go_ret;rw[HV.out];exact ⟨rfl,F2.out⟩
   ·have hd1:decide ((j:Int)<(L.length:Int))=false:=decide_eq_false (by omega)
    have HV:Hid (labsOK L=true):=by
     show _=_;rw[← HF.out,List.drop_eq_nil_of_le (by omega)];rfl
    clear HF;go_wp2;go_ret;rw[HV.out];exact ⟨rfl,F.out⟩
def LV(L:List LBL):Prop:=∀ x∈L,x.1.length≤1048576∧x.2.length≤1048576
theorem LV.val{L:List LBL}(h:LV L)(n:List UInt8):(lblV L n).length≤1048576:=by
 unfold lblV;cases hf:L.find? fun x=>x.1==n with
 | none=>simp
 | some x=>exact (h x (List.mem_of_find?_eq_some hf)).2
def RouteQ(A:List Nat)(m:Mach)(L:List LBL)(w:World)(e:Ending)(w':World):Prop :=
 ∃ v css,Frm [] w w'∧((labsOK L=false∧e=.returned (.tuple #[.slice none 0 0, .int .i64 8]))∨(labsOK L=true∧e=.returned (.tuple #[v, .int .i64 0])∧OW 99 5 w.heap.size w' v (lst css)∧RowI hitT A w' css (hitsM m (runM m (lblV L) m.code.length 0))))
theorem aRouteA_any(A:List Nat)(w:World)(hA:∀ g∈A,g<w.heap.size)(pb:Nat)(V:V6)(m:Mach)(h:PR [] w pb V m)(ok:MOK m)(a:Option Addr)(k cap:Nat)(L:List LBL)(hL:LR w (.slice a k cap) L)(hv:LV L)(hcap:L.length≤cap) :
 Calls Tryz.prog 19 #[.pointer (some ⟨pb,0,none⟩), .slice a k cap] w (RouteQ A m L w):=by
 have N1:=hide (areLabels_any (.slice a k cap) L w hL hv (fun a' n' c' e=>by cases e;exact hcap));have H:=hide h;have HA:=hide hA;have OK:=hide ok;have HL:=hide hL;have HV:=hide hv;clear h ok hL hv hcap hA;go_enter Tryz.func19,Tryz.ntmps19
 go_wp2_with fail
 refine (N1.out).mono ?_;clear N1;rintro e w1 ⟨rfl,hF1⟩;have F1:=hide hF1;have N2:=hide (pRun_any A w1 (fun g hg=>Nat.lt_of_lt_of_le (HA.out g hg) hF1.size) pb V m (H.out.frm hF1 (by simp)) OK.out (.slice a k cap) L (HL.out.frm hF1 (by simp)) HV.out.val);have hz1:=hF1.size;clear hF1;cases hl:labsOK L
 ·have HLB:=hide hl
  clear hl;go_wp2;go_ret2;exact ⟨.slice none 0 0,[],F1.out, .inl ⟨HLB.out,rfl⟩⟩
 ·have HLB:=hide hl
  clear hl;go_wp2_with fail
  refine (N2.out).mono ?_;clear N2;rintro e w2 ⟨v,css,rfl,hF2,hO,hI⟩;obtain ⟨ao,co,he⟩:=hO.shape;rw[lst_len]at he;subst he;have F2:=hide (F1.out.trans hF2);have O:=hide hO;have I:=hide hI;clear hF2 hO hI;go_wp2;go_ret2;exact ⟨_,css,F2.out, .inr ⟨HLB.out,rfl,⟨⟨O.out.1.1,O.out.1.2.imp id (fun ⟨g,c,cu,h1,h2,h3⟩=>⟨g,c,cu,h1,by omega,h3⟩)⟩,O.out.2⟩,I.out⟩⟩
theorem aRoute_any(w:World)(pb:Nat)(V:V6)(m:Mach)(h:PR [] w pb V m)(ok:MOK m)(a:Option Addr)(k cap:Nat)(L:List LBL)(hL:LR w (.slice a k cap) L)(hv:LV L)(hcap:L.length≤cap) :
 Calls Tryz.prog 19 #[.pointer (some ⟨pb,0,none⟩), .slice a k cap] w (RouteQ [] m L w):=aRouteA_any [] w (by simp) pb V m h ok a k cap L hL hv hcap
end Go.Proofs.YtpcbbbilmpobaaaGreatDoor
