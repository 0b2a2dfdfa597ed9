import Derived.Test.YtjkialjoamgbgaaGreatJ48
import Derived.Test.YtjkialjoamgbgaaGreatJ43
import Derived.Test.YtjkialjoamgbgaaGreatJ47
import Derived.Test.YtjkialjoamgbgaaGreatJ27
set_option linter.unusedVariables false
set_option linter.unusedSimpArgs false
set_option linter.unnecessarySimpa false
set_option maxRecDepth 100000
set_option maxHeartbeats 4000000
namespace Go.Proofs.YtjkialjoamgbgaaGreat
open Go.RowKit
def fstE(e:RX):List Nat:=fstK (setsOf e) 256
def clsE(e:RX):List Nat:=clsL (setsOf e) 256
def autE(e:RX):Bool × List (List Nat) × List Nat:=autR (nrm e) (fstE e)
def reC(t:List UInt8):Nat :=
 match pWhole t with
 | none=>5
 | some e=>if 40<plcG e then 6 else if (autE e).1 then 0 else 7
def CompP(w:World)(t:List UInt8)(en:Ending)(w':World):Prop :=
 Frm [] w w'∧∃ cs:Array Value,cs.size=259∧cs.all (·.oneCell')=true∧en=.returned (.tuple #[.agg cs, .int .i64 (reC t)])∧(reC t≠0→cs=Tryz.zeroCells124) ∧
  (∀ e,pWhole t=some e→reC t=0→∃ va vn,cs=(Value.int .i64 (fstE e).length::(nv .u8 (clsE e)++[va,vn])).toArray∧QL w.heap.size w' va ((autE e).2.1.map fun u=>nul (dW (nrm e) u))∧IL w.heap.size w' vn (autE e).2.2)
theorem frm_of_fp{b:Nat}{w w':World}(h:FP w.heap.size b w w'):Frm [b] w w':=⟨h.os,h.tape,h.output,h.size,fun k hk hS=>h.block k hk (by simpa using hS) (.inl hk)⟩
theorem clsL_len(S:List Nat)(n:Nat):(clsL S n).length=n:=by simp[clsL]
theorem pWhole_sets{t:List UInt8}{x:RX}(h:pWhole t=some x):(setsOf x).length≤t.length:=by
 unfold pWhole at h
 split at h
 ·rename_i y hy
  simp at h;subst h
  have:=(pAlt_sets hy).1
  simp[setsL]at this;exact this
 ·simp at h
theorem AutP.ok{w w':World}{e:RX}{en:Ending}(h:AutP w e (fstE e) (clsE e) en w')(hk:(autE e).1=true):Frm [] w w'∧∃ va vn,en=.returned (.tuple #[.agg (.int .i64 (fstE e).length::(nv .u8 (clsE e)++[va,vn])).toArray, .bool true])∧QL w.heap.size w' va ((autE e).2.1.map fun u=>nul (dW (nrm e) u))∧IL w.heap.size w' vn (autE e).2.2:=by
 unfold autE at hk ⊢;exact ⟨h.1,h.2.2 hk⟩
theorem AutP.no{w w':World}{e:RX}{en:Ending}(h:AutP w e (fstE e) (clsE e) en w')(hk:(autE e).1=false):Frm [] w w'∧en=.returned (.tuple #[.agg Tryz.zeroCells124, .bool false]):=by
 unfold autE at hk;exact ⟨h.1,h.2.1 hk⟩
theorem xCompile_any(t:List UInt8)(w:World)(ht:t.length≤40):Calls Tryz.prog 86 #[.string (bs t)] w (CompP w t):=by
 go_enter Tryz.func86,Tryz.ntmps86
 go_wp2_with fail
 have F1:Frm [] w ((w.alloc (Obj.cells Tryz.zeroCells124 124)).alloc (Obj.cells #[.string (bs t), .int .i64 0, .slice none 0 0] 176)):=((Frm.refl _ _).alloc _).alloc _
 have hz1:((w.alloc (Obj.cells Tryz.zeroCells124 124)).alloc (Obj.cells #[.string (bs t), .int .i64 0, .slice none 0 0] 176)).heap.size=w.heap.size+2:=by simp
 have hR1:((w.alloc (Obj.cells Tryz.zeroCells124 124)).alloc (Obj.cells #[.string (bs t), .int .i64 0, .slice none 0 0] 176)).heap[w.heap.size]?=some (.cells Tryz.zeroCells124 124 (0,0)):=by
  rw[((Frm.refl [] _).alloc _).block w.heap.size (by simp) (by simp)]
  exact heap1 _ _
 have hP1:PA ((w.alloc (Obj.cells Tryz.zeroCells124 124)).alloc (Obj.cells #[.string (bs t), .int .i64 0, .slice none 0 0] 176)) (w.heap.size+1) t t (.slice none 0 0):=by
  refine ⟨0,⟨?_,by omega,by omega⟩,rfl⟩
  have:=heap1 (w.alloc (Obj.cells Tryz.zeroCells124 124)) (Obj.cells #[.string (bs t), .int .i64 0, .slice none 0 0] 176)
  have hw1:(w.alloc (Obj.cells Tryz.zeroCells124 124)).heap.size=w.heap.size+1:=by simp
  rw[hw1]at this;exact this
 generalize (w.alloc (Obj.cells Tryz.zeroCells124 124)).alloc (Obj.cells #[.string (bs t), .int .i64 0, .slice none 0 0] 176)=w1 at F1 hz1 hR1 hP1 ⊢
 have HF1:=hide F1
 have HR1:=hide hR1
 have PR:=hide (parse_any w1.heap.size (w.heap.size+1) t w1 hP1 (by omega) (Nat.le_refl _) (by omega))
 clear F1 hR1 hP1
 refine (PR.out).mono ?_
 intro en w2 hwp
 cases hpw:pWhole t with
 | none =>
   rw[hpw]at hwp
   obtain ⟨rfl,hfp⟩:=hwp
   have hrc:Hid (reC t=5):=by show _=_;simp[reC,hpw]
   have F2:=frm_of_fp hfp
   have hrb:w2.heap[w.heap.size]?=some (.cells Tryz.zeroCells124 124 (0,0)):=(F2.block w.heap.size (by omega) (by simp)).trans HR1.out
   have hst:=store_row hrb rfl autoAll
   have HRB:=hide (setRow_at (cs:=Tryz.zeroCells124) hrb)
   have FF:Hid (Frm [] w (w2.setRow w.heap.size Tryz.zeroCells124)):=(HF1.out.above F2 (by intro x hx;simp at hx;omega)).above (Frm.setRow _ _ _) (by simp)
   have HPW:=hide hpw
   obtain ⟨qp,hqp⟩:∃ q:Option Addr,q=none:=⟨_,rfl⟩
   clear hrb hfp F2 hpw PR
   go_wp2
   (try simp only[Exit.inBlock,Exit.then])
   refine bodyPost_ret (results_cell_tmpA rfl _ _ w.heap.size _ rfl (autoLoad HRB.out autoZero9)) rfl ?_
   rw[show CompP w t=CompP w t from rfl]
   refine ⟨FF.out,_,autoZero9,autoAll,by rw[hrc.out];rfl,fun _=>rfl,fun e he=>?_⟩
   rw[HPW.out]at he;simp at he
 | some e =>
   rw[hpw]at hwp
   obtain ⟨eb,vs',rfl,hx,hpa,hbl,hfp⟩:=hwp
   obtain ⟨hok,htl⟩:=pWhole_good hpw
   have hdg:=pWhole_dig hpw
   have hnd:=pWhole_nds hpw
   have hse:=pWhole_sets hpw
   have F2:=frm_of_fp hfp
   have hrb:w2.heap[w.heap.size]?=some (.cells Tryz.zeroCells124 124 (0,0)):=(F2.block w.heap.size (by omega) (by simp)).trans HR1.out
   have FF2:Hid (Frm [] w w2):=HF1.out.above F2 (by intro x hx;simp at hx;omega)
   have PL:=hide (places_any e _ w2 eb hx hdg (by omega))
   have HX:=hide hx
   have HBL:=hide hbl
   obtain ⟨ip,hps,_⟩:=hpa
   have hc2:=hps.c2
   have HRB:=hide hrb
   have HPW:=hide hpw
   have z2:=F2.size
   obtain ⟨avs,cvs,rfl⟩:=own_shape hbl
   clear hx hbl hps hfp F2 hpw PR hrb
   go_wp2_with fail
   refine (PL.out).mono ?_
   rintro en w2' ⟨rfl,rfl⟩
   by_cases hpl:40<plcG e
   ·have hrc:Hid (reC t=6):=by show _=_;simp[reC,HPW.out,hpl]
    have hst:=store_row HRB.out rfl autoAll
    have HRB2:=hide (setRow_at (cs:=Tryz.zeroCells124) HRB.out)
    have FF:Hid (Frm [] w (w2.setRow w.heap.size Tryz.zeroCells124)):=FF2.out.above (Frm.setRow _ _ _) (by simp)
    clear PL
    generalize plcG e=pn at *
    go_wp2
    (try simp only[Exit.inBlock,Exit.then])
    refine bodyPost_ret (results_cell_tmpA rfl _ _ w.heap.size _ rfl (autoLoad HRB2.out autoZero9)) rfl ?_
    refine ⟨FF.out,_,autoZero9,autoAll,by rw[hrc.out];rfl,fun _=>rfl,fun e he h0=>?_⟩
    rw[hrc.out]at h0;simp at h0
   ·have AU:=hide (automatonOf_any _ w1.heap.size w2 eb e (.slice avs (setsOf e).length cvs) (setsOf e) (fstE e) (clsE e) HX.out HBL.out (by omega) rfl rfl hok hdg (by omega) (by omega) (by omega))
    have hpl2:plcG e≤40:=by omega
    clear PL
    have HRC:Hid (reC t=if (autE e).1 then 0 else 7):=by show _=_;simp[reC,HPW.out,hpl]
    generalize plcG e=pn at *
    go_wp2_with fail
    refine (AU.out).mono ?_
    intro en w3 hau
    cases hk:(autE e).1 with
    | false =>
      obtain ⟨hf3,rfl⟩:=hau.no hk
      have hrc:Hid (reC t=7):=by show _=_;rw[HRC.out,hk];rfl
      have z3:=hf3.size
      have hsn:=run_storeCells_new (P:=Tryz.prog) w3 124 Tryz.zeroCells124 Tryz.zeroCells124 (by rw[autoZero9];exact autoInfoX) rfl autoAll
      have hrb3:(w3.alloc (Obj.cells Tryz.zeroCells124 124)).heap[w.heap.size]?=some (.cells Tryz.zeroCells124 124 (0,0)):=by
       rw[((Frm.refl [] w3).alloc _).block w.heap.size (by omega) (by simp),hf3.block w.heap.size (by omega) (by simp)]
       exact HRB.out
      have hst:=store_row hrb3 rfl autoAll
      have HRB2:=hide (setRow_at (cs:=Tryz.zeroCells124) hrb3)
      have FF:Hid (Frm [] w ((w3.alloc (Obj.cells Tryz.zeroCells124 124)).setRow w.heap.size Tryz.zeroCells124)):=((FF2.out.above hf3 (by simp)).alloc _).above (Frm.setRow _ _ _) (by simp)
      clear AU hau hk hrb3 hc2
      go_wp2
      (try simp only[Exit.inBlock,Exit.then])
      refine bodyPost_ret (results_cell_tmpA rfl _ _ w.heap.size _ rfl (autoLoad HRB2.out autoZero9)) rfl ?_
      refine ⟨FF.out,_,autoZero9,autoAll,by rw[hrc.out];rfl,fun _=>rfl,fun e he h0=>?_⟩
      rw[hrc.out]at h0;simp at h0
    | true =>
      obtain ⟨hf3,va,vn,rfl,hql,hnl⟩:=hau.ok hk
      obtain ⟨aa,ca,rfl⟩:=own_shape hql
      obtain ⟨an,cn,rfl⟩:=own_shape hnl
      have hrc:Hid (reC t=0):=by show _=_;rw[HRC.out,hk];rfl
      have z3:=hf3.size
      have hsz:(Value.int .i64 (fstE e).length::(nv .u8 (clsE e)++[.slice aa ((autE e).2.1.map fun u=>nul (dW (nrm e) u)).length ca, .slice an (autE e).2.2.length cn])).toArray.size=259:=by
       have:(clsE e).length=256:=clsL_len _ _
       simp[nv,this]
      have hall:(Value.int .i64 (fstE e).length::(nv .u8 (clsE e)++[.slice aa ((autE e).2.1.map fun u=>nul (dW (nrm e) u)).length ca, .slice an (autE e).2.2.length cn])).toArray.all (·.oneCell')=true:=by
       refine Array.all_eq_true_iff_forall_mem.2 fun v hv=>?_
       simp only[List.mem_toArray,List.mem_cons,List.mem_append,nv,List.mem_map,List.not_mem_nil,or_false]at hv
       rcases hv with rfl|⟨a,_,rfl⟩|rfl|rfl<;>rfl
      have QLf:Hid (∀ o cs,QL w.heap.size ((w3.alloc o).setRow w.heap.size cs) (.slice aa ((autE e).2.1.map fun u=>nul (dW (nrm e) u)).length ca) ((autE e).2.1.map fun u=>nul (dW (nrm e) u))):=fun o cs=>own_mono (row_frm (own_frm hql ((Frm.refl [] w3).alloc o) (by simp)) (Frm.setRow _ _ cs) (fun k hk=>by have:=(hql.lt k hk).1;simp;omega)) (by omega)
      have NLf:Hid (∀ o cs,IL w.heap.size ((w3.alloc o).setRow w.heap.size cs) (.slice an (autE e).2.2.length cn) (autE e).2.2):=fun o cs=>own_mono (row_frm (own_frm hnl ((Frm.refl [] w3).alloc o) (by simp)) (Frm.setRow _ _ cs) (fun k hk=>by have:=(hnl.lt k hk).1;simp;omega)) (by omega)
      have FF:Hid (∀ o cs,Frm [] w ((w3.alloc o).setRow w.heap.size cs)):=fun o cs=>((FF2.out.above hf3 (by simp)).alloc _).above (Frm.setRow _ _ _) (by simp)
      have HR3:Hid (∀ o,(w3.alloc o).heap[w.heap.size]?=some (.cells Tryz.zeroCells124 124 (0,0))):=fun o=>by
       rw[((Frm.refl [] w3).alloc _).block w.heap.size (by omega) (by simp),hf3.block w.heap.size (by omega) (by simp)]
       exact HRB.out
      generalize hcs:(Value.int .i64 (fstE e).length::(nv .u8 (clsE e)++[.slice aa ((autE e).2.1.map fun u=>nul (dW (nrm e) u)).length ca, .slice an (autE e).2.2.length cn])).toArray=cs at hsz hall ⊢
      have HCS:=hide hcs
      have HSZ:=hide hsz
      have HALL:=hide hall
      have hsn:=run_storeCells_new (P:=Tryz.prog) w3 124 Tryz.zeroCells124 cs (by rw[hsz];exact autoInfoX) (by rw[hsz,autoZero9]) hall
      have HRB2:=hide (setRow_at (cs:=cs) (HR3.out (Obj.cells cs 124)))
      have HST:=hide (store_row (cs:=cs) (HR3.out (Obj.cells cs 124)) (by rw[hsz,autoZero9]) hall)
      clear AU hau hk hc2 hcs hall hql hnl
      go_wp2_with fail
      refine wp_autoLoad (.tmp 6) rfl w3.heap.size rfl cs (autoLoad (heap1 w3 (Obj.cells cs 124)) HSZ.out) ?_
      have hst:=HST.out
      go_wp2
      (try simp only[Exit.inBlock,Exit.then])
      refine bodyPost_ret (results_cell_tmpA rfl _ _ w.heap.size _ rfl (autoLoad HRB2.out HSZ.out)) rfl ?_
      refine ⟨FF.out _ _,cs,HSZ.out,HALL.out,by rw[hrc.out];rfl,fun h=>absurd hrc.out h,fun e2 he h0=>?_⟩
      have:e2=e:=by rw[HPW.out]at he;simpa using he.symm
      subst this
      exact ⟨_,_,HCS.out.symm,QLf.out _ _,NLf.out _ _⟩
set_option linter.unusedVariables false
set_option linter.unusedSimpArgs false
/-- The state i leads,by the k-th byte,where the form that is left is. -/
def RowOK(X:NF)(F:List Nat)(St:List (List Nat))(nx:List Nat)(i:Nat):Prop :=
 ∀ (u:List Nat),St[i]?=some u→∀ (k c:Nat),F[k]?=some c→∃ j v,nx[i*F.length+k]?=some j∧St[j]?=some v∧dW X v=dW X (u++[c])
theorem idW_at{X:NF}(hX:wf X)(St:List (List Nat))(v:List Nat):(idW X St v=St.length)∨∃ u,St[idW X St v]?=some u∧dW X u=dW X v:=by
 by_cases h:idW X St v<St.length
 ·refine .inr ⟨St[idW X St v],List.getElem?_eq_getElem h,?_⟩
  have:=List.findIdx_getElem (xs:=St) (p:=fun u=>name (dW X u)==name (dW X v)) (w:=h)
  exact name_inj (dW_wf hX _) (dW_wf hX _) (beq_iff_eq.1 this)
 ·have:=idW_le X St v
  exact .inl (by omega)
theorem rowW_spec{X:NF}(hX:wf X)(w:List Nat):∀ (F:List Nat) (St:List (List Nat)) (nx:List Nat) (St':List (List Nat)) (nx':List Nat),rowW X w F St nx=(true,St',nx') →
 St <+: St'∧∃ js,nx'=nx++js∧js.length=F.length∧∀ (k c:Nat),F[k]?=some c→∃ j v,js[k]?=some j∧St'[j]?=some v∧dW X v=dW X (w++[c])
 | [],St,nx,St',nx',h=>by
   simp[rowW]at h
   obtain ⟨rfl,rfl⟩:=h
   exact ⟨List.prefix_refl _,[],by simp,rfl,fun k c hk=>by simp at hk⟩
 | c::F,St,nx,St',nx',h=>by
   unfold rowW at h
   split at h
   ·simp at h
   ·rename_i hne
    obtain ⟨hp,js,h1,h2,h3⟩:=rowW_spec hX w F _ _ St' nx' h
    have hsp:St <+: (if idW X St (w++[c])=St.length then St++[w++[c]] else St):=by
     split
     ·exact List.prefix_append _ _
     ·exact List.prefix_refl _
    have h0:∃ v,(if idW X St (w++[c])=St.length then St++[w++[c]] else St)[idW X St (w++[c])]?=some v∧dW X v=dW X (w++[c]):=by
     rcases idW_at hX St (w++[c]) with e|⟨u,e1,e2⟩
     ·refine ⟨w++[c],?_,rfl⟩
      rw[if_pos e,e];simp
     ·exact ⟨u,pre_get hsp e1,e2⟩
    refine ⟨hsp.trans hp,idW X St (w++[c])::js,by rw[h1];simp,by simp[h2],?_⟩
    intro k c' hk
    cases k with
    | zero =>
      simp at hk;subst hk
      obtain ⟨v,e1,e2⟩:=h0
      exact ⟨_,v,by simp,pre_get hp e1,e2⟩
    | succ k =>
      obtain ⟨j,v,e1,e2,e3⟩:=h3 k c' (by simpa using hk)
      exact ⟨j,v,by simpa using e1,e2,e3⟩
theorem RowOK.mono{X:NF}{F:List Nat}{St St':List (List Nat)}{nx nx':List Nat}{i:Nat}(h:RowOK X F St nx i)(hi:i<St.length)(hs:St <+: St')(hn:nx <+: nx'):RowOK X F St' nx' i:=by
 intro u hu k c hk
 have hu':St[i]?=some u:=by
  obtain ⟨t,rfl⟩:=hs
  rw[List.getElem?_append_left hi]at hu;exact hu
 obtain ⟨j,v,e1,e2,e3⟩:=h u hu' k c hk
 exact ⟨j,v,pre_get hn e1,pre_get hs e2,e3⟩
theorem autW_spec{X:NF}(hX:wf X)(F:List Nat):∀ (k i:Nat) (St:List (List Nat)) (nx:List Nat) (St':List (List Nat)) (nx':List Nat),autW X F k i St nx=(true,St',nx')→i+k=41→WB St→nx.length=i*F.length→i≤St.length→(∀ i',i'<i→RowOK X F St nx i') →
 St <+: St'∧nx'.length=St'.length*F.length∧∀ i',i'<St'.length→RowOK X F St' nx' i'
 | 0,i,St,nx,St',nx',h,hik,hwb,hnx,hil,hr=>by
   have:=hwb.1;omega
 | k+1,i,St,nx,St',nx',h,hik,hwb,hnx,hil,hr=>by
   unfold autW at h
   split at h
   ·rename_i hn
    simp at h
    obtain ⟨rfl,rfl⟩:=h
    have hge:St.length≤i:=by rw[List.getElem?_eq_none_iff]at hn;exact hn
    have:i=St.length:=by omega
    subst this
    exact ⟨List.prefix_refl _,hnx,hr⟩
   ·rename_i w hw
    have hlt:=(List.getElem?_eq_some_iff.1 hw).1
    split at h
    ·simp at h
    ·rename_i St1 nx1 hrw
     obtain ⟨hp,js,h1,h2,h3⟩:=rowW_spec hX w F St nx St1 nx1 hrw
     have hwb1:=rowW_wb X w i F St nx hwb hw
     rw[hrw]at hwb1
     have hpl:=hp.length_le
     have hpn:nx <+: nx1:=by rw[h1];exact List.prefix_append _ _
     obtain ⟨g1,g2,g3⟩:=autW_spec hX F k (i+1) St1 nx1 St' nx' h (by omega) hwb1 (by rw[h1,List.length_append,h2,hnx,Nat.add_mul];omega) (by omega) (fun i' hi'=>by
      by_cases hlt':i'<i
      ·exact (hr i' hlt').mono (by omega) hp hpn
      ·have:i'=i:=by omega
       subst this
       intro u hu kk c hk
       have:u=w:=by rw[pre_get hp hw]at hu;simpa using hu.symm
       subst this
       obtain ⟨j,v,e1,e2,e3⟩:=h3 kk c hk
       refine ⟨j,v,?_,e2,e3⟩
       rw[h1,List.getElem?_append_right (by omega),show i'*F.length+kk-nx.length=kk by omega]
       exact e1)
     exact ⟨hp.trans g1,g2,g3⟩
theorem autR_spec{X:NF}(hX:wf X){F:List Nat}{St:List (List Nat)}{nx:List Nat}(h:autR X F=(true,St,nx)):St[0]?=some []∧nx.length=St.length*F.length∧St.length≤40∧∀ i,i<St.length→RowOK X F St nx i:=by
 have hw:=autR_wb X F
 rw[h]at hw
 obtain ⟨h1,h2,h3⟩:=autW_spec hX F 41 0 [[]] [] St nx h rfl WB.one (by simp) (by simp) (fun i hi=>by omega)
 exact ⟨pre_get h1 rfl,h2,hw.1,h3⟩
open Go.RowKit
theorem fstK_pre(S:List Nat):∀ (k n:Nat),fstK S n <+: fstK S (n+k)
 | 0,n=>List.prefix_refl _
 | k+1,n=>by
   refine (fstK_pre S k n).trans ?_
   show fstK S (n+k) <+: fstK S (n+k+1)
   simp only[fstK]
   split
   ·exact List.prefix_append _ _
   ·exact List.prefix_refl _
theorem cls_first(S:List Nat)(b:Nat)(hb:b<256):∃ f,(fstK S 256)[clsOf S (fstK S b) b]?=some f∧∀ s∈S,s.testBit f=s.testBit b:=by
 have hp:fstK S (b+1) <+: fstK S 256:=by have:=fstK_pre S (255-b) (b+1);rw[show b+1+(255-b)=256 by omega]at this;exact this
 by_cases h:clsOf S (fstK S b) b<(fstK S b).length
 ·have hf:=List.findIdx_getElem (xs:=fstK S b) (p:=fun f=>!(apart S f b)) (w:=h)
  have hp2:fstK S b <+: fstK S 256:=by have:=fstK_pre S (256-b) b;rw[show b+(256-b)=256 by omega]at this;exact this
  refine ⟨_,pre_get hp2 (List.getElem?_eq_getElem h),?_⟩
  intro s hs
  have h2:apart S (fstK S b)[clsOf S (fstK S b) b] b=false:=by
   have h3:(!(apart S (fstK S b)[clsOf S (fstK S b) b] b))=true:=hf
   cases hq:apart S (fstK S b)[clsOf S (fstK S b) b] b
   ·rfl
   ·rw[hq]at h3;simp at h3
  unfold apart at h2
  rw[List.any_eq_false]at h2
  have:=h2 s hs
  simpa using this
 ·have he:clsOf S (fstK S b) b=(fstK S b).length:=Nat.le_antisymm (clsOf_le _ _ _) (by omega)
  refine ⟨b,pre_get hp ?_,fun s _=>rfl⟩
  simp only[fstK]
  rw[he]
  simp
def clB(e:RX)(b:Nat):Nat:=(clsE e).getD b 0
theorem clB_eq(e:RX)(b:Nat)(hb:b<256):clB e b=clsOf (setsOf e) (fstK (setsOf e) b) b:=by
 unfold clB clsE clsL
 simp[List.getD,hb]
open Go.RowKit
structure AU(w:World)(g o:Nat)(n:Nat)(cl:List Nat)(va vn:Value)(acc:List Bool)(nx:List Nat):Prop where
 c0:w.cell? ⟨g,o,none⟩=some (.int .i64 n)
 cc:∀ c,c<256→w.cell? ⟨g,o+1+c,none⟩=some (.int .u8 (cl.getD c 0))
 ca:w.cell? ⟨g,o+257,none⟩=some va
 cn:w.cell? ⟨g,o+258,none⟩=some vn
 ra:∃ a cap,va=.slice a acc.length cap∧∀ (j:Nat) (h:j<acc.length),∃ g off,a=some ⟨g,off,none⟩∧g<w.heap.size∧w.cell? ⟨g,off+j,none⟩=some (.bool acc[j])
 rn:NL .i64 w vn nx
 n1:n≤256
 xs:∀ x∈nx,x≤1000000
 cs:∀ c,c<256→cl.getD c 0≤255
 ln:nx.length≤1000000∧acc.length≤1000000
theorem AU.drewN{w:World}{g o n:Nat}{cl:List Nat}{va vn:Value}{acc:List Bool}{nx:List Nat}(k:Nat)(h:AU w g o n cl va vn acc nx):AU (w.drewN k) g o n cl va vn acc nx:=⟨h.c0,h.cc,h.ca,h.cn,h.ra,h.rn,h.n1,h.xs,h.cs,h.ln⟩
open Go.RowKit
theorem autE_shape{e:RX}(ho:okx e)(h:(autE e).1=true):(autE e).2.1.length≤40∧(autE e).2.2.length=(autE e).2.1.length*(fstE e).length∧(fstE e).length≤256∧(∀ x∈(autE e).2.2,x<(autE e).2.1.length)∧(clsE e).length=256∧(∀ b,b<256→(clsE e).getD b 0<(fstE e).length)∧1≤(autE e).2.1.length:=by
 obtain ⟨St,nx,hE⟩:∃ St nx,autE e=(true,St,nx):=⟨(autE e).2.1,(autE e).2.2,by rw[← h]⟩
 have hE2:autR (nrm e) (fstE e)=(true,St,nx):=hE
 have hX:=(nrm_BdE ho).1.1
 obtain ⟨s1,s2,s3,s4⟩:=autR_spec hX hE2
 have hF:(fstE e).length≤256:=(fstK_le (setsOf e) 256).1
 rw[hE]
 refine ⟨s3,s2,hF,?_,clsL_len _ _,?_,(List.getElem?_eq_some_iff.1 s1).1⟩
 ·intro x hx
  obtain ⟨p,hp⟩:=List.getElem?_of_mem hx
  have hpl:=(List.getElem?_eq_some_iff.1 hp).1
  have hpos:0<(fstE e).length:=by
   rcases Nat.eq_zero_or_pos (fstE e).length with z|z
   ·simp only at hpl;rw[s2,z]at hpl;simp at hpl
   ·exact z
  have hi:p / (fstE e).length<St.length:=by
   rw[Nat.div_lt_iff_lt_mul hpos,← s2];exact hpl
  have hk:p % (fstE e).length<(fstE e).length:=Nat.mod_lt _ hpos
  obtain ⟨j,v,e1,e2,_⟩:=s4 (p / (fstE e).length) hi _ (List.getElem?_eq_getElem hi) (p % (fstE e).length) _ (List.getElem?_eq_getElem hk)
  have:p / (fstE e).length*(fstE e).length+p % (fstE e).length=p:=by rw[Nat.mul_comm];exact Nat.div_add_mod _ _
  rw[this]at e1
  have hxj:x=j:=by
   have h3:nx[p]?=some x:=hp
   rw[e1]at h3;simpa using h3.symm
  rw[hxj]
  exact (List.getElem?_eq_some_iff.1 e2).1
 ·intro b hb
  obtain ⟨f,hf,_⟩:=cls_first (setsOf e) b hb
  have:=clB_eq e b hb
  unfold clB at this
  rw[this]
  exact (List.getElem?_eq_some_iff.1 hf).1
open Go.RowKit
def cRes(re:List UInt8→Nat)(t:List UInt8):Nat × Nat :=
 match cRead t with
 | .error (n,l)=>(n,l)
 | .ok (_,C)=>xF re C 0
def ACQ(re:List UInt8→Nat)(aut:List UInt8→AutM)(t:List UInt8)(w:World)(e:Ending)(w':World):Prop :=
 Frm [] w w'∧(((cRes re t).1≠0∧e=.returned (.tuple #[.pointer none, .int .i64 ((cRes re t).1:Nat), .int .i64 ((cRes re t).2:Nat)])) ∨
 (∃ L C s V pb,cRes re t=(0,0)∧cRead t=.ok (L,C)∧pread re aut cs0 0 C=.ok s∧e=.returned (.tuple #[.pointer (some ⟨pb,0,none⟩), .int .i64 0, .int .i64 0])∧w'.heap[pb]?=some (.cells V.cells 62 (0,0))∧PG [pb] w' V (compM C s)∧w.heap.size≤pb))
theorem aCompile_any(re:List UInt8→Nat)(aut:List UInt8→AutM)(t:List UInt8)(w:World)(ht:t.length≤1048576)(hre:∀ L C,cRead t=.ok (L,C)→∀ c∈C,∀ m∈c.ifs,(m.2.1=2∨m.2.1=3)→RCP re aut m.2.2) :
 Calls Tryz.prog 7 #[.string (bs t)] w (ACQ re aut t w):=by
 have HRE:=hide hre
 clear hre
 go_enter Tryz.func7,Tryz.ntmps7
 go_wp2_with fail
 refine (cfgRead_any t w ht).mono ?_
 rintro e w1 ⟨hf1,vr,vt,er,ln,rfl,hrep⟩
 have KF:=hide hf1
 clear hf1
 cases hr:cRead t with
 | error nl =>
   obtain ⟨n,l⟩:=nl
   have Hx:Hid (cRes re t=(n,l)):=by show _=_;unfold cRes;rw[hr]
   rw[hr]at hrep
   obtain ⟨rfl,rfl,rfl,rfl,hn⟩:=hrep
   have hne:((n:Int) != 0)=true:=by rw[bne_iff_ne];omega
   go_wp2
   go_ret3
   refine ⟨KF.out.alloc _, .inl ?_⟩
   rw[Hx.out]
   exact ⟨by simp only;omega,rfl⟩
 | ok LC =>
   obtain ⟨L,C⟩:=LC
   have Hx:Hid (cRes re t=xF re C 0):=by show _=_;unfold cRes;rw[hr]
   obtain ⟨h1,h2,h3,h4⟩:=cRead_tree hr
   have hgood:=(cRead1_good t L C ht h1).2.2
   rw[hr]at hrep
   obtain ⟨rfl,rfl,hs,rvs,hrl,hrp,hrn⟩:=hrep
   obtain ⟨a0,n0,rfl⟩:=hs.shape
   have hrts:=rts_of hrl hrp
   obtain ⟨at',capt,ert⟩:∃ a cap,vt=.slice a C.length cap:=by
    obtain ⟨css,q1,q2⟩:=hrts
    obtain ⟨a,cap,e,_⟩:=row_at q1 q2
    exact ⟨a,cap,e⟩
   subst ert
   have N2:=hide (pCompile_any re aut (.slice a0 L.length n0) (.slice at' C.length capt) C (w1.alloc (Obj.cells #[.slice a0 L.length n0, .slice at' C.length capt] 51)) (hrts.frm (S:=[]) ((Frm.refl [] _).alloc _) (by simp)) h2 h3 (fun c hm=>by
    have g:=hgood c hm
    exact ⟨h4 c hm,g.byl,g.wt.1,g.ev.1,g.rp.1,g.ifl,fun m hm2=>⟨(g.ifs m hm2).kind,fun hk=>HRE.out L C hr c hm m hm2 hk⟩⟩) ⟨_,_,_,rfl⟩)
   have HR:=hide hr
   have HPF:=hide (pread_fault (re:=re) (aut:=aut) C cs0 0 (by simp[cs0]))
   clear hrts hrl hrp hs hgood h1 hr
   go_wp2_with fail
   refine (N2.out).mono ?_
   clear N2
   rintro e w2 ⟨hF2,hq⟩
   have F2:=hide ((KF.out.alloc _).trans hF2)
   clear hF2
   rcases hq with ⟨n,ln,e1,rfl⟩|⟨s,V,e1,rfl,hPG⟩
   ·have hx:xF re C 0=(n,ln)∧n≠0:=by
     rcases HPF.out with ⟨e,f1,f2,f3⟩|⟨s1,f1,_⟩
     ·rw[e1]at f1;cases f1;exact ⟨f2,f3⟩
     ·rw[e1]at f1;cases f1
    have HX:=hide hx
    have hne:((n:Int) != 0)=true:=by rw[bne_iff_ne];have:=hx.2;omega
    clear hx e1
    simp only[V6.cells]
    go_wp2
    go_ret3
    refine ⟨F2.out.alloc _, .inl ?_⟩
    rw[Hx.out,HX.out.1]
    exact ⟨HX.out.2,rfl⟩
   ·have hx:xF re C 0=(0,0):=by
     rcases HPF.out with ⟨e,f1,_⟩|⟨s1,f1,f2,_⟩
     ·rw[e1]at f1;cases f1
     ·exact f2
    have HX:=hide hx
    have HE:=hide e1
    obtain ⟨vn,vc,va,vt,vr',vi⟩:=V
    obtain ⟨an,cn,en,_⟩:=hPG.n
    obtain ⟨ac,cc',ec,_⟩:=hPG.c
    obtain ⟨ca,hca,_⟩:=id hPG.a
    obtain ⟨aa,caa,ea,_⟩:=hca
    obtain ⟨atx,ctx,et,_⟩:=hPG.t
    obtain ⟨cr,hcr,_⟩:=id hPG.r
    obtain ⟨ar,car,er,_⟩:=hcr
    obtain ⟨ai,cai,ei,_⟩:=hPG.i
    simp only at en ec ea et er ei
    subst en ec ea et er ei
    have HPG:=hide hPG
    clear hx e1 hPG
    simp only[V6.cells]
    go_wp2
    go_ret3
    refine ⟨(F2.out.alloc _).alloc _, .inr ⟨L,C,s,⟨.slice an (sc (compM C s).names).length cn, .slice ac (sc (compM C s).consts).length cc', .slice aa (lst ca).length caa, .slice atx (tc (compM C s).tests).length ctx, .slice ar (lst cr).length car, .slice ai (icl (compM C s).code).length cai⟩,w2.heap.size+1,by rw[Hx.out,HX.out],HR.out,HE.out,rfl,heap_b _ _ _,?_,by have:=F2.out.size;omega⟩⟩
    exact (HPG.out.avoid (B:=[w2.heap.size+1]) (by simp)).frm (S:=[]) (((Frm.refl [] _).alloc _).alloc _) (by simp)
open Go.RowKit
def autC(v:List UInt8):AutM:=match pWhole v with
 | some e=>⟨(fstE e).length,clsE e,(autE e).2.1.map fun u=>if nul (dW (nrm e) u) then 1 else 0,(autE e).2.2⟩
 | none=>⟨0,[],[],[]⟩
theorem reC_zero{v:List UInt8}(h:reC v=0):∃ e,pWhole v=some e∧(autE e).1=true∧plcG e≤40:=by
 unfold reC at h
 split at h
 ·cases h
 ·rename_i e he
  split at h
  ·cases h
  ·split at h
   ·rename_i h1 h2;exact ⟨e,he,h2,by omega⟩
   ·cases h
theorem autC_ok(v:List UInt8)(h:reC v=0):AutOK (autC v):=by
 obtain ⟨e,he,h1,_⟩:=reC_zero h
 obtain ⟨s1,s2,s3,s4,s5,s6,s7⟩:=autE_shape (pWhole_good he).1 h1
 have h0:=s6 0 (by omega)
 have hv:autC v=⟨(fstE e).length,clsE e,(autE e).2.1.map fun u=>if nul (dW (nrm e) u) then 1 else 0,(autE e).2.2⟩:=by unfold autC;rw[he]
 rw[hv]
 generalize fstE e=F at *
 generalize clsE e=K at *
 generalize autE e=A at *
 refine ⟨by simpa using s7,by simpa using s1,by show 1≤F.length;omega,s3,s5,fun c hc=>?_,fun c hc=>?_,by simpa using s2,by simpa using s4⟩
 ·obtain ⟨b,hb,rfl⟩:=List.getElem_of_mem hc
  have:=s6 b (by simp only[s5]at hb;exact hb)
  rw[List.getD_eq_getElem?_getD,List.getElem?_eq_getElem hb]at this
  exact this
 ·obtain ⟨u,_,rfl⟩:=List.mem_map.1 hc
  split<;>omega
theorem rcp_all(v:List UInt8)(hv:v.length≤40):RCP reC autC v:=by
 intro w
 refine (xCompile_any v w hv).mono ?_
 rintro e w' ⟨hF,cs,h1,h2,rfl,h3,h4⟩
 refine ⟨hF,cs,h1,h2,rfl,fun h0 A hA=>?_⟩
 obtain ⟨x,hx,_,_⟩:=reC_zero h0
 obtain ⟨va,vn,rfl,hq,hi⟩:=h4 x hx h0
 refine ⟨rfl,fun n c y hc hy=>?_⟩
 have hn:n=0:=by
  cases n with
  | zero=>rfl
  | succ n=>simp at hc
 subst hn
 simp only[List.getElem?_cons_zero,Option.some.injEq]at hc hy
 subst hc hy
 have OB:OW 4 1 w.heap.size w' va (bc (autC v).acc):=by
  refine ⟨?_,fun y hy=>by obtain ⟨_,_,rfl⟩:=List.mem_map.1 hy;rfl⟩
  have e1:(bc (autC v).acc).flatten=((autE x).2.1.map fun u=>nul (dW (nrm x) u)).map fun b=>Value.bool b:=by
   unfold autC bc;rw[hx]
   simp only[List.map_map]
   rw[← List.flatMap_def]
   induction (autE x).2.1 with
   | nil=>rfl
   | cons a r ih=>simp only[List.flatMap_cons,List.map_cons,ih,Function.comp];cases nul (dW (nrm x) a)<;>rfl
  rw[e1,show (bc (autC v).acc).length=((autE x).2.1.map fun u=>nul (dW (nrm x) u)).length by unfold autC bc;rw[hx];simp]
  exact hq
 have OI:OW 3 1 w.heap.size w' vn (ic (autC v).nx):=by
  refine ⟨?_,fun y hy=>by obtain ⟨_,_,rfl⟩:=List.mem_map.1 hy;rfl⟩
  have e1:(ic (autC v).nx).flatten=nv .i64 (autE x).2.2:=by
   unfold autC ic nv;rw[hx]
   simp only
   induction (autE x).2.2 with
   | nil=>rfl
   | cons a r ih=>simp only[List.map_cons,List.flatten_cons,ih];rfl
  rw[e1,show (ic (autC v).nx).length=(autE x).2.2.length by unfold autC ic;rw[hx];simp]
  exact hi
 have far:∀ {ty:TypeId} {u:Value} {vs:List (List Value)},OW ty 1 w.heap.size w' u vs→∀ g,u.ownBlock=some g→g∉A:=by
  intro ty u vs h g hg hm
  have:=(h.1.lt g hg).1
  have:=hA g hm
  omega
 refine ⟨va,vn,?_,OB.rw (far OB),OI.rw (far OI)⟩
 unfold acell autC
 rw[hx]
def CMQ(t:List UInt8)(w:World)(e:Ending)(w':World):Prop :=
 Frm [] w w'∧(((cRes reC t).1≠0∧e=.returned (.tuple #[.pointer none, .int .i64 ((cRes reC t).1:Nat), .int .i64 ((cRes reC t).2:Nat)])) ∨
 (∃ L C s V pb,cRes reC t=(0,0)∧cRead t=.ok (L,C)∧pread reC autC cs0 0 C=.ok s∧e=.returned (.tuple #[.pointer (some ⟨pb,0,none⟩), .int .i64 0, .int .i64 0])∧PR [] w' pb V (compM C s)∧MOK (compM C s)∧w.heap.size≤pb))
theorem compile_any(t:List UInt8)(w:World)(ht:t.length≤1048576):Calls Tryz.prog 7 #[.string (bs t)] w (CMQ t w):=by
 refine (aCompile_any reC autC t w ht (fun L C h c hc m hm _=>rcp_all _ ?_)).mono ?_
 ·have h1:=(cRead_tree h).1
  exact ((cRead1_good t L C ht h1).2.2 c hc).ifs m hm |>.val
 ·rintro e w' ⟨hF,h|⟨L,C,s,V,pb,h1,h2,h3,rfl,h4,h5,h6⟩⟩
  ·exact ⟨hF, .inl h⟩
  ·exact ⟨hF, .inr ⟨L,C,s,V,pb,h1,h2,h3,rfl,⟨h4,h5,by simp⟩,mok_of autC_ok ht h2 h3,h6⟩⟩
end Go.Proofs.YtjkialjoamgbgaaGreat
