import Derived.Test.YtpcbbbilmpobaaaGreatDoorJ41
import Derived.Test.YtpcbbbilmpobaaaGreatDoorJ42
import Derived.Test.YtpcbbbilmpobaaaGreatDoorJ25
import Derived.Test.YtpcbbbilmpobaaaGreatDoorJ15
set_option linter.unusedVariables false
set_option linter.unusedSimpArgs false
set_option linter.unnecessarySimpa false
set_option maxRecDepth 100000
set_option maxHeartbeats 4000000
namespace Go.Proofs.YtpcbbbilmpobaaaGreatDoor
set_option linter.unusedVariables false
set_option linter.unusedSimpArgs false
/-- The state i leads,by the k-th byte,where the form that is left is. -/
def RowOK(X:NF)(F:List Nat)(St:List (List Nat))(nx:List Nat)(i:Nat):Prop :=
 ∀ (u:List Nat),St[i]?=some u→∀ (k c:Nat),F[k]?=some c→∃ j v,nx[i*F.length+k]?=some j∧St[j]?=some v∧dW X v=dW X (u++[c])
theorem idW_at{X:NF}(hX:wf X)(St:List (List Nat))(v:List Nat):(idW X St v=St.length)∨∃ u,St[idW X St v]?=some u∧dW X u=dW X v:=by
 by_cases h:idW X St v<St.length
 ·refine .inr ⟨St[idW X St v],List.getElem?_eq_getElem h,?_⟩
  have:=List.findIdx_getElem (xs:=St) (p:=fun u=>name (dW X u)==name (dW X v)) (w:=h);exact name_inj (dW_wf hX _) (dW_wf hX _) (beq_iff_eq.1 this)
 ·have:=idW_le X St v
  exact .inl (by omega)
theorem rowW_spec{X:NF}(hX:wf X)(w:List Nat):∀ (F:List Nat) (St:List (List Nat)) (nx:List Nat) (St':List (List Nat)) (nx':List Nat),rowW X w F St nx=(true,St',nx') →
 St <+: St'∧∃ js,nx'=nx++js∧js.length=F.length∧∀ (k c:Nat),F[k]?=some c→∃ j v,js[k]?=some j∧St'[j]?=some v∧dW X v=dW X (w++[c])
 | [],St,nx,St',nx',h=>by
   simp[rowW]at h;obtain ⟨rfl,rfl⟩:=h;exact ⟨List.prefix_refl _,[],by simp,rfl,fun k c hk=>by simp at hk⟩
 | c::F,St,nx,St',nx',h=>by
   unfold rowW at h
   split at h
   ·simp at h
   ·rename_i hne
    obtain ⟨hp,js,h1,h2,h3⟩:=rowW_spec hX w F _ _ St' nx' h;have hsp:St <+: (if idW X St (w++[c])=St.length then St++[w++[c]] else St):=by
     split
     ·exact List.prefix_append _ _
     ·exact List.prefix_refl _
    have h0:∃ v,(if idW X St (w++[c])=St.length then St++[w++[c]] else St)[idW X St (w++[c])]?=some v∧dW X v=dW X (w++[c]):=by
     rcases idW_at hX St (w++[c]) with e|⟨u,e1,e2⟩
     ·refine ⟨w++[c],?_,rfl⟩
      rw[if_pos e,e];simp
     ·exact ⟨u,pre_get hsp e1,e2⟩
    refine ⟨hsp.trans hp,idW X St (w++[c])::js,by rw[h1];simp,by simp[h2],?_⟩;intro k c' hk;cases k with
    | zero =>
      simp at hk;subst hk;obtain ⟨v,e1,e2⟩:=h0;exact ⟨_,v,by simp,pre_get hp e1,e2⟩
    | succ k =>
      obtain ⟨j,v,e1,e2,e3⟩:=h3 k c' (by simpa using hk);exact ⟨j,v,by simpa using e1,e2,e3⟩
theorem RowOK.mono{X:NF}{F:List Nat}{St St':List (List Nat)}{nx nx':List Nat}{i:Nat}(h:RowOK X F St nx i)(hi:i<St.length)(hs:St <+: St')(hn:nx <+: nx'):RowOK X F St' nx' i:=by
 intro u hu k c hk;have hu':St[i]?=some u:=by
  obtain ⟨t,rfl⟩:=hs;rw[List.getElem?_append_left hi]at hu;exact hu
 obtain ⟨j,v,e1,e2,e3⟩:=h u hu' k c hk;exact ⟨j,v,pre_get hn e1,pre_get hs e2,e3⟩
theorem autW_spec{X:NF}(hX:wf X)(F:List Nat):∀ (k i:Nat) (St:List (List Nat)) (nx:List Nat) (St':List (List Nat)) (nx':List Nat),autW X F k i St nx=(true,St',nx')→i+k=41→WB St→nx.length=i*F.length→i≤St.length→(∀ i',i'<i→RowOK X F St nx i') →
 St <+: St'∧nx'.length=St'.length*F.length∧∀ i',i'<St'.length→RowOK X F St' nx' i'
 | 0,i,St,nx,St',nx',h,hik,hwb,hnx,hil,hr=>by
   have:=hwb.1;omega
 | k+1,i,St,nx,St',nx',h,hik,hwb,hnx,hil,hr=>by
   unfold autW at h
   split at h
   ·rename_i hn
    simp at h;obtain ⟨rfl,rfl⟩:=h;have hge:St.length≤i:=by rw[List.getElem?_eq_none_iff]at hn;exact hn
    have:i=St.length:=by omega
    subst this;exact ⟨List.prefix_refl _,hnx,hr⟩
   ·rename_i w hw
    have hlt:=(List.getElem?_eq_some_iff.1 hw).1
    split at h
    ·simp at h
    ·rename_i St1 nx1 hrw
     obtain ⟨hp,js,h1,h2,h3⟩:=rowW_spec hX w F St nx St1 nx1 hrw;have hwb1:=rowW_wb X w i F St nx hwb hw;rw[hrw]at hwb1;have hpl:=hp.length_le;have hpn:nx <+: nx1:=by rw[h1];exact List.prefix_append _ _
     obtain ⟨g1,g2,g3⟩:=autW_spec hX F k (i+1) St1 nx1 St' nx' h (by omega) hwb1 (by rw[h1,List.length_append,h2,hnx,Nat.add_mul];omega) (by omega) (fun i' hi'=>by
      by_cases hlt':i'<i
      ·exact (hr i' hlt').mono (by omega) hp hpn
      ·have:i'=i:=by omega
       subst this;intro u hu kk c hk;have:u=w:=by rw[pre_get hp hw]at hu;simpa using hu.symm
       subst this;obtain ⟨j,v,e1,e2,e3⟩:=h3 kk c hk;refine ⟨j,v,?_,e2,e3⟩;rw[h1,List.getElem?_append_right (by omega),show i'*F.length+kk-nx.length=kk by omega];exact e1)
     exact ⟨hp.trans g1,g2,g3⟩
theorem autR_spec{X:NF}(hX:wf X){F:List Nat}{St:List (List Nat)}{nx:List Nat}(h:autR X F=(true,St,nx)):St[0]?=some []∧nx.length=St.length*F.length∧St.length≤40∧∀ i,i<St.length→RowOK X F St nx i:=by
 have hw:=autR_wb X F;rw[h]at hw;obtain ⟨h1,h2,h3⟩:=autW_spec hX F 41 0 [[]] [] St nx h rfl WB.one (by simp) (by simp) (fun i hi=>by omega);exact ⟨pre_get h1 rfl,h2,hw.1,h3⟩
open Go.RowKit
theorem fstK_pre(S:List Nat):∀ (k n:Nat),fstK S n <+: fstK S (n+k)
 | 0,n=>List.prefix_refl _
 | k+1,n=>by
   refine (fstK_pre S k n).trans ?_;show fstK S (n+k) <+: fstK S (n+k+1);simp only[fstK]
   split
   ·exact List.prefix_append _ _
   ·exact List.prefix_refl _
theorem cls_first(S:List Nat)(b:Nat)(hb:b<256):∃ f,(fstK S 256)[clsOf S (fstK S b) b]?=some f∧∀ s∈S,s.testBit f=s.testBit b:=by
 have hp:fstK S (b+1) <+: fstK S 256:=by have:=fstK_pre S (255-b) (b+1);rw[show b+1+(255-b)=256 by omega]at this;exact this
 by_cases h:clsOf S (fstK S b) b<(fstK S b).length
 ·have hf:=List.findIdx_getElem (xs:=fstK S b) (p:=fun f=>!(apart S f b)) (w:=h)
  have hp2:fstK S b <+: fstK S 256:=by have:=fstK_pre S (256-b) b;rw[show b+(256-b)=256 by omega]at this;exact this
  refine ⟨_,pre_get hp2 (List.getElem?_eq_getElem h),?_⟩;intro s hs;have h2:apart S (fstK S b)[clsOf S (fstK S b) b] b=false:=by
   have h3:(!(apart S (fstK S b)[clsOf S (fstK S b) b] b))=true:=hf;cases hq:apart S (fstK S b)[clsOf S (fstK S b) b] b
   ·rfl
   ·rw[hq]at h3;simp at h3
  unfold apart at h2;rw[List.any_eq_false]at h2;have:=h2 s hs;simpa using this
 ·have he:clsOf S (fstK S b) b=(fstK S b).length:=Nat.le_antisymm (clsOf_le _ _ _) (by omega)
  refine ⟨b,pre_get hp ?_,fun s _=>rfl⟩;simp only[fstK];rw[he];simp
def clB(e:RX)(b:Nat):Nat:=(clsE e).getD b 0
theorem clB_eq(e:RX)(b:Nat)(hb:b<256):clB e b=clsOf (setsOf e) (fstK (setsOf e) b) b:=by
 unfold clB clsE clsL;simp[List.getD,hb]
structure AU(w:World)(g o:Nat)(n:Nat)(cl:List Nat)(va vn:Value)(acc:List Bool)(nx:List Nat):Prop where
 c0:w.cell? ⟨g,o,none⟩=some (.int .i64 n)
 cc:∀ c,c<256→w.cell? ⟨g,o+1+c,none⟩=some (.int .u8 (cl.getD c 0))
 ca:w.cell? ⟨g,o+257,none⟩=some va
 cn:w.cell? ⟨g,o+258,none⟩=some vn
 ra:∃ a cap,va=.slice a acc.length cap∧∀ (j:Nat) (h:j<acc.length),∃ g off,a=some ⟨g,off,none⟩∧g<w.heap.size∧w.cell? ⟨g,off+j,none⟩=some (.bool acc[j])
 rn:NL .i64 w vn nx
 n1:n≤256
 xs:∀ x∈nx,x≤1000000
 cs:∀ c,c<256→cl.getD c 0≤255
 ln:nx.length≤1000000∧acc.length≤1000000
theorem AU.drewN{w:World}{g o n:Nat}{cl:List Nat}{va vn:Value}{acc:List Bool}{nx:List Nat}(k:Nat)(h:AU w g o n cl va vn acc nx):AU (w.drewN k) g o n cl va vn acc nx:=⟨h.c0,h.cc,h.ca,h.cn,h.ra,h.rn,h.n1,h.xs,h.cs,h.ln⟩
theorem autE_shape{e:RX}(ho:okx e)(h:(autE e).1=true):(autE e).2.1.length≤40∧(autE e).2.2.length=(autE e).2.1.length*(fstE e).length∧(fstE e).length≤256∧(∀ x∈(autE e).2.2,x<(autE e).2.1.length)∧(clsE e).length=256∧(∀ b,b<256→(clsE e).getD b 0<(fstE e).length)∧1≤(autE e).2.1.length:=by
 obtain ⟨St,nx,hE⟩:∃ St nx,autE e=(true,St,nx):=⟨(autE e).2.1,(autE e).2.2,by rw[← h]⟩;have hE2:autR (nrm e) (fstE e)=(true,St,nx):=hE;have hX:=(nrm_BdE ho).1.1;obtain ⟨s1,s2,s3,s4⟩:=autR_spec hX hE2;have hF:(fstE e).length≤256:=(fstK_le (setsOf e) 256).1;rw[hE];refine ⟨s3,s2,hF,?_,clsL_len _ _,?_,(List.getElem?_eq_some_iff.1 s1).1⟩
 ·intro x hx
  obtain ⟨p,hp⟩:=List.getElem?_of_mem hx;have hpl:=(List.getElem?_eq_some_iff.1 hp).1;have hpos:0<(fstE e).length:=by
   rcases Nat.eq_zero_or_pos (fstE e).length with z|z
   ·simp only at hpl;rw[s2,z]at hpl;simp at hpl
   ·exact z
  have hi:p / (fstE e).length<St.length:=by
   rw[Nat.div_lt_iff_lt_mul hpos,← s2];exact hpl
  have hk:p % (fstE e).length<(fstE e).length:=Nat.mod_lt _ hpos;obtain ⟨j,v,e1,e2,_⟩:=s4 (p / (fstE e).length) hi _ (List.getElem?_eq_getElem hi) (p % (fstE e).length) _ (List.getElem?_eq_getElem hk);have:p / (fstE e).length*(fstE e).length+p % (fstE e).length=p:=by rw[Nat.mul_comm];exact Nat.div_add_mod _ _
  rw[this]at e1;have hxj:x=j:=by
   have h3:nx[p]?=some x:=hp;rw[e1]at h3;simpa using h3.symm
  rw[hxj];exact (List.getElem?_eq_some_iff.1 e2).1
 ·intro b hb
  obtain ⟨f,hf,_⟩:=cls_first (setsOf e) b hb;have:=clB_eq e b hb;unfold clB at this;rw[this];exact (List.getElem?_eq_some_iff.1 hf).1
def cRes(re:List UInt8→Nat)(t:List UInt8):Nat × Nat :=
 match cRead t with
 | .error (n,l)=>(n,l)
 | .ok (_,C)=>xF re C 0
def ACQ(re:List UInt8→Nat)(aut:List UInt8→AutM)(t:List UInt8)(w:World)(e:Ending)(w':World):Prop :=
 Frm [] w w'∧(((cRes re t).1≠0∧e=.returned (.tuple #[.pointer none, .int .i64 ((cRes re t).1:Nat), .int .i64 ((cRes re t).2:Nat)])) ∨
 (∃ L C s V pb,cRes re t=(0,0)∧cRead t=.ok (L,C)∧pread re aut cs0 0 C=.ok s∧e=.returned (.tuple #[.pointer (some ⟨pb,0,none⟩), .int .i64 0, .int .i64 0])∧w'.heap[pb]?=some (.cells V.cells 62 (0,0))∧PG [pb] w' V (compM C s)∧w.heap.size≤pb))
theorem aCompile_any(re:List UInt8→Nat)(aut:List UInt8→AutM)(t:List UInt8)(w:World)(ht:t.length≤1048576)(hre:∀ L C,cRead t=.ok (L,C)→∀ c∈C,∀ m∈c.ifs,(m.2.1=2∨m.2.1=3)→RCP re aut m.2.2) :
 Calls Tryz.prog 7 #[.string (bs t)] w (ACQ re aut t w):=by
 have HRE:=hide hre;clear hre;go_enter Tryz.func7,Tryz.ntmps7
 go_wp2_with fail
 refine (cfgRead_any t w ht).mono ?_;rintro e w1 ⟨hf1,vr,vt,er,ln,rfl,hrep⟩;have KF:=hide hf1;clear hf1;cases hr:cRead t with
 | error nl =>
   obtain ⟨n,l⟩:=nl;have Hx:Hid (cRes re t=(n,l)):=by show _=_;unfold cRes;rw[hr]
   rw[hr]at hrep;obtain ⟨rfl,rfl,rfl,rfl,hn⟩:=hrep;have hne:((n:Int) != 0)=true:=by rw[bne_iff_ne];omega
   go_wp2;go_ret3
   refine ⟨KF.out.alloc _, .inl ?_⟩;rw[Hx.out];exact ⟨by simp only;omega,rfl⟩
 | ok LC =>
   obtain ⟨L,C⟩:=LC;have Hx:Hid (cRes re t=xF re C 0):=by show _=_;unfold cRes;rw[hr]
   obtain ⟨h1,h2,h3,h4⟩:=cRead_tree hr;have hgood:=(cRead1_good t L C ht h1).2.2;rw[hr]at hrep;obtain ⟨rfl,rfl,hs,rvs,hrl,hrp,hrn⟩:=hrep;obtain ⟨a0,n0,rfl⟩:=hs.shape;have hrts:=rts_of hrl hrp;obtain ⟨at',capt,ert⟩:∃ a cap,vt=.slice a C.length cap:=by
    obtain ⟨css,q1,q2⟩:=hrts;obtain ⟨a,cap,e,_⟩:=row_at q1 q2;exact ⟨a,cap,e⟩
   subst ert;have N2:=hide (pCompile_any re aut (.slice a0 L.length n0) (.slice at' C.length capt) C (w1.alloc (Obj.cells #[.slice a0 L.length n0, .slice at' C.length capt] 50)) (hrts.frm (S:=[]) ((Frm.refl [] _).alloc _) (by simp)) h2 h3 (fun c hm=>by
    have g:=hgood c hm;exact ⟨h4 c hm,g.byl,g.wt.1,g.ev.1,g.rp.1,g.ifl,fun m hm2=>⟨(g.ifs m hm2).kind,fun hk=>HRE.out L C hr c hm m hm2 hk⟩⟩) ⟨_,_,_,rfl⟩)
   have HR:=hide hr;have HPF:=hide (pread_fault (re:=re) (aut:=aut) C cs0 0 (by simp[cs0]));clear hrts hrl hrp hs hgood h1 hr;go_wp2_with fail
   refine (N2.out).mono ?_;clear N2;rintro e w2 ⟨hF2,hq⟩;have F2:=hide ((KF.out.alloc _).trans hF2);clear hF2;rcases hq with ⟨n,ln,e1,rfl⟩|⟨s,V,e1,rfl,hPG⟩
   ·have hx:xF re C 0=(n,ln)∧n≠0:=by
     rcases HPF.out with ⟨e,f1,f2,f3⟩|⟨s1,f1,_⟩
     ·rw[e1]at f1;cases f1;exact ⟨f2,f3⟩
     ·rw[e1]at f1;cases f1
    have HX:=hide hx;have hne:((n:Int) != 0)=true:=by rw[bne_iff_ne];have:=hx.2;omega
    clear hx e1;simp only[V6.cells];go_wp2;go_ret3
    refine ⟨F2.out.alloc _, .inl ?_⟩;rw[Hx.out,HX.out.1];exact ⟨HX.out.2,rfl⟩
   ·have hx:xF re C 0=(0,0):=by
     rcases HPF.out with ⟨e,f1,_⟩|⟨s1,f1,f2,_⟩
     ·rw[e1]at f1;cases f1
     ·exact f2
    have HX:=hide hx;have HE:=hide e1;obtain ⟨vn,vc,va,vt,vr',vi⟩:=V;obtain ⟨an,cn,en,_⟩:=hPG.n;obtain ⟨ac,cc',ec,_⟩:=hPG.c;obtain ⟨ca,hca,_⟩:=id hPG.a;obtain ⟨aa,caa,ea,_⟩:=hca;obtain ⟨atx,ctx,et,_⟩:=hPG.t;obtain ⟨cr,hcr,_⟩:=id hPG.r;obtain ⟨ar,car,er,_⟩:=hcr;obtain ⟨ai,cai,ei,_⟩:=hPG.i;simp only at en ec ea et er ei;subst en ec ea et er ei;have HPG:=hide hPG;clear hx e1 hPG;simp only[V6.cells];go_wp2;go_ret3
    refine ⟨(F2.out.alloc _).alloc _, .inr ⟨L,C,s,⟨.slice an (sc (compM C s).names).length cn, .slice ac (sc (compM C s).consts).length cc', .slice aa (lst ca).length caa, .slice atx (tc (compM C s).tests).length ctx, .slice ar (lst cr).length car, .slice ai (icl (compM C s).code).length cai⟩,w2.heap.size+1,by rw[Hx.out,HX.out],HR.out,HE.out,rfl,heap_b _ _ _,?_,by have:=F2.out.size;omega⟩⟩;exact (HPG.out.avoid (B:=[w2.heap.size+1]) (by simp)).frm (S:=[]) (((Frm.refl [] _).alloc _).alloc _) (by simp)
def autC(v:List UInt8):AutM:=match pWhole v with
 | some e=>⟨(fstE e).length,clsE e,(autE e).2.1.map fun u=>if nul (dW (nrm e) u) then 1 else 0,(autE e).2.2⟩
 | none=>⟨0,[],[],[]⟩
theorem reC_zero{v:List UInt8}(h:reC v=0):∃ e,pWhole v=some e∧(autE e).1=true∧plcG e≤40:=by
 unfold reC at h
 split at h
 ·cases h
 ·rename_i e he
  split at h
  ·cases h
  ·split at h
   ·rename_i h1 h2;exact ⟨e,he,h2,by omega⟩
   ·cases h
theorem autC_ok(v:List UInt8)(h:reC v=0):AutOK (autC v):=by
 obtain ⟨e,he,h1,_⟩:=reC_zero h;obtain ⟨s1,s2,s3,s4,s5,s6,s7⟩:=autE_shape (pWhole_good he).1 h1;have h0:=s6 0 (by omega);have hv:autC v=⟨(fstE e).length,clsE e,(autE e).2.1.map fun u=>if nul (dW (nrm e) u) then 1 else 0,(autE e).2.2⟩:=by unfold autC;rw[he]
 rw[hv];generalize fstE e=F at *;generalize clsE e=K at *;generalize autE e=A at *;refine ⟨by simpa using s7,by simpa using s1,by show 1≤F.length;omega,s3,s5,fun c hc=>?_,fun c hc=>?_,by simpa using s2,by simpa using s4⟩
 ·obtain ⟨b,hb,rfl⟩:=List.getElem_of_mem hc
  have:=s6 b (by simp only[s5]at hb;exact hb);rw[List.getD_eq_getElem?_getD,List.getElem?_eq_getElem hb]at this;exact this
 ·obtain ⟨u,_,rfl⟩:=List.mem_map.1 hc
  split<;>omega
theorem rcp_all(v:List UInt8)(hv:v.length≤40):RCP reC autC v:=by
 intro w;refine (xCompile_any v w hv).mono ?_;rintro e w' ⟨hF,cs,h1,h2,rfl,h3,h4⟩;refine ⟨hF,cs,h1,h2,rfl,fun h0 A hA=>?_⟩;obtain ⟨x,hx,_,_⟩:=reC_zero h0;obtain ⟨va,vn,rfl,hq,hi⟩:=h4 x hx h0;refine ⟨rfl,fun n c y hc hy=>?_⟩;have hn:n=0:=by
  cases n with
  | zero=>rfl
  | succ n=>simp at hc
 subst hn;simp only[List.getElem?_cons_zero,Option.some.injEq]at hc hy;subst hc hy;have OB:OW 4 1 w.heap.size w' va (bc (autC v).acc):=by
  refine ⟨?_,fun y hy=>by obtain ⟨_,_,rfl⟩:=List.mem_map.1 hy;rfl⟩;have e1:(bc (autC v).acc).flatten=((autE x).2.1.map fun u=>nul (dW (nrm x) u)).map fun b=>Value.bool b:=by
   unfold autC bc;rw[hx];simp only[List.map_map];rw[← List.flatMap_def]
   induction (autE x).2.1 with
   | nil=>rfl
   | cons a r ih=>simp only[List.flatMap_cons,List.map_cons,ih,Function.comp];cases nul (dW (nrm x) a)<;>rfl
  rw[e1,show (bc (autC v).acc).length=((autE x).2.1.map fun u=>nul (dW (nrm x) u)).length by unfold autC bc;rw[hx];simp];exact hq
 have OI:OW 3 1 w.heap.size w' vn (ic (autC v).nx):=by
  refine ⟨?_,fun y hy=>by obtain ⟨_,_,rfl⟩:=List.mem_map.1 hy;rfl⟩;have e1:(ic (autC v).nx).flatten=nv .i64 (autE x).2.2:=by
   unfold autC ic nv;rw[hx];simp only
   induction (autE x).2.2 with
   | nil=>rfl
   | cons a r ih=>simp only[List.map_cons,List.flatten_cons,ih];rfl
  rw[e1,show (ic (autC v).nx).length=(autE x).2.2.length by unfold autC ic;rw[hx];simp];exact hi
 have far:∀ {ty:TypeId} {u:Value} {vs:List (List Value)},OW ty 1 w.heap.size w' u vs→∀ g,u.ownBlock=some g→g∉A:=by
  intro ty u vs h g hg hm;have:=(h.1.lt g hg).1;have:=hA g hm;omega
 refine ⟨va,vn,?_,OB.rw (far OB),OI.rw (far OI)⟩;unfold acell autC;rw[hx]
def CMQ(t:List UInt8)(w:World)(e:Ending)(w':World):Prop :=
 Frm [] w w'∧(((cRes reC t).1≠0∧e=.returned (.tuple #[.pointer none, .int .i64 ((cRes reC t).1:Nat), .int .i64 ((cRes reC t).2:Nat)])) ∨
 (∃ L C s V pb,cRes reC t=(0,0)∧cRead t=.ok (L,C)∧pread reC autC cs0 0 C=.ok s∧e=.returned (.tuple #[.pointer (some ⟨pb,0,none⟩), .int .i64 0, .int .i64 0])∧PR [] w' pb V (compM C s)∧MOK (compM C s)∧w.heap.size≤pb))
theorem compile_any(t:List UInt8)(w:World)(ht:t.length≤1048576):Calls Tryz.prog 7 #[.string (bs t)] w (CMQ t w):=by
 refine (aCompile_any reC autC t w ht (fun L C h c hc m hm _=>rcp_all _ ?_)).mono ?_
 ·have h1:=(cRead_tree h).1
  exact ((cRead1_good t L C ht h1).2.2 c hc).ifs m hm |>.val
 ·rintro e w' ⟨hF,h|⟨L,C,s,V,pb,h1,h2,h3,rfl,h4,h5,h6⟩⟩
  ·exact ⟨hF, .inl h⟩
  ·exact ⟨hF, .inr ⟨L,C,s,V,pb,h1,h2,h3,rfl,⟨h4,h5,by simp⟩,mok_of autC_ok ht h2 h3,h6⟩⟩
def runL(T:Nat→Bool)(l:List InM):Nat→Nat→List Nat
 | 0,_=>[]
 | n+1,i=>match l[i]? with
   | some c=>match c.op with
     | 0=>[]
     | 1=>c.x::runL T l n c.a
     | _=>runL T l n (if T c.x then c.a else c.b)
   | none=>[]
def rl(T:Nat→Bool)(l:List InM)(i:Nat):List Nat:=runL T l (i+1) i
theorem runL_fuel(T:Nat→Bool){l:List InM}(hl:GL l):∀ n i,i<n→runL T l n i=rl T l i:=by
 intro n
 induction n using Nat.strongRecOn with
 | ind n ih =>
   intro i hi;obtain ⟨m,rfl⟩:∃ m,n=m+1:=⟨n-1,by omega⟩;have key:∀ k,i≤k→k≤m→runL T l (k+1) i=(match l[i]? with
    | some c=>match c.op with
      | 0=>[]
      | 1=>c.x::rl T l c.a
      | _=>rl T l (if T c.x then c.a else c.b)
    | none=>[]):=by
    intro k hk hkm;rw[runL]
    by_cases h:i<l.length
    ·rw[List.getElem?_eq_getElem h]
     have hg:=hl i h;generalize l[i]=c at *;obtain ⟨op,x,a,b⟩:=c;simp only at hg ⊢;rcases hg with rfl|⟨rfl,h1⟩|⟨rfl,h1,h2⟩
     ·rfl
     ·show x::runL T l k a=x::rl T l a
      rw[ih k (by omega) a (by omega)]
     ·show runL T l k (if T x then a else b)=rl T l (if T x then a else b)
      exact ih k (by omega) _ (by split<;>omega)
    ·rw[List.getElem?_eq_none (by omega)]
   rw[key m (by omega) (Nat.le_refl _)];unfold rl;rw[key i (Nat.le_refl _) (by omega)]
   rfl
theorem rl_at(T:Nat→Bool){l:List InM}(hl:GL l){i:Nat}{c:InM}(hc:l[i]?=some c):rl T l i=if c.op=0 then [] else if c.op=1 then c.x::rl T l c.a else rl T l (if T c.x then c.a else c.b):=by
 obtain ⟨h,rfl⟩:=List.getElem?_eq_some_iff.1 hc;have hg:=hl i h;rw[rl,runL,hc];generalize l[i]=c at *;obtain ⟨op,x,a,b⟩:=c;simp only at hg ⊢;rcases hg with rfl|⟨rfl,h1⟩|⟨rfl,h1,h2⟩
 ·rfl
 ·show x::runL T l i a=x::rl T l a
  rw[runL_fuel T hl i a h1]
 ·show runL T l i (if T x then a else b)=rl T l (if T x then a else b)
  exact runL_fuel T hl i _ (by split<;>omega)
theorem rl_pre(T:Nat→Bool){l l':List InM}(hl':GL l')(hp:l <+: l'):∀ i,i<l.length→rl T l' i=rl T l i:=by
 obtain ⟨s,rfl⟩:=hp;have hl:GL l:=fun i hi=>by have:=hl' i (by simp;omega);rwa [List.getElem_append_left hi]at this
 intro i
 induction i using Nat.strongRecOn with
 | ind i ih =>
   intro hi;have e:(l++s)[i]?=l[i]?:=List.getElem?_append_left hi;have e2:l[i]?=some l[i]:=List.getElem?_eq_getElem hi;rw[rl_at T hl' (e.trans e2),rl_at T hl e2];have hg:=hl i hi
   split
   ·rfl
   ·rename_i h0
    split
    ·rename_i h1
     rw[ih _ (by omega) (by omega)]
    ·rename_i h1
     have:(if T l[i].x then l[i].a else l[i].b)<i:=by split<;>omega
     exact ih _ this (by omega)
def allT(T:Nat→Bool)(q:List (Nat × Bool)):Bool:=q.all fun c=>T c.1==c.2
theorem layChk_pre(y n:Nat)(l:List InM):∀ q:List (Nat × Bool),l <+: (layChk q y n l).2
 | []=>List.prefix_refl _
 | c::r=>by rw[layChk];exact (layChk_pre y n l r).trans (List.prefix_append _ _)
theorem layChk_run(T:Nat→Bool){l:List InM}(h:GL l){y n:Nat}(hy:y<l.length)(hn:n<l.length):∀ q:List (Nat × Bool),rl T (layChk q y n l).2 (layChk q y n l).1=if allT T q then rl T l y else rl T l n
 | []=>rfl
 | c::r=>by
   obtain ⟨g1,g2,g3⟩:=layChk_good h hy hn (c::r);obtain ⟨h1,h2,h3⟩:=layChk_good h hy hn r;have ih:=layChk_run T h hy hn r;have hp:=layChk_pre y n l r;rw[layChk]at g1 ⊢;have hc:((layChk r y n l).2++[if c.2 then (⟨2,c.1,(layChk r y n l).1,n⟩:InM) else ⟨2,c.1,n,(layChk r y n l).1⟩])[(layChk r y n l).2.length]?=some (if c.2 then (⟨2,c.1,(layChk r y n l).1,n⟩:InM) else ⟨2,c.1,n,(layChk r y n l).1⟩):=by simp
   rw[rl_at T g1 hc];have pre:=rl_pre T g1 (List.prefix_append (layChk r y n l).2 _);have hl1:rl T (layChk r y n l).2 n=rl T l n:=rl_pre T h1 hp n hn;have ha:allT T (c::r)=(T c.1==c.2&&allT T r):=rfl;rw[ha];cases hc2:c.2
   ·rw[hc2]at pre
    simp only[Bool.false_eq_true,if_false,show (2:Nat)≠0 by omega,show (2:Nat)≠1 by omega]at pre ⊢;cases hT:T c.1
    ·rw[if_neg (by simp),pre _ h2,ih];simp
    ·rw[if_pos rfl,pre _ (by omega),hl1];simp
   ·rw[hc2]at pre
    simp only[if_true,if_false,show (2:Nat)≠0 by omega,show (2:Nat)≠1 by omega]at pre ⊢;cases hT:T c.1
    ·rw[if_neg (by simp),pre _ (by omega),hl1];simp
    ·rw[if_pos rfl,pre _ h2,ih];simp
def walkK(T:Nat→Bool)(C:List CR)(q:List (List (Nat × Bool)))(S:Nat→List Nat):List Nat→List Nat
 | []=>[]
 | c::r=>if allT T (q.getD c []) then S c++(if (C[c]?.map (·.co))=some true then walkK T C q S r else []) else walkK T C q S r
def sent(T:Nat→Bool)(C:List CR)(q:List (List (Nat × Bool))):Nat→Nat→List Nat
 | 0,_=>[]
 | f+1,r=>if (kids C r).any (fun c=>allT T (q.getD c [])) then walkK T C q (sent T C q f) (kids C r) else [r]
def RSn(T:Nat→Bool)(S:Nat→List Nat)(rec:Nat→Nat→List InM→Nat × List InM):Prop:=∀ c d l,GL l→d<l.length→l <+: (rec c d l).2∧rl T (rec c d l).2 (rec c d l).1=S c++rl T l d
theorem lay1_run{T:Nat→Bool}{S:Nat→List Nat}{rec:Nat→Nat→List InM→Nat × List InM}(hr:RG rec)(hs:RSn T S rec)(C:List CR)(q:List (List (Nat × Bool))){d:Nat}{l:List InM}(h:GL l)(hd:d<l.length):∀ K:List Nat,
 l <+: (lay1 rec C q d l K).2.2∧rl T (lay1 rec C q d l K).2.2 (lay1 rec C q d l K).1=walkK T C q S K++rl T l d ∧
 ∀ (i c b:Nat),K[i]?=some c→(lay1 rec C q d l K).2.1[i]?=some b→allT T (q.getD c [])=true→(∀ (k c':Nat),k<i→K[k]?=some c'→allT T (q.getD c' [])=false)→rl T (lay1 rec C q d l K).2.2 b=walkK T C q S K++rl T l d
 | []=>⟨List.prefix_refl _,rfl,fun i c b h=>by simp at h⟩
 | c::r=>by
   obtain ⟨p1,p2,p3⟩:=lay1_run hr hs C q h hd r;obtain ⟨h1,h2,h3,h4,h5⟩:=lay1_good hr C q h hd r;rw[lay1,walkK];generalize lay1 rec C q d l r=x at *;have hdx:(if (C[c]?.map (·.co))=some true then x.1 else d)<x.2.2.length:=by split<;>omega
   obtain ⟨g1,g2,g3⟩:=hr c (if (C[c]?.map (·.co))=some true then x.1 else d) x.2.2 h1 hdx;obtain ⟨s1,s2⟩:=hs c (if (C[c]?.map (·.co))=some true then x.1 else d) x.2.2 h1 hdx;have e0:rl T x.2.2 (if (C[c]?.map (·.co))=some true then x.1 else d)=(if (C[c]?.map (·.co))=some true then walkK T C q S r else [])++rl T l d:=by
    split
    ·exact p2
    ·rw[rl_pre T h1 p1 d hd];rfl
   rw[e0,← List.append_assoc]at s2;generalize rec c (if (C[c]?.map (·.co))=some true then x.1 else d) x.2.2=b at *;have hxb:x.1<b.2.length:=by omega
   obtain ⟨k1,k2,k3⟩:=layChk_good g1 g2 hxb (q.getD c []);have kr:=layChk_run T g1 g2 hxb (q.getD c []);have kp:=layChk_pre b.1 x.1 b.2 (q.getD c []);have e1:rl T b.2 x.1=walkK T C q S r++rl T l d:=by rw[rl_pre T g1 s1 x.1 h2];exact p2
   refine ⟨(p1.trans s1).trans kp,?_,?_⟩
   ·show rl T (layChk _ _ _ _).2 (layChk _ _ _ _).1=_
    rw[kr];cases allT T (q.getD c [])
    ·simp only[Bool.false_eq_true,if_false];exact e1
    ·simp only[if_true];exact s2
   ·intro i c' b' hi hb' ha hb2
    show rl T (layChk _ _ _ _).2 b'=_;cases i with
    | zero =>
      simp only[List.getElem?_cons_zero,Option.some.injEq]at hi hb';subst hi hb';rw[rl_pre T k1 kp b.1 g2,ha];simp only[if_true];exact s2
    | succ i =>
      simp only[List.getElem?_cons_succ]at hi hb';have hc0:=hb2 0 c (by omega) (by simp);have hb'l:b'<x.2.2.length:=h4 b' (List.mem_of_getElem? hb');have:=p3 i c' b' hi hb' ha (fun k c'' hk hc''=>hb2 (k+1) c'' (by omega) (by simpa using hc''));rw[rl_pre T k1 kp b' (by omega),rl_pre T g1 s1 b' hb'l,this,hc0];simp
theorem lay2_pre(q:List (List (Nat × Bool)))(first:Nat)(l:List InM):∀ Z:List (Nat × Nat),l <+: (lay2 q first l Z).2
 | []=>List.prefix_refl _
 | z::r=>by rw[lay2];exact (lay2_pre q first l r).trans (layChk_pre _ _ _ _)
theorem lay2_run(T:Nat→Bool)(q:List (List (Nat × Bool))){first:Nat}{l:List InM}(h:GL l)(hf:first < l.length)(R:List Nat):∀ Z:List (Nat × Nat),(∀ z∈Z,z.2<l.length) →
 (∀ (i:Nat) (z:Nat × Nat),Z[i]?=some z→allT T (q.getD z.1 [])=true→(∀ (k:Nat) (z':Nat × Nat),k<i→Z[k]?=some z'→allT T (q.getD z'.1 [])=false)→rl T l z.2=R)→rl T (lay2 q first l Z).2 (lay2 q first l Z).1=if Z.any (fun z=>allT T (q.getD z.1 [])) then R else rl T l first
 | [],_,_=>rfl
 | z::r,hz,hR=>by
   obtain ⟨h1,h2,h3⟩:=lay2_good q h hf r (fun y hy=>hz y (by simp[hy]));have hp:=lay2_pre q first l r
   have hz0:=hz z (by simp);rw[lay2,layChk_run T h1 (by omega:z.2<(lay2 q first l r).2.length) h2 (q.getD z.1 []),List.any_cons];cases ha:allT T (q.getD z.1 [])
   ·have ih:=lay2_run T q h hf R r (fun y hy=>hz y (by simp[hy])) (fun i z' hi hz' hk=>hR (i+1) z' (by simpa using hi) hz' (fun k z'' hk' hz''=>by
     cases k with
     | zero=>simp at hz'';rw[← hz''];exact ha
     | succ k=>exact hk k z'' (by omega) (by simpa using hz'')))
    simp only[Bool.false_eq_true,if_false,Bool.false_or];exact ih
   ·simp only[if_true,Bool.true_or]
    rw[rl_pre T h1 hp z.2 hz0];exact hR 0 z rfl ha (fun k z' hk=>by omega)
theorem zip_any(f:Nat→Bool):∀ (K bg:List Nat),bg.length=K.length→(K.zip bg).any (fun z=>f z.1)=K.any f
 | [],bg,_=>by simp
 | c::r,[],h=>by simp at h
 | c::r,b::s,h=>by simp only[List.zip_cons_cons,List.any_cons,zip_any f r s (by simpa using h)]
theorem layR_run(T:Nat→Bool)(C:List CR)(q:List (List (Nat × Bool))):∀ f,RSn T (sent T C q f) (layR C q f)
 | 0=>fun c d l h hd=>⟨List.prefix_refl _,rfl⟩
 | f+1=>fun r d l h hd=>by
   have hr:=layR_good C q f;have hs:=layR_run T C q f;obtain ⟨h1,h2,h3,h4,h5⟩:=lay1_good hr C q h hd (kids C r);obtain ⟨p1,p2,p3⟩:=lay1_run hr hs C q h hd (kids C r);rw[layR,sent];generalize lay1 (layR C q f) C q d l (kids C r)=x at *;have hg:GL (x.2.2++[⟨1,r,d,0⟩]):=h1.snoc (.inr (.inl ⟨rfl,by show d<_;omega⟩));have hpx:x.2.2 <+: x.2.2++[(⟨1,r,d,0⟩:InM)]:=List.prefix_append _ _;have hzl:∀ z∈(kids C r).zip x.2.1,z.2<(x.2.2++[(⟨1,r,d,0⟩:InM)]).length:=by
    intro z hz;have:=h4 z.2 (List.of_mem_zip hz).2;simp;omega
   have hrun:=lay2_run T q hg (by simp:x.2.2.length<(x.2.2++[(⟨1,r,d,0⟩:InM)]).length) (walkK T C q (sent T C q f) (kids C r)++rl T l d) ((kids C r).zip x.2.1) hzl (by
    intro i z hi ha hk;have hz:=List.getElem?_zip_eq_some.1 hi;rw[rl_pre T hg hpx z.2 (h4 z.2 (List.mem_of_getElem? hz.2))];refine p3 i z.1 z.2 hz.1 hz.2 ha (fun k c' hk' hc'=>?_);have hkl:k<x.2.1.length:=by
     rw[h5];exact (List.getElem?_eq_some_iff.1 hc').1
    exact hk k (c',x.2.1[k]) hk' (List.getElem?_zip_eq_some.2 ⟨hc',List.getElem?_eq_getElem hkl⟩))
   refine ⟨(p1.trans hpx).trans (lay2_pre _ _ _ _),?_⟩;show rl T (lay2 q x.2.2.length (x.2.2++[⟨1,r,d,0⟩]) ((kids C r).zip x.2.1)).2 (lay2 q x.2.2.length (x.2.2++[⟨1,r,d,0⟩]) ((kids C r).zip x.2.1)).1=_;rw[hrun,zip_any (fun c=>allT T (q.getD c [])) _ _ h5];cases (kids C r).any fun c=>allT T (q.getD c [])
   ·simp only[Bool.false_eq_true,if_false]
    rw[rl_at T hg (c:=⟨1,r,d,0⟩) (by simp)];simp only[Nat.one_ne_zero,if_false,if_true];rw[rl_pre T hg (p1.trans hpx) d hd]
    rfl
   ·simp only[if_true]
def tT(m:Mach)(V:List UInt8→List UInt8)(x:Nat):Bool:=match m.tests[x]? with
 | some t=>tstM m (V (m.names.getD t.n [])) t
 | none=>false
theorem turn_go{m:Mach}{l:List InM}(hl:GL l){nr:Nat}(hx:GXl nr m.tests.length l){N:List Int}{c:Nat}(hN:NumOK N 0 c)(hlen:N.length=l.length)(hT:TurnOK l N 0 m.code)
 (hsp:∀ j x,l[j]?=some x→0≤N.getD j 0→(x.op≠0→0≤N.getD x.a 0)∧(x.op=2→0≤N.getD x.b 0)) (V:List UInt8→List UInt8):∀ j,j<l.length→0≤N.getD j (-1)→∀ n,m.code.length≤n+(N.getD j (-1)).toNat→runM m V n (N.getD j (-1)).toNat=rl (tT m V) l j:=by
 intro j
 induction j using Nat.strongRecOn with
 | ind j ih =>
   intro hj h0 n hn;have hb:=hT.b j (by omega) h0;obtain ⟨k,rfl⟩:∃ k,n=k+1:=⟨n-1,by omega⟩;have hjl:l[j]?=some l[j]:=List.getElem?_eq_getElem hj;have ho:=hT.a j _ (by omega) hjl h0;obtain ⟨s1,s2⟩:=hsp j _ hjl (by rw[getD_any N j (by omega)];omega);have hg:=hl j hj;have hxx:=hx l[j] (List.getElem_mem _);rw[rl_at _ hl hjl,runM,ho];generalize l[j]=y at *;obtain ⟨op,xn,a,b⟩:=y;simp only[GXi]at hxx;simp only at hg s1 s2 ⊢;have tgt:∀ t,t<j→0≤N.getD t 0→runM m V k (N.getD t 0).toNat=rl (tT m V) l t:=by
    intro t ht ht0;rw[getD_any N t (by omega)]at ht0 ⊢;have h1:=hN.d t j (by omega) ht ht0 h0;exact ih t ht (by omega) ht0 k (by omega)
   rcases hxx with ⟨rfl,rfl,rfl,rfl⟩|⟨rfl,h1,rfl⟩|⟨rfl,h1⟩
   ·rfl
   ·have ha:=tgt a (by omega) (s1 (by omega))
    simp only[turnI,Nat.one_ne_zero,if_false,if_true];rw[ha]
   ·have ha:=tgt a (by omega) (s1 (by omega))
    have hb:=tgt b (by omega) (s2 rfl);simp only[turnI,show (2:Nat)≠0 by omega,if_false,if_true,show (2:Nat)≠1 by omega];have ht:m.tests[xn]?=some m.tests[xn]:=List.getElem?_eq_getElem h1;have hTT:tT m V xn=tstM m (V (m.names.getD m.tests[xn].n [])) m.tests[xn]:=by unfold tT;rw[ht]
    rw[ht,hTT];simp only;cases tstM m (V (m.names.getD m.tests[xn].n [])) m.tests[xn]
    ·simpa using hb
    ·simpa using ha
theorem turn_run{m:Mach}{l:List InM}(hl:GL l){nr:Nat}(hx:GXl nr m.tests.length l)(first:Nat)(hf:first < l.length)(hc:m.code=turnM l first)(V:List UInt8→List UInt8):runM m V m.code.length 0=rl (tT m V) l first:=by
 obtain ⟨c,hN⟩:=numsOf_num l first
 have hlen:=numsOf_len l first
 have hsp:=numsOf_spec hl first
 have hhi:=numsOf_hi hl first
 have hT:TurnOK l (numsOf l first) 0 (turnM l first):=by
  refine turnGo_ok hN hlen (first + 1) [] (by omega) ⟨fun j x hj _ h0=>?_,fun k hk=>by simp at hk,fun j hj h0=>?_⟩
  ·have:=hhi j (by omega);omega
  ·have:=hhi j (by omega);omega
 have h0:0≤(numsOf l first).getD first (-1):=by
  unfold numsOf;exact numGo_first l first hf l.length _ _ 0 hf (Nat.le_refl _) (by simp) (by simp) (getD_set_eq _ _ _ _ (by simpa using hf))
 have hz:(numsOf l first).getD first (-1)=0:=by
  have hb:=hN.b first (by omega) h0
  obtain ⟨j,_,hj⟩:=hN.s 0 (by omega);rcases Nat.lt_trichotomy j first with h1|h1|h1
  ·have:=hN.d j first (by omega) h1 (by rw[hj];omega) h0
   rw[hj]at this;omega
  ·rw[h1]at hj;exact hj
  ·have:=hhi j h1
   rw[hj]at this;omega
 rw[← hc]at hT;have:=turn_go hl hx hN hlen hT hsp V first hf h0 m.code.length (by omega)
 rw[hz]at this;exact this
end Go.Proofs.YtpcbbbilmpobaaaGreatDoor
