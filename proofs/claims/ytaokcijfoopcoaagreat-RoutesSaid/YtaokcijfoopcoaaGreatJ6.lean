import Derived.Test.YtaokcijfoopcoaaGreatJ5
import Derived.Test.YtaokcijfoopcoaaGreatJ4
import Derived.Laws.CopyOwn
import Derived.Laws.MakeOwn
import Derived.Test.YtaokcijfoopcoaaGreatJ1
import Derived.Test.YtaokcijfoopcoaaGreatJ2
import Derived.Test.YtaokcijfoopcoaaGreatJ3
import Derived.Deep.DeepCutAuto
import Derived.Deep.CutBlock
import Derived.WalkSpells
import Derived.Test.YtaokcijfoopcoaaGreatRows
import Derived.ProofKit
import Derived.OpenShut
import Derived.DataShut
import Derived.SizedLaws
import Derived.Carry
import Derived.Deep.SlicePairs
set_option linter.unusedVariables false
set_option linter.unusedSimpArgs false
set_option linter.unnecessarySimpa false
set_option linter.defProp false
set_option maxRecDepth 100000
set_option maxHeartbeats 16000000
namespace Go.Proofs.YtaokcijfoopcoaaGreat
open Go.RowKit
section
variable {Z:LN} {w w0:World} {V:V6} {L:List LB} {x:LB} {g:Nat} {v:Value} {o:Obj}
def KS.Dx {kb:Nat} {U:V4} {s:CS}(h:KS Z w0 kb w V U s):∀g∈kb::Mf V U,g<w.heap.size:=by obtain⟨ca,cq,g⟩:=h.g;exact g.ait
theorem KF.aY {kb:Nat} {a wb:World}{e:V6} {U i:V4}(h:KF kb a V U wb e i) {n b:Nat} {o:Obj}(c:∀g∈kb::Mf V U,g<n)(hb:n<=b)(ho:a.heap[b]?=some o):wb.heap[b]?=some o :=
 (h.f.block b (a0c.1 ho).1 (λd=>by have:=c b d;omega)).trans ho
def aeq(h:iL L x=L.length):l9 L x=L++[x]:=by unfold l9;rw[a0m h]
def aer(h:¬ iL L x=L.length):l9 L x=L:=by unfold l9;rw[a0n h]
def TOQ(Z:LN)(re:LB->Nat)(bI:LB->gz)(w0:World)(kb:Nat)(w:World)(V:V6)(U:V4)(s:CS)(m:CM)(e:Ending)(w':World):Prop :=
 (nP re bI s m=none/\re m.2.2≠0/\aB [kb] w0 w'/\∃t,e=zQ #[.agg (kV t),zI (re m.2.2:Nat)]) \/
 (∃t s1 V' U',nP re bI s m=some (t,s1)/\e=zQ #[.agg (kV t),zI 0]/\KS Z w0 kb w' V' U' s1/\KV V V' U U'/\KF kb w V U w' V' U')
def avn:(Tryz.prog.info? 113).map (·.size)=some 3:=by kernel_rfl
def wZ {cs:Array Value}(h:w.heap[g]?=some (.cells cs 113 (0,0)))(a:cs.size=3):(loadVar 113 (zA g)).run Tryz.prog w=.ok (.agg cs) w :=
 run_loadVar_row w g 113 113 cs (0,0) _ h Tryz.underlying113 rfl (by rw[a];exact avn)
def xc {t:TypeId} {f e d:Value}{c b a:Value}(h:w.heap[g]?=some (.cells #[f,e,d] t (0,0))):(((w.setCell (zA g) c).setCell (zB g 1) b).setCell (zB g 2) a).heap[g]?=some (.cells #[c,b,a] t (0,0)):=by simp[World.setCell,a0v,h]
def VQ(w:World)(g:Nat)(c b a:Value):aB [g] w (((w.setCell (zA g) c).setCell (zB g 1) b).setCell (zB g 2) a) :=
 (((aB.refl [g] _).setCell (p:=(zA g)) (.inl (by simp)) _).setCell (p:=(zB g 1)) (.inl (by simp)) _).setCell (p:=(zB g 2)) (.inl (by simp)) _
def aiu(Z:LN)(re:LB->Nat)(bI:LB->gz)(w0:World)(kb:Nat)(w:World)(V:V6)(U:V4)(s:CS)(h:KS Z w0 kb w V U s)(hZ:∀g∈Z,g<w.heap.size)(nm:LB)(kd:Nat)(vl:LB)(hv:(kd=2\/kd=3)->RCP re bI vl)(hkd:kd<=3)(hbn:s.n.length<=1000)(XL:s.c.length<=1000)(Nz:s.x.length<=1000)(hba:s.a.length<=1000) :
 zF 53 #[zP kb,.agg #[zT nm,zI kd,zT vl]] w (TOQ Z re bI w0 kb w V U s (nm,kd,vl)):=by
 obtain⟨vn,vc,va,vt,vr,vi⟩:=V;have hO:OW 9 1 w0.heap.size w vn (sc s.n):=h.own 0 (r:=⟨9,1,vn,sc s.n⟩) (λca cq=>rfl);obtain⟨an,cn,he⟩:=hO.shape;rw[iC]at he;subst he;have HOL:=aj h.Dx;have HK:=aj h;have jU:=h.lo;have YG:=h.row.lt;have hfl:=Eg s.n nm;have c0:=h.row.c 0;simp at c0;have N1:Z_ (∀W,aB [] w W->zF 72 #[.slice an s.n.length cn,zT nm] W λe w'=>e=zR (zI (iL s.n nm:Nat))/\w'=W):=λW hW=>(VE W _ [] s.n nm ((hO.rw (by simp)).aC hW (by simp)) (by omega)).mono (λe w' h=>⟨h.1,h.2.symm⟩)
 have FW:Z_ (∀n,aB [] w (((w.alloc (Obj.cells #[zT nm,zI kd,zT vl] 127)).alloc (Obj.cells #[zI 0,zI 0,zI 0] 113)).drewN n)):=λn=>(((aB.refl [] w).alloc _).alloc _).drewN n
 clear h hO;go_enter Tryz.func53,Tryz.ntmps53
 go_upto_region 1 with fail
 go_cut [6] (λv6 wc=>True/\v6=zI (iL s.n nm:Nat)/\aB [] w wc/\wc.heap[w.heap.size]?=some (.cells #[zT nm,zI kd,zT vl] 127 (0,0))/\wc.heap[w.heap.size+1]?=some (.cells #[zI 0,zI 0,zI 0] 113 (0,0)))
 case first =>
  go_quiet ((go_at_call 72;exact Calls.quiet_of_same (N1.o _ (FW.o _))))
  go_wp2;go_meet;exact⟨trivial,rfl,FW.o _,(((aB.refl [] _).alloc _).block w.heap.size (by simp) (by simp)).trans (bD _ _),Nf _ _ _⟩
 case rest =>
  obtain⟨_,rfl,hFa,hm,ht⟩:=hcut;obtain⟨wa,hwa⟩:∃wa,wa=wc:=⟨_,rfl⟩;subst hwa;have KA:Z_ (KS ((w.heap.size+1)::w.heap.size::Z) w0 kb wa ⟨.slice an s.n.length cn,vc,va,vt,vr,vi⟩ U s):=((HK.o.alU (a0b _)).alU (Nat.le_succ _)).aC hFa;have HM:=aj hm;have HT:=aj ht;have HFA:=aj hFa;have Qa:=hFa.size;have ZJ:w.heap.size+1<wa.heap.size:=(a0c.1 ht).1;have m0:zC wa w.heap.size 0 (zT nm):=by simp[World.cell?,hm]
  have d0:=hFa.at (p:=(zA kb)) YG c0;have z0:=KA.o.row.fz 0;have hka:=KA.o.row.lt;have OA:=aj (KA.o.own 0 (r:=⟨9,1,.slice an s.n.length cn,sc s.n⟩) (λca cq=>rfl));have mI:Z_ ((sc s.n).length=s.n.length):=iC s.n;have Dt:Z_ (∀r,Value.ownBlock (.slice an s.n.length cn)=some r->r≠kb):=λr hr=>by have:=(OA.o.lt hr).1;omega
  have gT:=jU.2;clear hFa hm ht N1 FW c0;go_upto_if 25 with fail
  go_cut [6] (λv6 wc=>True/\v6=zI (iL s.n nm:Nat)/\∃vn1,KS ((w.heap.size+1)::w.heap.size::Z) w0 kb wc ⟨vn1,vc,va,vt,vr,vi⟩ U { s with n:=l9 s.n nm }/\KF kb wa ⟨.slice an s.n.length cn,vc,va,vt,vr,vi⟩ U wc ⟨vn1,vc,va,vt,vr,vi⟩ U)
  case first =>
   by_cases Lf:iL s.n nm=s.n.length
   ·have HAX:=aj (aeq Lf)
    have kv:((iL s.n nm:Int)==(s.n.length:Int))=true:=by rw[Lf];simp
    have HFE:=aj Lf;clear hfl;generalize iL s.n nm=fx at *;subst Lf;go_wp2_with fail
    go_region_law ((refine CU (by rfl) 48 9 1 16 uY Tryz.underlying48 (by rfl) (by omega) (by rfl) w0.heap.size (.slice an s.n.length cn) (sc s.n) wa.heap.size #[zT nm] (0,0) (by rfl) (OA.o.aC (S:=[]) (((aB.refl [] _).alloc _).drew) (by simp)) (by rfl) (by rfl) (by exact bD _ _) (by simp[Value.oneCell']) (by rw[mI.o];omega) (by rw[mI.o];omega) (by simp;omega) (wa.heap.size+1) (by simp) ?_;intro gg aU w4 bT aH bq AO;rw[mI.o]at bT |-;have R4:=aj ((KA.o.row.aC (S:=[]) (((aB.refl [] _).alloc _).drew) (by simp)).grown aH Dt);have k0:=R4.o.c 0;have y0:=R4.o.fz 0;simp at k0))
    all_goals
     have O4:OW 9 1 w0.heap.size w4 (zS gg (s.n.length+1) aU) (sc (s.n++[nm])):=by rw[<-abt];exact bT
     have K5:=aj (KA.o.put (((aB.refl [] _).alloc _).drew) 0 ⟨9,1,.slice an s.n.length cn,sc s.n⟩ ⟨9,1,zS gg (s.n.length+1) aU,sc (s.n++[nm])⟩ (V':=⟨zS gg (s.n.length+1) aU,vc,va,vt,vr,vi⟩) (U':=U) (s':={ s with n:=s.n++[nm] }) (λca cq=>rfl) (λca cq=>rfl) rfl rfl aH O4 rfl (by simpa using bq) 0 (zS gg (s.n.length+1) aU) rfl);have KF5:Z_ (KF kb wa ⟨.slice an s.n.length cn,vc,va,vt,vr,vi⟩ U (w4.setCell (zA kb) (zS gg (s.n.length+1) aU)) ⟨zS gg (s.n.length+1) aU,vc,va,vt,vr,vi⟩ U):=KF.put (s:=s) (s':={ s with n:=s.n++[nm] }) (ca:=[]) (cq:=[]) (ca':=[]) (cq':=[]) (((aB.refl [] _).alloc _).drew) 0 (r:=⟨9,1,.slice an s.n.length cn,sc s.n⟩) (r':=⟨9,1,zS gg (s.n.length+1) aU,sc (s.n++[nm])⟩) rfl rfl aH rfl (by simpa using bq) 0 _;clear aH bT bq k0 y0 R4 O4;go_wp2;go_meet;exact⟨trivial,rfl,_,by rw[HAX.o];exact K5,KF5⟩
   have HAX:=aj (aer Lf);have kv:((iL s.n nm:Int)==(s.n.length:Int))=false:=by rw[a0j];omega
   have jR:decide ((iL s.n nm:Int)=(s.n.length:Int))=false:=a0f (by omega);generalize iL s.n nm=fx at *;go_wp2;go_meet;exact⟨trivial,rfl,_,by rw[HAX.o];exact KA,KF.refl _ _ _ _⟩
  case rest =>
   obtain⟨_,rfl,vn1,hKB,al9⟩:=hcut;obtain⟨wb,EH⟩:∃wb,wb=wc:=⟨_,rfl⟩;subst EH;have KB:=aj hKB;have KFB:=aj al9;have hmb:=al9.aY HOL.o (a0b _) HM;have m1:zC wb w.heap.size 1 (zI kd):=by simp[World.cell?,hmb]
   have m2:zC wb w.heap.size 2 (zT vl):=by simp[World.cell?,hmb]
   have Yk:=al9.f.size;have hkb:=hKB.row.lt;have HZ2:Z_ (∀g∈(w.heap.size+1)::w.heap.size::Z,g<wb.heap.size):=λg hg=>by
    simp at hg;rcases hg with rfl|rfl|hg
    ·omega
    ·omega
    have:=hZ g hg;omega
   have aet:Z_ (∀(w3:World) (V3:V6) (U3:V4) (s3:CS) (a b c:Value),KS ((w.heap.size+1)::w.heap.size::Z) w0 kb w3 V3 U3 s3->KF kb wb ⟨vn1,vc,va,vt,vr,vi⟩ U w3 V3 U3->KS Z w0 kb (((w3.setCell (zA (w.heap.size+1)) a).setCell (zB (w.heap.size+1) 1) b).setCell (zB (w.heap.size+1) 2) c) V3 U3 s3/\KF kb w ⟨.slice an s.n.length cn,vc,va,vt,vr,vi⟩ U (((w3.setCell (zA (w.heap.size+1)) a).setCell (zB (w.heap.size+1) 1) b).setCell (zB (w.heap.size+1) 2) c) V3 U3):=by
    intro w3 V3 U3 s3 a b c hk hf;have fI:=KFB.o.trans hf;have FS:=VQ w3 (w.heap.size+1) a b c;have h1:=hk.off FS (by simp) (by simp;omega) (by
     intro g hg hm;simp at hg;subst hg;rcases fI.asz _ hm with h2|h2
     ·have:=HOL.o (w.heap.size+1) (by simp[h2]);omega
     omega)
    have K:=(KF.of (kb:=kb) (V:=⟨.slice an s.n.length cn,vc,va,vt,vr,vi⟩) (U:=U) HFA).trans fI;exact⟨h1.afK.afK,K.f.over FS (by simp),K.asz⟩
   have Mg:Z_ (∀(w3:World) (V3:V6) (U3:V4),KF kb wb ⟨vn1,vc,va,vt,vr,vi⟩ U w3 V3 U3->w3.heap[w.heap.size+1]?=some (.cells #[zI 0,zI 0,zI 0] 113 (0,0))):=λw3 V3 U3 hf=>(KFB.o.trans hf).aY HOL.o (Nat.le_succ _) HT
   clear hKB al9 hmb m0 d0 z0 OA mI Dt
   by_cases hk:kd=2\/kd=3
   ·have N2:=aj (Jb ((w.heap.size+1)::w.heap.size::Z) re bI w0 kb wb ⟨vn1,vc,va,vt,vr,vi⟩ U { s with n:=l9 s.n nm } KB.o HZ2.o vl (hv hk) Nz hba)
    have Oi:Z_ (nP re bI s (nm,kd,vl)=if iL s.x vl<s.x.length then some (⟨iL s.n nm,1,iL s.x vl⟩,{ s with n:=l9 s.n nm }) else if re vl=0 then some (⟨iL s.n nm,1,iL s.x vl⟩,{ s with n:=l9 s.n nm,x:=s.x++[vl],a:=s.a++[bI vl] }) else none):=by
     show _=_;unfold nP;rw[a0m hk]
    have hfx:=Eg s.x vl;generalize iL s.n nm=fn at *;rcases hk with rfl|rfl
    ·go_wp2_with fail
     refine(N2.o).mono ?_;clear N2;rintro e w3 hN;rcases hN with⟨h1,rfl,hK3,vK⟩|⟨h1,h2,rfl,V3,U3,hK3,aiv,vK⟩|⟨h1,h2,rfl,Gq,vK⟩
     ·have hE:=aet.o w3 _ _ _ (zI fn) (zI 1) (zI (iL s.x vl:Nat)) hK3 vK
      have jo:=Mg.o w3 _ _ vK;have HE:=aj hE;have QS:=aj jo;have HP:Z_ (nP re bI s (nm,2,vl)=some (⟨fn,1,iL s.x vl⟩,{ s with n:=l9 s.n nm })):=by
       show _=_;rw[Oi.o,a0m h1]
      have t0:zC w3 (w.heap.size+1) 0 (zI 0):=by simp[World.cell?,jo]
      have t1:zC w3 (w.heap.size+1) 1 (zI 0):=by simp[World.cell?,jo]
      have t2:zC w3 (w.heap.size+1) 2 (zI 0):=by simp[World.cell?,jo]
      have tz:∀o,w3.frozen? (zB (w.heap.size+1) o)=false:=λo=>by simp[World.frozen?,jo]
      clear hE jo h1 hK3 vK Oi;generalize iL s.x vl=fv at *;go_wp2_with fail
      refine bodyPost_ret (bS rfl (w.heap.size+1) (kV ⟨fn,1,fv⟩) rfl (wZ (xc QS) rfl)) rfl ?_;exact .inr ⟨_,_,_,_,HP,rfl,HE.o.1,KV.refl _ _,HE.o.2⟩
     ·have hE:=aet.o w3 _ _ _ (zI fn) (zI 1) (zI s.x.length) hK3 vK
      have jo:=Mg.o w3 _ _ vK;have HE:=aj hE;have QS:=aj jo;have HP:Z_ (nP re bI s (nm,2,vl)=some (⟨fn,1,s.x.length⟩,{ s with n:=l9 s.n nm,x:=s.x++[vl],a:=s.a++[bI vl] })):=by
       show _=_;rw[Oi.o,a0n (by simp only at h1;omega),a0m h2];simp only at h1;rw[h1]
      have Gx:=aj aiv;have t0:zC w3 (w.heap.size+1) 0 (zI 0):=by simp[World.cell?,jo]
      have t1:zC w3 (w.heap.size+1) 1 (zI 0):=by simp[World.cell?,jo]
      have t2:zC w3 (w.heap.size+1) 2 (zI 0):=by simp[World.cell?,jo]
      have tz:∀o,w3.frozen? (zB (w.heap.size+1) o)=false:=λo=>by simp[World.frozen?,jo]
      clear hE jo h1 h2 hK3 aiv vK Oi;go_wp2_with fail
      refine bodyPost_ret (bS rfl (w.heap.size+1) (kV ⟨fn,1,s.x.length⟩) rfl (wZ (xc QS) rfl)) rfl ?_;exact .inr ⟨_,_,_,_,HP,rfl,HE.o.1,⟨Gx.o.1,Gx.o.2.1,Gx.o.2.2.1,Gx.o.2.2.2⟩,HE.o.2⟩
     have jo:=Mg.o w3 _ _ vK;have QS:=aj jo;have HP:Z_ (nP re bI s (nm,2,vl)=none):=by
      show _=_;rw[Oi.o,a0n (by simp only at h1;omega),a0n h2]
     have HRE:=aj h2;have F3:=aj Gq;have t0:zC w3 (w.heap.size+1) 0 (zI 0):=by simp[World.cell?,jo]
     have t1:zC w3 (w.heap.size+1) 1 (zI 0):=by simp[World.cell?,jo]
     have t2:zC w3 (w.heap.size+1) 2 (zI 0):=by simp[World.cell?,jo]
     have tz:∀o,w3.frozen? (zB (w.heap.size+1) o)=false:=λo=>by simp[World.frozen?,jo]
     clear jo h1 h2 Gq vK Oi;go_wp2_with fail
     refine bodyPost_ret (bS rfl (w.heap.size+1) (kV ⟨fn,1,0⟩) rfl (wZ (xc QS) rfl)) rfl ?_;exact .inl ⟨HP,HRE,F3.o.over (VQ _ _ _ _ _) (by simp;omega),_,rfl⟩
    go_wp2_with fail
    refine(N2.o).mono ?_;clear N2;rintro e w3 hN;rcases hN with⟨h1,rfl,hK3,vK⟩|⟨h1,h2,rfl,V3,U3,hK3,aiv,vK⟩|⟨h1,h2,rfl,Gq,vK⟩
    ·have hE:=aet.o w3 _ _ _ (zI fn) (zI 1) (zI (iL s.x vl:Nat)) hK3 vK
     have jo:=Mg.o w3 _ _ vK;have HE:=aj hE;have QS:=aj jo;have HP:Z_ (nP re bI s (nm,3,vl)=some (⟨fn,1,iL s.x vl⟩,{ s with n:=l9 s.n nm })):=by
      show _=_;rw[Oi.o,a0m h1]
     have t0:zC w3 (w.heap.size+1) 0 (zI 0):=by simp[World.cell?,jo]
     have t1:zC w3 (w.heap.size+1) 1 (zI 0):=by simp[World.cell?,jo]
     have t2:zC w3 (w.heap.size+1) 2 (zI 0):=by simp[World.cell?,jo]
     have tz:∀o,w3.frozen? (zB (w.heap.size+1) o)=false:=λo=>by simp[World.frozen?,jo]
     clear hE jo h1 hK3 vK Oi;generalize iL s.x vl=fv at *;go_wp2_with fail
     refine bodyPost_ret (bS rfl (w.heap.size+1) (kV ⟨fn,1,fv⟩) rfl (wZ (xc QS) rfl)) rfl ?_;exact .inr ⟨_,_,_,_,HP,rfl,HE.o.1,KV.refl _ _,HE.o.2⟩
    ·have hE:=aet.o w3 _ _ _ (zI fn) (zI 1) (zI s.x.length) hK3 vK
     have jo:=Mg.o w3 _ _ vK;have HE:=aj hE;have QS:=aj jo;have HP:Z_ (nP re bI s (nm,3,vl)=some (⟨fn,1,s.x.length⟩,{ s with n:=l9 s.n nm,x:=s.x++[vl],a:=s.a++[bI vl] })):=by
      show _=_;rw[Oi.o,a0n (by simp only at h1;omega),a0m h2];simp only at h1;rw[h1]
     have Gx:=aj aiv;have t0:zC w3 (w.heap.size+1) 0 (zI 0):=by simp[World.cell?,jo]
     have t1:zC w3 (w.heap.size+1) 1 (zI 0):=by simp[World.cell?,jo]
     have t2:zC w3 (w.heap.size+1) 2 (zI 0):=by simp[World.cell?,jo]
     have tz:∀o,w3.frozen? (zB (w.heap.size+1) o)=false:=λo=>by simp[World.frozen?,jo]
     clear hE jo h1 h2 hK3 aiv vK Oi;go_wp2_with fail
     refine bodyPost_ret (bS rfl (w.heap.size+1) (kV ⟨fn,1,s.x.length⟩) rfl (wZ (xc QS) rfl)) rfl ?_;exact .inr ⟨_,_,_,_,HP,rfl,HE.o.1,⟨Gx.o.1,Gx.o.2.1,Gx.o.2.2.1,Gx.o.2.2.2⟩,HE.o.2⟩
    have jo:=Mg.o w3 _ _ vK;have QS:=aj jo;have HP:Z_ (nP re bI s (nm,3,vl)=none):=by
     show _=_;rw[Oi.o,a0n (by simp only at h1;omega),a0n h2]
    have HRE:=aj h2;have F3:=aj Gq;have t0:zC w3 (w.heap.size+1) 0 (zI 0):=by simp[World.cell?,jo]
    have t1:zC w3 (w.heap.size+1) 1 (zI 0):=by simp[World.cell?,jo]
    have t2:zC w3 (w.heap.size+1) 2 (zI 0):=by simp[World.cell?,jo]
    have tz:∀o,w3.frozen? (zB (w.heap.size+1) o)=false:=λo=>by simp[World.frozen?,jo]
    clear jo h1 h2 Gq vK Oi;go_wp2_with fail
    refine bodyPost_ret (bS rfl (w.heap.size+1) (kV ⟨fn,1,0⟩) rfl (wZ (xc QS) rfl)) rfl ?_;exact .inl ⟨HP,HRE,F3.o.over (VQ _ _ _ _ _) (by simp;omega),_,rfl⟩
   have Oi:Z_ (nP re bI s (nm,kd,vl)=some (⟨iL s.n nm,0,iL s.c vl⟩,{ s with n:=l9 s.n nm,c:=l9 s.c vl })):=by
    show _=_;unfold nP;rw[a0n hk]
   have JG:((kd:Int)==2)=false:=by rw[a0j];omega
   have Vo:((kd:Int)==3)=false:=by rw[a0j];omega
   have ayS:decide ((kd:Int)=2)=false:=a0f (by omega);have ayT:decide ((kd:Int)=3)=false:=a0f (by omega);have hO:OW 9 1 w0.heap.size wb vc (sc s.c):=KB.o.own 1 (r:=⟨9,1,vc,sc s.c⟩) (λca cq=>rfl);obtain⟨ac,VR,he⟩:=hO.shape;rw[iC]at he;subst he;have c1:=KB.o.row.c 1;simp at c1;have z1:=KB.o.row.fz 1;have N3:Z_ (∀W,aB [] wb W->zF 72 #[.slice ac s.c.length VR,zT vl] W λe w'=>e=zR (zI (iL s.c vl:Nat))/\w'=W):=λW hW=>(VE W _ [] s.c vl ((hO.rw (by simp)).aC hW (by simp)) (by omega)).mono (λe w' h=>⟨h.1,h.2.symm⟩)
   have FB:Z_ (∀n,aB [] wb (wb.drewN n)):=λn=>(aB.refl [] _).drewN n
   have OB:=aj hO;have hfc:=Eg s.c vl;have mI:Z_ ((sc s.c).length=s.c.length):=iC s.c;have Dt:Z_ (∀r,Value.ownBlock (.slice ac s.c.length VR)=some r->r≠kb):=λr hr=>by have:=(OB.o.lt hr).1;omega
   have hmw:w.heap.size<wb.heap.size:=by omega
   have ayU:∀n,kb<(wb.drewN n).heap.size:=λn=>hkb
   have ayV:∀n,w.heap.size<(wb.drewN n).heap.size:=λn=>hmw
   have c1d:∀n o,zC ((wb.drewN n).alloc o) kb 1 (.slice ac s.c.length VR):=λn o=>((((aB.refl [] wb).drewN n).alloc o).cell (p:=(zB kb 1)) hkb (by simp)).trans c1
   clear hO;generalize iL s.n nm=fn at *
   by_cases Lf:iL s.c vl=s.c.length
   ·have HAX:=aj (aeq Lf)
    rw[Lf]at N3 Oi;clear hfc Lf;go_wp2_with fail
    go_quiet ((go_at_call 72;exact Calls.quiet_of_same (N3.o _ (FB.o _))))
    go_wp2_with fail
    go_region_law ((refine CU (by rfl) 48 9 1 16 uY Tryz.underlying48 (by rfl) (by omega) (by rfl) w0.heap.size (.slice ac s.c.length VR) (sc s.c) wb.heap.size #[zT vl] (0,0) (by rfl) (OB.o.aC (S:=[]) (((aB.refl [] _).drewN _).alloc _) (by simp)) (by rfl) (by rfl) (by exact bD (wb.drewN _) _) (by simp[Value.oneCell']) (by rw[mI.o];omega) (by rw[mI.o];omega) (by simp;omega) (wb.heap.size+1) (by simp) ?_;intro gg aU w4 bT aH bq AO;rw[mI.o]at bT |-;have R4:=aj ((KB.o.row.aC (S:=[]) (((aB.refl [] _).drewN _).alloc _) (by simp)).grown aH Dt);have k1:=R4.o.c 1;have y1:=R4.o.fz 1;simp at k1))
    all_goals
     have O4:OW 9 1 w0.heap.size w4 (zS gg (s.c.length+1) aU) (sc (s.c++[vl])):=by rw[<-abt];exact bT
     have K5:=aj (KB.o.put (((aB.refl [] _).drewN _).alloc _) 1 ⟨9,1,.slice ac s.c.length VR,sc s.c⟩ ⟨9,1,zS gg (s.c.length+1) aU,sc (s.c++[vl])⟩ (V':=⟨vn1,zS gg (s.c.length+1) aU,va,vt,vr,vi⟩) (U':=U) (s':={ s with n:=l9 s.n nm,c:=s.c++[vl] }) (λca cq=>rfl) (λca cq=>rfl) rfl rfl aH O4 rfl (by simpa using bq) 1 (zS gg (s.c.length+1) aU) rfl);have KF5:Z_ (KF kb wb ⟨vn1,.slice ac s.c.length VR,va,vt,vr,vi⟩ U (w4.setCell (zB kb 1) (zS gg (s.c.length+1) aU)) ⟨vn1,zS gg (s.c.length+1) aU,va,vt,vr,vi⟩ U):=KF.put (s:=s) (s':={ s with c:=s.c++[vl] }) (ca:=[]) (cq:=[]) (ca':=[]) (cq':=[]) (((aB.refl [] _).drewN _).alloc _) 1 (r:=⟨9,1,.slice ac s.c.length VR,sc s.c⟩) (r':=⟨9,1,zS gg (s.c.length+1) aU,sc (s.c++[vl])⟩) rfl rfl aH rfl (by simpa using bq) 1 _;have jo:=Mg.o _ _ _ KF5;have HE:=aj (aet.o _ _ _ _ (zI fn) (zI 0) (zI s.c.length) K5.o KF5);have QS:=aj jo;have t0:zC (w4.setCell (zB kb 1) (zS gg (s.c.length+1) aU)) (w.heap.size+1) 0 (zI 0):=by simp[World.cell?,jo]
     have t1:zC (w4.setCell (zB kb 1) (zS gg (s.c.length+1) aU)) (w.heap.size+1) 1 (zI 0):=by simp[World.cell?,jo]
     have t2:zC (w4.setCell (zB kb 1) (zS gg (s.c.length+1) aU)) (w.heap.size+1) 2 (zI 0):=by simp[World.cell?,jo]
     have tz:∀o,(w4.setCell (zB kb 1) (zS gg (s.c.length+1) aU)).frozen? (zB (w.heap.size+1) o)=false:=λo=>by simp[World.frozen?,jo]
     clear aH bT bq k1 y1 R4 O4 jo;generalize w4.setCell (zB kb 1) (zS gg (s.c.length+1) aU)=w5 at *;go_wp2_with fail
     refine bodyPost_ret (bS rfl (w.heap.size+1) (kV ⟨fn,0,s.c.length⟩) rfl (wZ (xc QS) rfl)) rfl ?_;exact .inr ⟨_,_,_,_,by rw[Oi.o,HAX.o],rfl,HE.o.1,⟨rfl,rfl,rfl,rfl⟩,HE.o.2⟩
   have HAX:=aj (aer Lf);have kv:((iL s.c vl:Int)==(s.c.length:Int))=false:=by rw[a0j];omega
   have jR:decide ((iL s.c vl:Int)=(s.c.length:Int))=false:=a0f (by omega);generalize iL s.c vl=fc at *;have jo:=Mg.o wb _ _ (KF.refl _ _ _ _);have QS:=aj jo;have t0:zC wb (w.heap.size+1) 0 (zI 0):=by simp[World.cell?,jo]
   have t1:zC wb (w.heap.size+1) 1 (zI 0):=by simp[World.cell?,jo]
   have t2:zC wb (w.heap.size+1) 2 (zI 0):=by simp[World.cell?,jo]
   have tz:∀o,wb.frozen? (zB (w.heap.size+1) o)=false:=λo=>by simp[World.frozen?,jo]
   clear jo;go_wp2_with fail
   go_quiet ((go_at_call 72;exact Calls.quiet_of_same (N3.o _ (FB.o _))))
   go_wp2_with fail
   refine bodyPost_ret (bS rfl (w.heap.size+1) (kV ⟨fn,0,fc⟩) rfl (wZ (xc (QS.o:(wb.drewN nq).heap[w.heap.size+1]?=_)) rfl)) rfl ?_;have HE:=aet.o (wb.drewN nq) _ _ _ (zI fn) (zI 0) (zI fc) (KB.o.aC (FB.o nq)) (KF.of (FB.o nq));exact .inr ⟨_,_,_,_,by rw[Oi.o,HAX.o],rfl,HE.1,KV.refl _ _,HE.2⟩
def mF(re:LB->Nat):List CM->Nat
 | []=>0
 | m::r=>if (m.2.1==2||m.2.1==3)&&!(re m.2.2==0) then re m.2.2 else mF re r
def xF(re:LB->Nat):List CR->Nat->Nat × Nat
 | [],_=>(0,0)
 | c::r,i=>if !(mF re c.ifs==0) then (mF re c.ifs,i+2) else xF re r (i+1)
theorem ard {re:LB->Nat} {bI:LB->gz} {s:CS}(b:∀y∈s.x,re y=0)(m:CM) :
 (nP re bI s m=none/\(m.2.1==2||m.2.1==3)=true/\re m.2.2≠0)\/(∃t s1,nP re bI s m=some (t,s1)/\(∀y∈s1.x,re y=0)/\((m.2.1==2||m.2.1==3)&&!(re m.2.2==0))=false):=by
 unfold nP
 by_cases a:m.2.1=2\/m.2.1=3
 .rw[a0m a]
  by_cases d:iL s.x m.2.2<s.x.length
  .rw[a0m d]
   refine .inr ⟨_,_,rfl,b,?_⟩;have hz:re m.2.2=0:=by grind [iL]
   simp[hz]
  grind
 grind
theorem El {re:LB->Nat} {bI:LB->gz}:∀(M:List CM) (s:CS) (acc:List (Nat × Bool)),(∀y∈s.x,re y=0) ->
 (∃e,nu re bI s acc M=.error e/\mF re M=e/\e≠0)\/(∃l s1,nu re bI s acc M=.ok (l,s1)/\mF re M=0/\∀y∈s1.x,re y=0)
 | [],s,acc,a=>.inr ⟨acc,s,rfl,rfl,a⟩
 | m::r,s,acc,a=>by
   rcases ard (bI:=bI) a m with⟨d,c,b⟩|⟨t,s1,d,c,b⟩
   .grind [nu,mF]
   have e:nu re bI s acc (m::r)=nu re bI { s1 with t:=pE s1.t t } (acc++[(C6 s1.t t,IV m)]) r:=by rw[nu,d]
   rw[e,mF,b];exact El r { s1 with t:=pE s1.t t } _ c
theorem Uk {re:LB->Nat} {bI:LB->gz}:∀(C:List CR) (s:CS) (i:Nat),(∀y∈s.x,re y=0) ->
 (∃e,pread re bI s i C=.error e/\xF re C i=e/\e.1≠0)\/(∃s1,pread re bI s i C=.ok s1/\xF re C i=(0,0)/\∀y∈s1.x,re y=0)
 | [],s,i,a=>.inr ⟨s,rfl,rfl,a⟩
 | c::r,s,i,a=>by
   rcases El (bI:=bI) c.ifs s [] a with⟨e,f,d,b⟩|⟨l,s1,f,d,b⟩
   .grind [pread,xF]
   have e:pread re bI s i (c::r)=pread re bI { s1 with q:=s1.q++[l] } (i+1) r:=by rw[pread,f]
   rw[e,xF,d];exact Uk r { s1 with q:=s1.q++[l] } (i+1) b
structure CSB(s:CS)(k:Nat):Prop where
 n:s.n.length<=k
 c:s.c.length<=k
 x:s.x.length<=k
 a:s.a.length<=k
 t:s.t.length<=k
def aeu(L:List LB)(x:LB):(l9 L x).length<=L.length+1:=by unfold l9;split<;>simp
def VS(L:List jd)(x:jd):(pE L x).length<=L.length+1:=by unfold pE;split<;>simp
def aev {re:LB->Nat} {bI:LB->gz} {s s1:CS} {t:jd} {k:Nat}(h:CSB s k) {m:CM}(he:nP re bI s m=some (t,s1)):CSB { s1 with t:=pE s1.t t } (k+1)/\s1.t=s.t/\s1.q=s.q:=by
 have:=aeu s.n m.1;have:=aeu s.c m.2.2;obtain⟨i,g,f,e,d⟩:=h;unfold nP at he
 split at he
 .split at he
  .cases he
   have ht:=VS s.t ⟨iL s.n m.1,1,iL s.x m.2.2⟩;exact⟨⟨by simp only;omega,by simp only;omega,by simp only;omega,by simp only;omega,by simp only;omega⟩,rfl,rfl⟩
  split at he
  .cases he
   have ht:=VS s.t ⟨iL s.n m.1,1,iL s.x m.2.2⟩;exact⟨⟨by simp only;omega,by simp only;omega,by simp;omega,by simp;omega,by simp only;omega⟩,rfl,rfl⟩
  cases he
 cases he
 have:=VS s.t ⟨iL s.n m.1,0,iL s.c m.2.2⟩;exact⟨⟨by simp only;omega,by simp only;omega,by simp only;omega,by simp only;omega,by simp only;omega⟩,rfl,rfl⟩
def KS.aew{Z':LN} {kb:Nat} {U:V4} {s:CS}(h:KS Z w0 kb w V U s)(c:∀g∈Z',g∈Z\/w.heap.size<=g):KS Z' w0 kb w V U s:=by
 obtain⟨ca,cq,g⟩:=h.g;have av:∀x∈Z'++kb::owns (Gm V U s ca cq),x∈Z++kb::owns (Gm V U s ca cq)\/w.heap.size<=x:=by
  intro x a;rcases a0e.1 a with a|a
  .rcases c x a with b|b
   .exact .inl (a0e.2 (.inl b))
   exact .inr b
  exact .inl (a0e.2 (.inr a))
 exact⟨h.row,ca,cq,g.fr,g.lo,g.rw,g.ai.cO av,g.qi.cO av⟩
def RW.mts {A:LN} {v:Value} {M:List CM}(h:RW A 3 w v (LH M)):∃a cap,v=.slice a M.length cap/\∀(j:Nat) (c:j<M.length),∃g off,a=some (zB g off)/\g∉A/\g<w.heap.size/\zC w g (off+j*3) (.string (bs M[j].1))/\zC w g (off+j*3+1) (zI (M[j].2.1:Nat))/\zC w g (off+j*3+2) (.string (bs M[j].2.2)):=by obtain⟨a,cap,e,l,i⟩:=h;rw[show(LH M).length=M.length by simp[LH]]at e;refine⟨a,cap,e,λj c=>?_⟩;obtain⟨g,off,k,f,d,b⟩:=i j (by simpa[LH] using c);exact⟨g,off,k,f,d,b 0 _ (by simp[LH,Bb]),b 1 _ (by simp[LH,Bb]),b 2 _ (by simp[LH,Bb])⟩
def asO:(Tryz.prog.info? 125).map (λi=>(i.zero,i.size,i.bytes))=some (some zN,1,24):=by kernel_rfl
def aiw:(Tryz.prog.info? 132).map (λi=>(i.zero,i.size,i.bytes))=some (some (.agg #[zI 0,.bool false]),2,16):=by kernel_rfl
theorem aex{fd:Nat}{hb:Bool}(j:Nat)(u:Value)(a:[Value.int .i64 (fd:Nat),Value.bool hb][j]?=some u):(w.alloc (Obj.cells #[.int .i64 fd,.bool hb] 132)).cell? ⟨w.heap.size,j,none⟩=some u:=by simp only[World.cell?,bD w (Obj.cells #[.int .i64 fd,.bool hb] 132)];simpa using a
theorem an4(j:Nat)(u:Value)(a:[v][j]?=some u):(w.alloc (Obj.cells #[v] 125)).cell? ⟨w.heap.size,j,none⟩=some u:=by simp only[World.cell?,bD w (Obj.cells #[v] 125)];simpa using a
def RMQ(Z:LN)(re:LB->Nat)(bI:LB->gz)(w0:World)(kb:Nat)(V:V6)(U:V4)(s:CS)(M:List CM)(e:Ending)(w':World):Prop :=
 (∃n,nu re bI s [] M=.error n/\e=zR (zI n)/\aB [kb] w0 w') \/
 (∃l s1 V' U',nu re bI s [] M=.ok (l,s1)/\e=zR (zI 0)/\KS Z w0 kb w' V' U' { s1 with q:=s1.q++[l] }/\KV V V' U U')
def Ul(Z:LN)(re:LB->Nat)(bI:LB->gz)(w0:World)(kb:Nat)(w:World)(V:V6)(U:V4)(s:CS)(h:KS Z w0 kb w V U s)(hZ:∀g∈Z,g<w.heap.size)(kG:CSB s 500)(v:Value)(M:List CM)(hM:RW [kb] 3 w0 v (LH M))(hMl:M.length<=4)(hMk:∀m∈M,m.2.1<=3/\((m.2.1=2\/m.2.1=3)->RCP re bI m.2.2))(hq:s.q.length<=1000) :
 zF 36 #[zP kb,v] w (RMQ Z re bI w0 kb V U s M):=by
 obtain⟨am,cm,rfl,r⟩:=hM.mts;have R:=aj r;have HK:=aj h;have HMK:=aj hMk;have jU:=h.lo;have YG:=h.row.lt;have HOL:=aj h.Dx;have HZ:=aj hZ;have HCB:=aj kG;clear h hM r hMk hZ kG;go_enter Tryz.func36,Tryz.ntmps36
 go_wp2_with fail
 go_loopg [5,15] M.length (λk v5 v15 wr=>∃(j:Nat) (acc:List (Nat × Bool)) (sj:CS) (Vj:V6) (Uj:V4),j+k=M.length/\v15=zI j/\acc.length=j/\w.heap.size<=wr.heap.size/\OW 132 2 w.heap.size wr v5 (cc acc)/\Z_ (∀g,v5.ownBlock=some g->g∉Mf Vj Uj)/\Z_ (KS (v5.ownBlock.toList++Z) w0 kb wr Vj Uj sj)/\Z_ (KV V Vj U Uj)/\Z_ (nu re bI sj acc (M.drop j)=nu re bI s [] M)/\Z_ (CSB sj (500+j))/\Z_ (sj.q=s.q))
 case atStart =>
  refine⟨0,[],s,V,U,by omega,rfl,rfl,by simp,OW.empty _ _ _ _ (a0b _),?_,?_,KV.refl _ _,?_,HCB,?_⟩
  ·intro g hg hm
   have e:w.heap.size=g:=by simpa[Value.ownBlock] using hg
   have:=HOL.o g (by simp[hm]);omega
  ·exact(HK.o.aew (λg hg=>by
    rcases a0e.1 hg with h1|h1
    ·exact .inr (by have:g=w.heap.size:=by simpa[Value.ownBlock] using h1
                    omega)
    exact .inl h1)).aC ((aB.refl [] _).alloc _)
  ·show _=_;rfl
  show _=_;rfl
 case round =>
  obtain⟨j,acc,sj,Vj,Uj,lU,rfl,ja,hzr,hO,HNO,KJ,Gx,HP,CBJ,HQ⟩:=hrel;obtain⟨ac,Jc,he⟩:=hO.shape;rw[YY,ja]at he;subst he;have O:=aj hO;clear hO
  by_cases aL:j<M.length
  ·have gJ:decide ((j:Int)<(M.length:Int))=true:=a0g (by omega)
   obtain⟨gm,om,rfl,arf,ama,q0,q1,q2⟩:=R.o j aL;have t0:=(KJ.o.fr.cell (p:=(zB gm (om+j*3))) ama arf).trans q0;have t1:=(KJ.o.fr.cell (p:=(zB gm (om+j*3+1))) ama arf).trans q1;have t2:=(KJ.o.fr.cell (p:=(zB gm (om+j*3+2))) ama arf).trans q2;have ayW:=a0t ama KJ.o.fr.size;have Oh:=HMK.o M[j] (a0u aL);have hdp:M.drop j=M[j]::M.drop (j+1):=a0k aL;have HP1:Z_ (nu re bI sj acc (M[j]::M.drop (j+1))=nu re bI s [] M):=by show _=_;rw[<-hdp];exact HP
   generalize M[j]=m at *;obtain⟨nm,kd,vl⟩:=m;simp only at t0 t1 t2 Oh;have Ko:=CBJ.o;obtain⟨b1,b2,b3,b4,b5⟩:=Ko;have N1:=aj (aiu ((Value.ownBlock (.slice ac j Jc)).toList++Z) re bI w0 kb (wr.alloc (Obj.cells #[zT nm,zI kd,zT vl] 127)) Vj Uj sj (KJ.o.aC ((aB.refl [] _).alloc _)) (by
    intro g hg;rcases a0e.1 hg with h1|h1
    ·have:=(O.o.lt (by simpa using h1)).2
     simp;omega
    have:=HZ.o g h1;simp;omega) nm kd vl Oh.2 Oh.1 (by omega) (by omega) (by omega) (by omega))
   clear q0 q1 q2 HP hdp;go_wp2_with fail
   refine(N1.o).mono ?_;clear N1;rintro e w2 hT;rcases hT with⟨h1,h2,h3,t,rfl⟩|⟨t,s1,V2,U2,h1,rfl,hK2,aix,aug⟩
   ·have HE:Z_ (nu re bI s [] M=.error (re vl)):=by show _=_;rw[<-HP1.o,nu,h1]
    have bJ:((re vl:Int) != 0)=true:=by rw[a1M];simp only at h2;omega
    have Jl:((re vl:Int)==0)=false:=by rw[a0j];simp only at h2;omega
    have F3:=aj h3;clear h1 h2 h3;simp only[kV];go_wp2;go_ret;exact .inl ⟨_,HE,rfl,F3.o.alloc _⟩
   obtain⟨auh,CE,aui⟩:=aev CBJ.o h1;have Qi:Z_ (nu re bI { s1 with t:=pE s1.t t } (acc++[(C6 s1.t t,IV (nm,kd,vl))]) (M.drop (j+1))=nu re bI s [] M):=by show _=_;rw[<-HP1.o,nu,h1]
   have CB2:=aj auh;have HQ2:Z_ ({ s1 with t:=pE s1.t t }.q=s.q):=aui.trans HQ;have N2:=aj (Ui w0 kb (w2.alloc (Obj.cells (kV t) 113)) V2 U2 s1 (hK2.aC ((aB.refl [] _).alloc _)) t (by rw[CE];omega));have K2F:=aj aug;have aiy:=aj (Gx.o.trans aix);have hbm:(wr.alloc (Obj.cells #[zT nm,zI kd,zT vl] 127)).heap[wr.heap.size]?=some (.cells #[zT nm,zI kd,zT vl] 127 (0,0)):=bD _ _;have HBM:=aj hbm;have OL:=aj KJ.o.Dx;obtain⟨tn,tk,tx⟩:=t;simp only[kV]at N2 |-;clear h1 hK2 aix aug auh CE aui HP1 hbm Gx t0 t1 t2;go_wp2_with fail
   refine(N2.o).mono ?_;clear N2;rintro e w4 ⟨rfl,V4,hK4,hV4,auj⟩;have K24:KF kb (wr.alloc (Obj.cells #[zT nm,zI kd,zT vl] 127)) Vj Uj w4 V4 U2:=K2F.o.trans ((KF.of ((aB.refl [] w2).alloc _)).trans auj);have Aq:w4.heap[wr.heap.size]?=some (.cells #[zT nm,zI kd,zT vl] 127 (0,0)):=(K24.f.block wr.heap.size (by simp) (λhm=>by have:=OL.o _ hm;omega)).trans HBM;have m1:zC w4 wr.heap.size 1 (zI kd):=by simp[World.cell?,Aq]
   have O4:=aj ((O.o.aC (S:=[]) ((aB.refl [] _).alloc _) (by simp)).off K24.f (λg hg hm=>by
    rcases a0l.1 hm with rfl|hm
    ·have:=(O.o.lt hg).1;omega
    exact HNO.o g hg hm))
   have NO4:Z_ (∀g,Value.ownBlock (.slice ac j Jc)=some g->g∉Mf V4 U2):=λg hg hm=>by
    rcases K24.asz g hm with h1|h1
    ·exact HNO.o g hg h1
    have:=(O.o.lt hg).2;simp at h1;omega
   have K4:=aj hK4;have auk:Z_ (KV V V4 U U2):=⟨hV4.1.trans aiy.o.1,hV4.2.trans aiy.o.2.1,aiy.o.2.2.1,aiy.o.2.2.2⟩;have Yl:wr.heap.size<w4.heap.size:=(a0c.1 Aq).1;have mI:Z_ ((cc acc).length=j):=by show _=_;rw[YY];exact ja
   generalize hfd:C6 s1.t ⟨tn,tk,tx⟩=fd at *;clear hfd hK4 hV4 auj K24 Aq K2F HBM aiy HNO KJ;rcases(show(kd=0\/kd=2)\/(kd=1\/kd=3) by omega) with hk|hk
   ·rcases hk with rfl|rfl
    all_goals
     go_wp2_with (at_builtin;refine qD _ rfl _ _ 125 132 _ 2 16 aiw Tryz.underlying125 rfl (by omega) rfl w.heap.size (.slice ac j Jc) (cc acc) w4.heap.size [zI fd,.bool true] rfl (O4.o.aC (S:=[]) ((aB.refl [] _).alloc _) (by simp)) rfl rfl (aex) (by intro u hu;simp at hu;rcases hu with rfl|rfl<;>rfl) (by rw[mI.o];omega) (by rw[mI.o];omega) (by simp;omega) ?_;intro gg aU w5 wH aH bq arh;rw[mI.o]at wH |-;have O5:=aj wH;have G5:=aj aH;have YK:=aj bq;clear wH aH bq)
     have FA:aB [] w4 (w4.alloc (Obj.cells #[zI fd,.bool true] 132)):=(aB.refl [] _).alloc _;have FG:aB (Value.ownBlock (.slice ac j Jc)).toList (w4.alloc (Obj.cells #[zI fd,.bool true] 132)) w5:=(aB.refl _ _).grown G5.o (λr hr=>.inl (by simp[hr]));have K5:KS ([gg]++Z) w0 kb w5 V4 U2 { s1 with t:=pE s1.t ⟨tn,tk,tx⟩ }:=by
      have k1:=(K4.o.aC FA).aew (Z':=(Value.ownBlock (.slice ac j Jc)).toList++(gg::Z)) (λg hg=>by
       rcases a0e.1 hg with h1|h1
       ·exact .inl (a0e.2 (.inl h1))
       rcases a0l.1 h1 with rfl|h1
       ·rcases YK.o with h2|h2
        ·exact .inl (a0e.2 (.inl (by simp[h2])))
        exact .inr (by rw[h2];exact a0b _)
       exact .inl (a0e.2 (.inr h1)))
      have k2:=k1.off FG (λg hg=>a0e.2 (.inl hg)) (λg hg=>by have:=(O4.o.lt (by simpa using hg)).1;omega) (λg hg=>NO4.o g (by simpa using hg));exact k2.aew (λg hg=>.inl (a0e.2 (.inr (by simpa using hg))))
     have HK5:=aj K5;have NO5:Z_ (∀g,Value.ownBlock (zS gg (j+1) aU)=some g->g∉Mf V4 U2):=λg hg hm=>by
      have e:gg=g:=by simpa[Value.ownBlock] using hg
      subst e;rcases YK.o with h2|h2
      ·exact NO4.o _ h2 hm
      have h3:=K4.o.Dx gg (by simp[hm]);rw[h2]at h3;simp at h3;omega
     have O6:=O5.o;rw[show cc acc++[[Value.int .i64 (fd:Nat),Value.bool true]]=cc (acc++[(fd,true)]) from ahV acc (fd,true)]at O6;have HO6:=aj O6;have Fu:=FG.size;have Sa:=FA.size;clear FA FG K5 O6;go_roundg (gk-1)
     case measure=>omega
     case rel=>exact⟨j+1,acc++[(fd,true)],_,V4,U2,by omega,by go_num,by simp;omega,by omega,HO6,NO5,HK5,auk,Qi,CB2,HQ2⟩
   rcases hk with rfl|rfl
   all_goals
    go_wp2_with (at_builtin;refine qD _ rfl _ _ 125 132 _ 2 16 aiw Tryz.underlying125 rfl (by omega) rfl w.heap.size (.slice ac j Jc) (cc acc) w4.heap.size [zI fd,.bool false] rfl (O4.o.aC (S:=[]) ((aB.refl [] _).alloc _) (by simp)) rfl rfl (aex) (by intro u hu;simp at hu;rcases hu with rfl|rfl<;>rfl) (by rw[mI.o];omega) (by rw[mI.o];omega) (by simp;omega) ?_;intro gg aU w5 wH aH bq arh;rw[mI.o]at wH |-;have O5:=aj wH;have G5:=aj aH;have YK:=aj bq;clear wH aH bq)
    have FA:aB [] w4 (w4.alloc (Obj.cells #[zI fd,.bool false] 132)):=(aB.refl [] _).alloc _;have FG:aB (Value.ownBlock (.slice ac j Jc)).toList (w4.alloc (Obj.cells #[zI fd,.bool false] 132)) w5:=(aB.refl _ _).grown G5.o (λr hr=>.inl (by simp[hr]));have K5:KS ([gg]++Z) w0 kb w5 V4 U2 { s1 with t:=pE s1.t ⟨tn,tk,tx⟩ }:=by
     have k1:=(K4.o.aC FA).aew (Z':=(Value.ownBlock (.slice ac j Jc)).toList++(gg::Z)) (λg hg=>by
      rcases a0e.1 hg with h1|h1
      ·exact .inl (a0e.2 (.inl h1))
      rcases a0l.1 h1 with rfl|h1
      ·rcases YK.o with h2|h2
       ·exact .inl (a0e.2 (.inl (by simp[h2])))
       exact .inr (by rw[h2];exact a0b _)
      exact .inl (a0e.2 (.inr h1)))
     have k2:=k1.off FG (λg hg=>a0e.2 (.inl hg)) (λg hg=>by have:=(O4.o.lt (by simpa using hg)).1;omega) (λg hg=>NO4.o g (by simpa using hg));exact k2.aew (λg hg=>.inl (a0e.2 (.inr (by simpa using hg))))
    have HK5:=aj K5;have NO5:Z_ (∀g,Value.ownBlock (zS gg (j+1) aU)=some g->g∉Mf V4 U2):=λg hg hm=>by
     have e:gg=g:=by simpa[Value.ownBlock] using hg
     subst e;rcases YK.o with h2|h2
     ·exact NO4.o _ h2 hm
     have h3:=K4.o.Dx gg (by simp[hm]);rw[h2]at h3;simp at h3;omega
    have O6:=O5.o;rw[show cc acc++[[Value.int .i64 (fd:Nat),Value.bool false]]=cc (acc++[(fd,false)]) from ahV acc (fd,false)]at O6;have HO6:=aj O6;have Fu:=FG.size;have Sa:=FA.size;clear FA FG K5 O6;go_roundg (gk-1)
    case measure=>omega
    case rel=>exact⟨j+1,acc++[(fd,false)],_,V4,U2,by omega,by go_num,by simp;omega,by omega,HO6,NO5,HK5,auk,Qi,CB2,HQ2⟩
  have gJ:decide ((j:Int)<(M.length:Int))=false:=a0f (by omega);have hj:j=M.length:=by omega
  have HE:Z_ (nu re bI s [] M=.ok (acc,sj)):=by
   show _=_;rw[<-HP.o,hj,a2H]
   rfl
  have KZ:=KJ.o.aew (Z':=Z) (λg hg=>.inl (a0e.2 (.inr hg)));obtain⟨rt,ux,uq,ul⟩:=Uj;obtain⟨ca,cq,hg⟩:=KZ.g;have hOQ:OW 125 1 w0.heap.size wr uq (fZ cq):=hg.rw.asz 5 ⟨125,1,uq,fZ cq⟩ rfl;have hcq:cq.length<=1000:=by rw[hg.qi.1,HQ.o];exact hq
  obtain⟨aq,cqq,heq⟩:=hOQ.shape;rw[jA]at heq;subst heq;have c8:=KZ.row.c 8;simp at c8;have z8:=KZ.row.fz 8;have hkr:=KZ.row.lt;have HRQ:Z_ (dV aqu (Z++kb::owns (Gm Vj ⟨rt,ux,.slice aq cq.length cqq,ul⟩ sj ca cq)) wr [#[.slice ac j Jc]] [acc]):=by
   refine⟨rfl,λn cs x h1 h2=>?_⟩;rcases n with _|n
   ·simp at h1 h2
    subst h1 h2;refine⟨_,rfl,O.o.rw (λg iD hm=>?_)⟩;rcases a0e.1 hm with h3|h3
    ·have h4:=HZ.o g h3
     have h5:=(O.o.lt iD).1;omega
    rcases a0l.1 h3 with rfl|h3
    ·have h5:=(O.o.lt iD).1
     omega
    exact HNO.o g iD h3
   simp at h1
  have HG:=aj hg;have OQ:=aj hOQ;have HTQ:Z_ ((fZ cq).length=cq.length):=jA cq;have HKR:=aj KZ.row;have Dt:Z_ (∀r,Value.ownBlock (.slice aq cq.length cqq)=some r->r≠kb):=λr hr=>by have:=(OQ.o.lt hr).1;omega
  have ayX:=hg.fr.size;clear hg hOQ KZ KJ HP hj;go_wp2_with (at_builtin;refine qD _ rfl _ _ 91 125 _ 1 24 asO Tryz.underlying91 rfl (by omega) rfl w0.heap.size (.slice aq cq.length cqq) (fZ cq) wr.heap.size [.slice ac j Jc] rfl (OQ.o.aC (S:=[]) ((aB.refl [] _).alloc _) (by simp)) rfl rfl (an4) (by intro u hu;simp at hu;rcases hu with rfl;rfl) (by rw[HTQ.o];omega) (by rw[HTQ.o];omega) (by simp;omega) ?_;intro gg aU w4 bT aH bq AO;rw[HTQ.o]at bT |-;have O4:=aj bT;have G4:=aj aH;have YK:=aj bq;have R4:=aj ((HKR.o.aC (S:=[]) ((aB.refl [] _).alloc _) (by simp)).grown G4.o Dt);have k8:=R4.o.c 8;have y8:=R4.o.fz 8;simp at k8;clear bT aH bq)
  go_ret;have FA:aB [] wr (wr.alloc (Obj.cells #[.slice ac j Jc] 125)):=(aB.refl [] _).alloc _;have O6:=O4.o;rw[show fZ cq++[[Value.slice ac j Jc]]=fZ (cq++[#[.slice ac j Jc]]) from Gi cq #[.slice ac j Jc]]at O6;have g5:=(HG.o.aC FA (by simp)).grow 5 (r:=⟨125,1,.slice aq cq.length cqq,fZ cq⟩) (r':=⟨125,1,zS gg (cq.length+1) aU,fZ (cq++[#[.slice ac j Jc]])⟩) rfl G4.o O6 rfl YK;have r5:=(HRQ.o.aC FA (by simp)).turn G4.o (λr hr=>VP 5 (r:=⟨125,1,.slice aq cq.length cqq,fZ cq⟩) rfl hr) YK.o (VN 5 (r:=⟨125,1,.slice aq cq.length cqq,fZ cq⟩) (r':=⟨125,1,zS gg (cq.length+1) aU,fZ (cq++[#[.slice ac j Jc]])⟩) rfl rfl);have g6:KG Z w0 kb w4 (Gm Vj ⟨rt,ux,zS gg (cq.length+1) aU,ul⟩ { sj with q:=sj.q++[acc] } ca (cq++[#[.slice ac j Jc]])) ca sj.a (cq++[#[.slice ac j Jc]]) (sj.q++[acc]):=⟨g5.fr,g5.lo,g5.rw,g5.ai,g5.qi.snoc (r5.2 0 _ _ rfl rfl)⟩;have R6:=R4.o.set (V':=Vj) (U':=⟨rt,ux,zS gg (cq.length+1) aU,ul⟩) 8 (zS gg (cq.length+1) aU) rfl;exact .inr ⟨acc,sj,_,_,HE,rfl,⟨R6,ca,cq++[#[.slice ac j Jc]],g6.aC (S:=[kb]) ((aB.refl [kb] _).setCell (p:=(zB kb 8)) (.inl (by simp)) _) (by simp)⟩,⟨Gx.o.1,Gx.o.2.1,Gx.o.2.2.1,Gx.o.2.2.2⟩⟩
def akK {l:List bX} {N:List Int} {m:Nat}(b:m<l.length)(a:m<N.length)(out:List bX):nY l N (m+1) out=if N[m]<0 then nY l N m out else nY l N m (out++[y5 N l[m]]):=by rw[nY,a0a b];simp[List.getD,a]
theorem VT(c:bX)(j:Nat)(u:Value)(a:(jT c).toList[j]?=some u):((w.alloc o).alloc (Obj.cells (jT c) 78)).cell? ⟨w.heap.size+1,j,none⟩=some u:=by have h:=Nf w o (Obj.cells (jT c) 78);unfold World.cell?;simp only[h];simpa[jT] using a
def aiz(w:World)(A:LN)(l:List bX)(h:RW A 4 w v (uj l))(q:GL l)(first:Nat)(hf:first < l.length)(hl:l.length<=900000000) :
 zF 59 #[v,zI first] w λe w'=>∃v',e=zR v'/\aB [] w w'/\OW 78 4 w.heap.size w' v' (uj (mH l first)):=by
 have N1:=aby h q hf hl;obtain⟨a,_,rfl,R⟩:=h.ins;have Y:=q;have:=Eh l first
 have X:=IY q first;have HT:mH l first=nY _ _ (first + 1) []:=rfl;generalize numsOf l first=N at *
 delta zF;go_in
 go_wp2_with fail
 refine N1.mono ?_;rintro e G ⟨gn,rfl,F1,_,Dt⟩;have fM:=F1.size;have:=Dt.lt;go_wp2_with fail
 go_loopg [6,7] (first + 1) (λk v6 v7 wr=>∃(j:Nat) (x:Int) (out:List bX),j<=first + 1/\k=j/\v7=zI x/\x=(j:Int)-1/\out.length+j<=first + 1/\(nY _ _ j out=mH l first)/\aB [] G wr/\OW 78 4 G.heap.size wr v6 (uj out))
 case atStart=>exact⟨first + 1,_,[],a0b _,rfl,rfl,by omega,by simp,HT.symm,zJ,OW.empty _ _ _ _ (a0b _)⟩
 case round =>
  obtain⟨j,x,out,_,rfl,rfl,hx,hoj,o,F,O⟩:=hrel;obtain⟨V,co,he⟩:=O.shape;rw[CZ]at he;subst he;have hzr:=F.size;have i:(uj out).length=out.length:=CZ out;rcases gk with _|m
  .obtain rfl:x=-1:=by omega
   have C:=o;clear hx o;go_wp2;go_ret;refine⟨_,rfl,F1.trans F,?_⟩;rw[<-C];exact O.base fM
  obtain rfl:x=(m:Int):=by omega
  clear hx;have M:m<l.length:=by omega
  have y:=Dt.aC F (by simp);have n0:=y.cell m (by omega);have g:=akK (N:=N) M (by omega) out;obtain⟨H,ol,rfl,q,q0,q1,q2,q3⟩:=R m M;have J:=F1.trans F;have t0:=(J.cell (p:=(zB H (ol+m*4))) q (by simp)).trans q0;have t1:=(J.cell (p:=(zB H (ol+m*4+1))) q (by simp)).trans q1;have t2:=(J.cell (p:=(zB H (ol+m*4+2))) q (by simp)).trans q2;have T:=(J.cell (p:=(zB H (ol+m*4+3))) q (by simp)).trans q3;have ayZ:gn<wr.heap.size:=by omega
  have t:=Y m M;have L:=X m l[m] (a0a M);rw[show N.getD m 0=N[m] by simp[List.getD,show m<N.length by omega]]at L;clear q0 q1 q2 q3 J
  by_cases P:N[m]<0
  .rw[a0m P]at g
   have C:nY l N m out=mH l first:=g.symm.trans o;generalize N[m]=nm at *;clear g o t L t0 t1 t2 T;go_wp2;go_roundg m
   case measure=>omega
   case rel=>exact⟨m,_,out,by omega,rfl,rfl,by omega,by omega,C,F,O⟩
  rw[a0n P]at g;have B:=L (by omega);generalize UA:N[m]=nm at *;have s:∃c,l[m]=c:=⟨_,rfl⟩;obtain⟨c,s⟩:=s;rw[s]at t0 t1 t2 T g t B;obtain⟨op,b,f,d⟩:=c;simp only at t0 t1 t2 T t B;clear L s UA;rcases t with rfl|⟨rfl,ha⟩|⟨rfl,ha,hb⟩
  focus
   have C:nY l N m (out++[⟨0,b,f,d⟩])=mH l first:=g.symm.trans o;clear g o B;go_wp2_with (at_builtin;refine qD _ rfl _ _ 51 78 _ 4 32 TS Tryz.underlying51 rfl (by omega) rfl G.heap.size (.slice V out.length co) (uj out) (wr.heap.size+1) (jT ⟨0,b,f,d⟩).toList rfl (O.aC (S:=[]) (zG.alloc _) (by simp)) rfl rfl (VT ⟨0,b,f,d⟩) (by intro u z;simp[jT]at z;rcases z with rfl|rfl|rfl|rfl<;>rfl) (by rw[i];omega) (by rw[i];omega) (by simp;omega) ?_;intro gg aU Z E G4 I AO;rw[i,Nb]at E;rw[i];clear I)
  rotate_left
  focus
   obtain⟨n,D⟩:=a2L (B.1 (by omega));have n1:=y.cell f (by omega);rw[show N[f]'(by omega)=(n:Int) by rw[<-D];simp[List.getD,show f<N.length by omega]]at n1;have C:nY l N m (out++[⟨1,b,n,d⟩])=mH l first:=by
    have e:y5 N ⟨1,b,f,d⟩=⟨1,b,n,d⟩:=by simp only[y5,D];simp
    rw[e]at g;exact g.symm.trans o
   clear g o B D;go_wp2_with (at_builtin;refine qD _ rfl _ _ 51 78 _ 4 32 TS Tryz.underlying51 rfl (by omega) rfl G.heap.size (.slice V out.length co) (uj out) (wr.heap.size+1) (jT ⟨1,b,n,d⟩).toList rfl (O.aC (S:=[]) (zG.alloc _) (by simp)) rfl rfl (VT ⟨1,b,n,d⟩) (by intro u z;simp[jT]at z;rcases z with rfl|rfl|rfl|rfl<;>rfl) (by rw[i];omega) (by rw[i];omega) (by simp;omega) ?_;intro gg aU Z E G4 I AO;rw[i,Nb]at E;rw[i];clear I)
  rotate_left
  obtain⟨n,D⟩:=a2L (B.1 (by omega));obtain⟨nb,W⟩:=a2L (B.2 rfl);have n1:=y.cell f (by omega);rw[show N[f]'(by omega)=(n:Int) by rw[<-D];simp[List.getD,show f<N.length by omega]]at n1;have n2:=y.cell d (by omega);rw[show N[d]'(by omega)=(nb:Int) by rw[<-W];simp[List.getD,show d<N.length by omega]]at n2;have C:nY l N m (out++[⟨2,b,n,nb⟩])=mH l first:=by
   have e:y5 N ⟨2,b,f,d⟩=⟨2,b,n,nb⟩:=by simp only[y5,D,W];simp
   rw[e]at g;exact g.symm.trans o
  clear g o B D W;go_wp2_with (at_builtin;refine qD _ rfl _ _ 51 78 _ 4 32 TS Tryz.underlying51 rfl (by omega) rfl G.heap.size (.slice V out.length co) (uj out) (wr.heap.size+1) (jT ⟨2,b,n,nb⟩).toList rfl (O.aC (S:=[]) (zG.alloc _) (by simp)) rfl rfl (VT ⟨2,b,n,nb⟩) (by intro u z;simp[jT]at z;rcases z with rfl|rfl|rfl|rfl<;>rfl) (by rw[i];omega) (by rw[i];omega) (by simp;omega) ?_;intro gg aU Z E G4 I AO;rw[i,Nb]at E;rw[i];clear I)
  all_goals
   go_roundg m
   case measure=>omega
   case rel=>exact⟨m,_,_,by omega,rfl,rfl,by omega,by simp;omega,C,((F.alloc _).alloc _).grown G4 (λr hr=>.inr (O.lt hr).1),E⟩
def asP:GL [⟨0,0,0,0⟩]:=by intro i a;simp at a;subst a;exact .inl rfl
def aiA {C:List CR} {q:List (List (Nat × Bool))}:GL (ig C q 6 0 0 [⟨0,0,0,0⟩]).2/\(ig C q 6 0 0 [⟨0,0,0,0⟩]).1<(ig C q 6 0 0 [⟨0,0,0,0⟩]).2.length :=
 let h:=C9 C q 6 0 0 [⟨0,0,0,0⟩] asP (by simp)
 ⟨h.1,h.2.1⟩
def Um(w0:World)(kb:Nat)(w:World)(V:V6){rt:Value}(i g:Value)(C:List CR)(q:List (List (Nat × Bool)))(a:LC w0 kb rt g C q)(h:LY w0 kb w V ⟨rt,i,g,zN⟩ [])(l:0<C.length) :
 zF 39 #[zP kb] w λe w'=>∃v B,e=zR v/\KR w' kb V ⟨rt,i,g,B⟩/\aB [kb] w0 w'/\aB [kb] w w'/\OW 78 4 w.heap.size w' v (uj (C8 C q)):=by
 obtain⟨H,N,k,_⟩:=a.zV.co;subst k;have E:=h.row.c 6;simp at E;have O:=a.cl;have S:((C.length:Int)==0)=false:=by rw[a0j];omega
 have G:decide ((C.length:Int)=0)=false:=a0f (by omega);have m:=TW w0 kb w V _ [] h ⟨0,0,0,0⟩ (by simp);simp only[jT]at m;have I:C8 C q=mH (ig C q 6 0 0 [⟨0,0,0,0⟩]).2 (ig C q 6 0 0 [⟨0,0,0,0⟩]).1:=by unfold C8;rw[a0n (by simp;intro e;rw[e]at l;simp at l)]
 have x:=aiA (C:=C) (q:=q);have o:=Gp a.cl a.qb 6 0 0 [⟨0,0,0,0⟩];clear h;delta zF;go_in
 go_wp2_with fail
 refine m.mono ?_;clear m;rintro e z ⟨rfl,A,b,n⟩;have u:=O0 w0 kb V _ i g C q a 6 0 0 z A [⟨0,0,0,0⟩] b l (by omega) (by simp[bnd]);clear b;generalize ig C q 6 0 0 [⟨0,0,0,0⟩]=X at *;obtain⟨first,l2⟩:=X;go_wp2_with fail
 refine u.mono ?_;clear u;rintro e p ⟨rfl,M,d,r⟩;obtain⟨R,c2,he⟩:=d.asz.shape;rw[CZ]at he;simp only at he;subst he;have F:=o;simp[bnd]at F;have t:=aiz p [] l2 (d.asz.rw (by simp)) x.1 first x.2 (by omega);have D:=d.row.c 9;simp at D;have y:aB [kb] w p:=(n.trans r).f;clear r;go_wp2_with fail
 refine t.mono ?_;clear t;rintro e J ⟨L,rfl,F3,s⟩;obtain⟨P,c3,j⟩:=s.shape;subst j;go_wp2;go_ret;rw[I];exact⟨_,_,rfl,d.row.aC F3 (by simp),d.fr.over F3 (by simp),y.over F3 (by simp),s.base y.size⟩
theorem axm{q j:Nat}:((zB g q):Addr).add j=(zB g (q+j)):=by unfold Addr.add;split<;>simp_all
def alloc_at{k:Nat}(h:w.heap.size=k):(w.alloc o).heap[k]?=some o:=by subst h;exact bD w o
def avo(x:kN)(w:World)(e:Ending)(w':World):Prop :=
 ∃g,e=zR (.agg (aO x (zS g x.bl.length x.bl.length)))/\aB [] w w'/\w.heap.size<=g/\g<w'.heap.size/\RW [] 1 w' (zS g x.bl.length x.bl.length) (sc x.bl)
def akL(W:World)(g:Nat)(bl:List LB)(p:Option Addr)(b:Nat)(Z:List Value)(m:Z.length=bl.length)(c:W.heap[g]?=some (.cells Z.toArray 9 (0,0)))(t:RW [] 1 W (.slice p bl.length b) (sc bl)) :
 ∃f,(Builtin.copy_ #[48,48] 3 #[zS g bl.length bl.length,.slice p bl.length b]).run Tryz.prog W=.ok (zI bl.length) f/\f.heap[g]?=some (.cells (bl.map λs=>Value.string (bs s)).toArray 9 (0,0))/\Below g W f:=by
 by_cases n:bl=[]
 .subst n
  obtain rfl:Z=[]:=a0S m;exact⟨W,run_copy_none (P:=Tryz.prog) W 48 48 3 9 _ _ 0 0 0 b Tryz.underlying48 VC rfl,c,Below.refl _ _⟩
 have A:0<bl.length:=a1O.2 n;obtain⟨D,C,e,k⟩:=t.str;simp only[Value.slice.injEq,a1W]at e;obtain⟨rfl,rfl⟩:=e;obtain⟨x,q,rfl,_,_⟩:=k 0 A;have l:(bl.map λs=>Value.string (bs s)).length=bl.length:=by simp
 have h:=run_copy_row Tryz.prog W 48 48 3 9 g 0 bl.length bl.length (zB x q) bl.length b Z.toArray 9 (bl.map λs=>Value.string (bs s)) Tryz.underlying48 VC c (by rw[l];exact(Nat.min_self _).symm) (by
  intro j v a;rw[a0Q,Option.map_eq_some_iff]at a;obtain⟨y,r,rfl⟩:=a;obtain⟨u,rfl⟩:=a0d.1 r;obtain⟨B,i,o,w,d⟩:=k j u;simp only[Option.some.injEq,Addr.mk.injEq,a2u]at o;obtain⟨rfl,rfl⟩:=o;rw[axm];exact d) (by simp[m]) (by
  intro v a;obtain⟨y,_,rfl⟩:=a0q.1 a
  rfl)
 rw[l]at h;refine⟨_,h,?_,below_setRow (Below.refl _ _) (a0b _) _⟩;rw[setRow_heap W g _ _ 9 _ c];have z:Z.drop bl.length=[]:=a0i (by omega);simp[z]
def Pe(x:kN)(c:CR)(y:Option Addr)(ca:Nat)(ek iJ:Value)(w:World)(U:RW [] 1 w (.slice y x.bl.length ca) (sc x.bl))(hb:RW [] 1 w ek (sc c.jM))(JI:∃ai ci,iJ=.slice ai c.ifs.length ci)(hx:x.bl.length<=1000)(hc:c.jM.length<=1000)(N:-1<=c.wt/\-1<=c.ev/\-1<=c.rp) :
 zF 56 #[.agg (aO x (.slice y x.bl.length ca)),.agg (rcl c ek iJ)] w (avo (ny x c) w):=by
 obtain⟨ai,ci,rfl⟩:=JI;obtain⟨F,D,rfl,_⟩:=hb.str;have J:∀W,zF 74 #[zI c.wt,zI x.wt] W λe w'=>e=zR (zI (uk c.wt x.wt:Nat))/\W=w':=λW=>LM W c.wt x.wt N.1
 have I:∀W,zF 74 #[zI c.ev,zI x.ev] W λe w'=>e=zR (zI (uk c.ev x.ev:Nat))/\W=w':=λW=>LM _ _ _ N.2.1
 have H:∀W,zF 74 #[zI c.rp,zI x.rp] W λe w'=>e=zR (zI (uk c.rp x.rp:Nat))/\W=w':=λW=>LM _ _ _ N.2.2
 obtain⟨i,L⟩:∃i,i=if c.rc == [45] then x.rc else c.rc:=⟨_,rfl⟩
 obtain⟨bl,l⟩:∃bl,bl=if c.tb then c.jM else x.bl:=⟨_,rfl⟩
 have HH:ny x c=⟨i,bl,uk c.wt x.wt,uk c.ev x.ev,uk c.rp x.rp⟩:=by rw[L,l];rfl
 obtain⟨G,E,r,A⟩:∃G E,(if c.tb then Value.slice F c.jM.length D else .slice y x.bl.length ca)=.slice G bl.length E/\RW [] 1 w (.slice G bl.length E) (sc bl):=by
  cases C:c.tb
  .rw[C]at l
   simp[a0A,a0I]at l;subst l;exact⟨y,ca,rfl,U⟩
  rw[C]at l;simp[a0G]at l;subst l;exact⟨F,D,rfl,hb⟩
 have hlen:bl.length<=1000:=by rw[l];split<;>omega
 obtain⟨s,R⟩:∃s:List Value,s=(madeCells #[.string ByteArray.empty] bl.length).toList:=⟨_,rfl⟩;have S:s.length=bl.length:=by rw[R,a3o];exact size_madeCells _ _
 have Oh:∀u:World,(Instr.makeSlice 48 (zI bl.length) (zI bl.length)).run Tryz.prog u=.ok (zS u.heap.size bl.length bl.length) (u.alloc (.cells s.toArray 9)):=λu=>by obtain⟨X,Y,gT,fM,Z⟩:=kg uY;have:=run_make u 48 9 X (.string ByteArray.empty) Tryz.underlying48 Y gT .i64 .i64 (bl.length:Int) (bl.length:Int) (by omega) (a3n _) (by rw[Z];omega) (by omega);rw[fM,a2A,a1H]at this;rw[this,R];rfl
 have T:aB [] w (((((w.alloc (Obj.cells #[zT x.rc,.slice y x.bl.length ca,zI x.wt,zI x.ev,zI x.rp] 63)).alloc (Obj.cells #[zI c.d,zT c.rc,.bool c.tb,.slice F c.jM.length D,zI c.wt,zI c.ev,zI c.rp,.slice ai c.ifs.length ci,.bool c.co] 96)).alloc (Obj.cells #[.string { data:=#[] },zN,zI 0,zI 0,zI 0] 63)).alloc (Obj.cells #[zT i,zS (w.heap.size+1+1+1+1) bl.length bl.length,zI 0,zI 0,zI 0] 63)).alloc (Obj.cells s.toArray 9)):=(((((aB.refl [] w).alloc _).alloc _).alloc _).alloc _).alloc _;obtain⟨b,O,B,z⟩:=akL (((((w.alloc (Obj.cells #[zT x.rc,.slice y x.bl.length ca,zI x.wt,zI x.ev,zI x.rp] 63)).alloc (Obj.cells #[zI c.d,zT c.rc,.bool c.tb,.slice F c.jM.length D,zI c.wt,zI c.ev,zI c.rp,.slice ai c.ifs.length ci,.bool c.co] 96)).alloc (Obj.cells #[.string { data:=#[] },zN,zI 0,zI 0,zI 0] 63)).alloc (Obj.cells #[zT i,zS (w.heap.size+1+1+1+1) bl.length bl.length,zI 0,zI 0,zI 0] 63)).alloc (Obj.cells s.toArray 9)) (w.heap.size+1+1+1+1) bl G E s S (alloc_at (by simp)) (A.aC T (by simp));have F4:=T.TU z (by omega);have C0:=(z.block w.heap.size (by omega)).trans (((((zG.alloc _).alloc _).alloc _).block w.heap.size (by simp) (by simp)).trans (bD _ _));have M:=(z.block (w.heap.size+1) (by omega)).trans ((((zG.alloc _).alloc _).block (w.heap.size+1) (by simp) (by simp)).trans (alloc_at (by simp)));have f:=(z.block (w.heap.size+1+1) (by omega)).trans (((zG.alloc _).block (w.heap.size+1+1) (by simp) (by simp)).trans (alloc_at (by simp)));have t:=(z.block (w.heap.size+1+1+1) (by omega)).trans ((zG.block (w.heap.size+1+1+1) (by simp) (by simp)).trans (alloc_at (by simp)));have:zC b w.heap.size 2 (zI x.wt):=by simp[World.cell?,C0]
 have:zC b w.heap.size 3 (zI x.ev):=by simp[World.cell?,C0]
 have:zC b w.heap.size 4 (zI x.rp):=by simp[World.cell?,C0]
 have:zC b (w.heap.size+1) 4 (zI c.wt):=by simp[World.cell?,M]
 have:zC b (w.heap.size+1) 5 (zI c.ev):=by simp[World.cell?,M]
 have:zC b (w.heap.size+1) 6 (zI c.rp):=by simp[World.cell?,M]
 have:zC b (w.heap.size+1+1) 0 (.string { data:=#[] }):=by simp[World.cell?,f]
 have:zC b (w.heap.size+1+1) 1 zN:=by simp[World.cell?,f]
 have:zC b (w.heap.size+1+1) 2 (zI 0):=by simp[World.cell?,f]
 have:zC b (w.heap.size+1+1) 3 (zI 0):=by simp[World.cell?,f]
 have:zC b (w.heap.size+1+1) 4 (zI 0):=by simp[World.cell?,f]
 have:∀o,b.frozen? (zB (w.heap.size+1+1) o)=false:=λo=>by simp[World.frozen?,f]
 have:zC b (w.heap.size+1+1+1) 0 (zT i):=by simp[World.cell?,t]
 have:zC b (w.heap.size+1+1+1) 1 (zS (w.heap.size+1+1+1+1) bl.length bl.length):=by simp[World.cell?,t]
 have:zC b (w.heap.size+1+1+1) 2 (zI 0):=by simp[World.cell?,t]
 have:zC b (w.heap.size+1+1+1) 3 (zI 0):=by simp[World.cell?,t]
 have:zC b (w.heap.size+1+1+1) 4 (zI 0):=by simp[World.cell?,t]
 have:∀o,b.frozen? (zB (w.heap.size+1+1+1) o)=false:=λo=>by simp[World.frozen?,t]
 have n:=(a0c.1 B).1;have:=aT;have avW:=aT [45];clear C0 M t z T U hb A R;simp only[aO,rcl];delta zF;go_in
 cases C:c.tb<;>cases V:(c.rc == [45])
 all_goals
  rw[C]at l r O;rw[V]at L;simp only[a0A,a0I,a0G,Value.slice.injEq]at l r L;subst l L;obtain⟨rfl,_,rfl⟩:=r
 focus
  go_wp2_with fail
  refine(J _).mono ?_;rintro e w' ⟨rfl,rfl⟩;go_wp2_with fail
  refine(I _).mono ?_;rintro e w' ⟨rfl,rfl⟩;go_wp2_with fail
  refine(H _).mono ?_;rintro e w' ⟨rfl,rfl⟩;go_wp2_with fail
  have a:∀(u:World) (o:Nat) (v:Value),aB [w.heap.size+1+1+1] u (u.setCell (zB (w.heap.size+1+1+1) o) v):=λu o v=>zK.setCell (.inl (by simp)) _
  have q:=λ(u:World) (o:Nat) (v:Value)=>(a u o v).size
  refine bodyPost_ret (qE rfl _ _ rfl (Gl (yZ _ _ _ _ _ (((a _ _ _).block (w.heap.size+1+1) (by have:=q;simp;omega) (by simp)).trans (((a _ _ _).block (w.heap.size+1+1) (by simp;omega) (by simp)).trans (((a _ _ _).block (w.heap.size+1+1) (by omega) (by simp)).trans f)))) rfl)) rfl ?_;have R4:RW [w.heap.size+1+1,w.heap.size+1+1+1] 1 b (zS (w.heap.size+1+1+1+1) x.bl.length x.bl.length) (sc x.bl):=by
   refine⟨_,x.bl.length,by rw[iC],by rw[iC];exact a0b _,λj m=>⟨w.heap.size+1+1+1+1,0,rfl,by simp<;>omega,n,λk u h=>?_⟩⟩;rw[iC]at m;have g:k=0:=by
    cases k with
    | zero=>rfl
    | succ k=>simp[sc]at h
   subst g;simp[sc]at h;subst h;simp[World.cell?,B,m]
 rotate_left
 focus
  go_wp2_with fail
  refine(J _).mono ?_;rintro e w' ⟨rfl,rfl⟩;go_wp2_with fail
  refine(I _).mono ?_;rintro e w' ⟨rfl,rfl⟩;go_wp2_with fail
  refine(H _).mono ?_;rintro e w' ⟨rfl,rfl⟩;go_wp2_with fail
  have a:∀(u:World) (o:Nat) (v:Value),aB [w.heap.size+1+1+1] u (u.setCell (zB (w.heap.size+1+1+1) o) v):=λu o v=>zK.setCell (.inl (by simp)) _
  have q:=λ(u:World) (o:Nat) (v:Value)=>(a u o v).size
  refine bodyPost_ret (qE rfl _ _ rfl (Gl (yZ _ _ _ _ _ (((a _ _ _).block (w.heap.size+1+1) (by have:=q;simp;omega) (by simp)).trans (((a _ _ _).block (w.heap.size+1+1) (by simp;omega) (by simp)).trans (((a _ _ _).block (w.heap.size+1+1) (by omega) (by simp)).trans f)))) rfl)) rfl ?_;have R4:RW [w.heap.size+1+1,w.heap.size+1+1+1] 1 b (zS (w.heap.size+1+1+1+1) x.bl.length x.bl.length) (sc x.bl):=by
   refine⟨_,x.bl.length,by rw[iC],by rw[iC];exact a0b _,λj m=>⟨w.heap.size+1+1+1+1,0,rfl,by simp<;>omega,n,λk u h=>?_⟩⟩;rw[iC]at m;have g:k=0:=by
    cases k with
    | zero=>rfl
    | succ k=>simp[sc]at h
   subst g;simp[sc]at h;subst h;simp[World.cell?,B,m]
 rotate_left
 focus
  go_wp2_with fail
  refine(J _).mono ?_;rintro e w' ⟨rfl,rfl⟩;go_wp2_with fail
  refine(I _).mono ?_;rintro e w' ⟨rfl,rfl⟩;go_wp2_with fail
  refine(H _).mono ?_;rintro e w' ⟨rfl,rfl⟩;go_wp2_with fail
  have a:∀(u:World) (o:Nat) (v:Value),aB [w.heap.size+1+1+1] u (u.setCell (zB (w.heap.size+1+1+1) o) v):=λu o v=>zK.setCell (.inl (by simp)) _
  have q:=λ(u:World) (o:Nat) (v:Value)=>(a u o v).size
  refine bodyPost_ret (qE rfl _ _ rfl (Gl (yZ _ _ _ _ _ (((a _ _ _).block (w.heap.size+1+1) (by have:=q;simp;omega) (by simp)).trans (((a _ _ _).block (w.heap.size+1+1) (by simp;omega) (by simp)).trans (((a _ _ _).block (w.heap.size+1+1) (by omega) (by simp)).trans f)))) rfl)) rfl ?_;have R4:RW [w.heap.size+1+1,w.heap.size+1+1+1] 1 b (zS (w.heap.size+1+1+1+1) c.jM.length c.jM.length) (sc c.jM):=by
   refine⟨_,c.jM.length,by rw[iC],by rw[iC];exact a0b _,λj m=>⟨w.heap.size+1+1+1+1,0,rfl,by simp<;>omega,n,λk u h=>?_⟩⟩;rw[iC]at m;have g:k=0:=by
    cases k with
    | zero=>rfl
    | succ k=>simp[sc]at h
   subst g;simp[sc]at h;subst h;simp[World.cell?,B,m]
 rotate_left
 go_wp2_with fail
 refine(J _).mono ?_;rintro e w' ⟨rfl,rfl⟩;go_wp2_with fail
 refine(I _).mono ?_;rintro e w' ⟨rfl,rfl⟩;go_wp2_with fail
 refine(H _).mono ?_;rintro e _ ⟨rfl,rfl⟩;go_wp2_with fail
 have a:∀(u:World) (o:Nat) (v:Value),aB [w.heap.size+1+1+1] u (u.setCell (zB (w.heap.size+1+1+1) o) v):=λu o v=>zK.setCell (.inl (by simp)) _
 refine bodyPost_ret (qE rfl _ _ rfl (Gl (yZ _ _ _ _ _ (((a _ _ _).block (w.heap.size+1+1) (by have:=(λ(u:World) (o:Nat) (v:Value)=>(a u o v).size);simp;omega) (by simp)).trans (((a _ _ _).block (w.heap.size+1+1) (by simp;omega) (by simp)).trans (((a _ _ _).block (w.heap.size+1+1) (by omega) (by simp)).trans f)))) rfl)) rfl ?_;have R4:RW [w.heap.size+1+1,w.heap.size+1+1+1] 1 b (zS (w.heap.size+1+1+1+1) c.jM.length c.jM.length) (sc c.jM):=by
  refine⟨_,c.jM.length,by rw[iC],by rw[iC];exact a0b _,λj m=>⟨w.heap.size+1+1+1+1,0,rfl,by simp<;>omega,n,λk u h=>?_⟩⟩;rw[iC]at m;have g:k=0:=by
   cases k with
   | zero=>rfl
   | succ k=>simp[sc]at h
  subst g;simp[sc]at h;subst h;simp[World.cell?,B,m]
 all_goals
  rw[HH];refine⟨w.heap.size+1+1+1+1,rfl,?_,by omega,?_,?_⟩
  .exact(((F4.over (a _ _ _) (by simp;omega)).over (a _ _ _) (by simp;omega)).over (a _ _ _) (by simp;omega)).over (l8 _ _ _ _ _ _ _) (by simp;omega)
  .exact a0t n (a0h (a0h (a0h (a _ _ _).size (a _ _ _).size) (a _ _ _).size) (l8 _ _ _ _ _ _ _).size)
  exact((((R4.aC (a _ _ _) (by simp)).aC (a _ _ _) (by simp)).aC (a _ _ _) (by simp)).aC (l8 _ _ _ _ _ _ _) (by simp)).cO (by simp)
end
section
variable {A F nx:LN} {w:World} {v:Value} {t:LB} {L:List LB} {n nr nt:Nat} {l:List bX} {X:NF} {St:List LN} {e:RX}
theorem ry(C:List CR):∀n,(fD C n).length=n
 | 0=>rfl
 | n+1=>by rw[fD];simp[ry C n]
def an5(C:List CR)(j:Nat)(a:j<C.length):fD C (j+1)=fD C j++[ny (uK C (fD C j) j) C[j]]:=by rw[fD,a0a a]
def VU {C:List CR}(hb:∀c∈C,c.jM.length<=4):∀n,∀x∈fD C n,x.bl.length<=4
 | 0,x,h=>by simp[fD]at h
 | n+1,x,h=>by
   rw[fD,a0e,a0w]at h;rcases h with h|rfl
   .exact VU hb n x h
   split
   .rename_i c b
    have e:=hb c (a0B b);have:(uK C (fD C n) n).bl.length<=4:=by
     unfold uK
     split
     .rename_i p _
      by_cases a:p<(fD C n).length
      .rw[a0x,a0a a]
       exact VU hb n _ (a0u a)
      rw[a0x,a1Z (by omega)];simp[lQ]
     simp[lQ]
    simp[ny]
    split<;>assumption
   simp[lQ]
theorem En {C:List CR} {j p:Nat}(h:par C j=some p):p<j:=by
 unfold par at h
 split at h
 .exact(Un h)
 cases h
 where
 Un {C:List CR} {d:Nat}:∀{i p:Nat},nQ C d i=some p->p<i
 | 0,p,h=>by simp[nQ]at h
 | j+1,p,h=>by
   rw[nQ]at h
   split at h
   .cases h;omega
   have:=Un h;omega
theorem aez{e:LB}{a:List LB}{d c b g:Nat}(j:Nat)(u:Value)(f:(aO ⟨e,a,d,c,b⟩ (.slice (some ⟨g,0,none⟩) a.length a.length)).toList[j]?=some u):(w.alloc (Obj.cells #[.string (bs e),.slice (some ⟨g,0,none⟩) a.length a.length,.int .i64 d,.int .i64 c,.int .i64 b] 63)).cell? ⟨w.heap.size,j,none⟩=some u:=by have:=bD w (Obj.cells #[.string (bs e),.slice (some ⟨g,0,none⟩) a.length a.length,.int .i64 d,.int .i64 c,.int .i64 b] 63);simp only[World.cell?,this];simpa[aO] using f
def an6(A:LN)(w:World)(hA:∀g∈A,g<w.heap.size)(v:Value)(C:List CR)(h:QH [] w v C)(hC:C.length<=1000)(I:∀c∈C,c.d<=1048576/\c.jM.length<=4/\-1<=c.wt/\-1<=c.ev/\-1<=c.rp) :
 zF 38 #[v] w λe w'=>∃v' m,e=zR v'/\aB [] w w'/\OW 63 5 w.heap.size w' v' (fZ m)/\dV LD (A++v'.ownBlock.toList) w' m (fD C C.length):=by
 have HA:=aj hA;have Og:=aj h;obtain⟨_,q1,q2⟩:=h;obtain⟨a,cap,rfl,r⟩:=sP q1 q2;have HG:=aj I;delta zF;go_in
 go_wp2_with fail
 go_loopg [3,11] C.length (λk v3 v11 wr=>∃(j:Nat) (m:List (Array Value)),j+k=C.length/\v11=zI j/\m.length=j/\aB [] w wr/\OW 63 5 w.heap.size wr v3 (fZ m)/\Z_ (dV LD (A++v3.ownBlock.toList) wr m (fD C j)))
 case atStart=>exact⟨0,[],by omega,rfl,rfl,(aB.refl _ _).alloc _,OW.empty _ _ _ _ (a0b _),dV.nil _ _ _⟩
 case round =>
  obtain⟨j,m,_,rfl,Lt,hF,hO,HI⟩:=hrel;obtain⟨ao,co,he⟩:=hO.shape;rw[jA,Lt]at he;subst he;have F:=aj hF;have O:=aj hO;have:=hF.size;have V:Z_ ((fZ m).length=j):=by show _=_;rw[jA];exact Lt
  by_cases aL:j<C.length
  .have:decide ((j:Int)<(C.length:Int))=true:=a0g (by omega)
   obtain⟨f,or,_,rfl,G,_,⟨_,_,rfl,xL,JI⟩,k1⟩:=(aj r).o j aL;obtain⟨ay,cy,rfl,_⟩:=xL.str;obtain⟨ai,ci,Io,_⟩:=JI;rw[show(LH C[j].ifs).length=C[j].ifs.length by simp[LH]]at Io;subst Io;have:zC wr f (or+j*9) (zI (C[j].d:Nat)):=hF.at (p:=(zB f (or+j*9+0))) G (k1 0 _ rfl);have:zC wr f (or+j*9+1) (.string (bs C[j].rc)):=hF.at (p:=(zB f (or+j*9+1))) G (k1 1 _ rfl);have:zC wr f (or+j*9+2) (.bool C[j].tb):=hF.at (p:=(zB f (or+j*9+2))) G (k1 2 _ rfl);have:zC wr f (or+j*9+3) (.slice ay C[j].jM.length cy):=hF.at (p:=(zB f (or+j*9+3))) G (k1 3 _ rfl);have:zC wr f (or+j*9+4) (zI C[j].wt):=hF.at (p:=(zB f (or+j*9+4))) G (k1 4 _ rfl);have:zC wr f (or+j*9+5) (zI C[j].ev):=hF.at (p:=(zB f (or+j*9+5))) G (k1 5 _ rfl);have:zC wr f (or+j*9+6) (zI C[j].rp):=hF.at (p:=(zB f (or+j*9+6))) G (k1 6 _ rfl);have:zC wr f (or+j*9+7) (.slice ai C[j].ifs.length ci):=hF.at (p:=(zB f (or+j*9+7))) G (k1 7 _ rfl);have:zC wr f (or+j*9+8) (.bool C[j].co):=hF.at (p:=(zB f (or+j*9+8))) G (k1 8 _ rfl);have Z:Z_ (∀W,aB [] w W->zF 55 #[.slice (some (zB f or)) C.length cap,zI j] W λe w'=>e=zR (zI (Gn C j))/\∃q,w'=W.drewN q):=λW Y=>OT W [] C (Og.o.aC Y (by simp)) (by omega) (λc l=>(HG.o c l).1) j aL
   have Kt:=HG.o C[j] (a0u aL);have Qi:=aj (an5 C j aL);have HBY:=aj xL;have:f<wr.heap.size:=by omega
   cases N:par C j with
   | none =>
     have Yb:Gn C j=-1:=by unfold Gn;rw[N]
     have uz:uK C (fD C j) j=lQ:=by unfold uK;rw[N]
     rw[Yb]at Z;rw[uz]at Qi;have U:Z_ (∀W,aB [] w W->zF 56 #[.agg #[.string { data:=#[] },zN,zI 30,zI 300,zI 14400],.agg #[zI (C[j].d:Nat),.string (bs C[j].rc),.bool C[j].tb,.slice ay C[j].jM.length cy,zI C[j].wt,zI C[j].ev,zI C[j].rp,.slice ai C[j].ifs.length ci,.bool C[j].co]] W λe w'=>∃g,e=zR (.agg #[.string (bs (ny lQ C[j]).rc),zS g (ny lQ C[j]).bl.length (ny lQ C[j]).bl.length,zI ((ny lQ C[j]).wt:Nat),zI ((ny lQ C[j]).ev:Nat),zI ((ny lQ C[j]).rp:Nat)])/\aB [] W w'/\W.heap.size<=g/\g<w'.heap.size/\RW [] 1 w' (zS g (ny lQ C[j]).bl.length (ny lQ C[j]).bl.length) (sc (ny lQ C[j]).bl)):=λW Y=>Pe lQ C[j] none 0 _ _ W (RW.nil _ _ _) (HBY.o.aC Y (by simp)) ⟨ai,ci,rfl⟩ (by simp[lQ]) (by omega) ⟨Kt.2.2.1,Kt.2.2.2.1,Kt.2.2.2.2⟩
     generalize ny lQ C[j]=y at *;obtain⟨E,b,D,z,x⟩:=y;simp only at U;generalize C[j]=c at *;go_wp2_with fail
     refine(Z.o _ ((F.o.alloc _).alloc _)).mono ?_;rintro e _ ⟨rfl,_,rfl⟩;go_wp2_with fail
     refine(U.o _ (((F.o.alloc _).alloc _).drewN _)).mono ?_;rintro e w3 ⟨g,rfl,Gq,I,P,s⟩;have t:aB [] wr w3:=((((aB.refl [] wr).alloc _).alloc _).drewN _).trans Gq;have Sl:wr.heap.size<=g:=by simp at I;omega
     have n:∀r,Value.ownBlock (.slice ao j co)=some r->r<wr.heap.size:=λr M=>(O.o.lt M).2
     have O3:=aj (O.o.aC t (by simp));have:=t.size;go_wp2_with (at_builtin;refine qD _ rfl _ _ 32 63 _ 5 64 CV Tryz.underlying32 rfl (by omega) rfl w.heap.size (.slice ao j co) (fZ m) w3.heap.size (aO ⟨E,b,D,z,x⟩ (zS g b.length b.length)).toList rfl (O3.o.aC (S:=[]) ((aB.refl [] _).alloc _) (by simp)) rfl rfl (aez) (by intro u hu;simp[aO]at hu;rcases hu with rfl|rfl|rfl|rfl|rfl<;>rfl) (by rw[V.o];omega) (by rw[V.o];omega) (by simp;omega) ?_;intro gg _ w5 L T bq _;rw[V.o]at L |-;have F5:Z_ (aB [] w w5):=((aj (F.o.trans t)).o.alloc _).grown T (λr M=>.inr (O3.o.lt M).1);have I5:Z_ (dV LD (A++[gg]) w5 (m++[aO ⟨E,b,D,z,x⟩ (zS g b.length b.length)]) (fD C j++[⟨E,b,D,z,x⟩])):=(((aj (HI.o.aC t (by simp))).o.aC (S:=[]) ((aB.refl [] _).alloc _) (by simp)).snoc ⟨g,rfl,(aj (s.afJ (B:=A++(Value.ownBlock (.slice ao j co)).toList) (λl=>by simp at l;rcases l with l|l;have:=HA.o g l;omega;have:=n g l;omega))).o.aC (S:=[]) ((aB.refl [] _).alloc _) (by simp)⟩).app T bq)
     go_roundg (gk-1)
     case measure=>omega
     case rel =>
      have O6:=(aj L).o;rw[Gi]at O6;refine⟨j+1,m++[aO ⟨E,b,D,z,x⟩ (zS g b.length b.length)],by omega,by go_num,by simp;omega,F5,O6,?_⟩;show dV _ _ _ _ _;rw[Qi.o];exact I5
   | some p =>
     have:=En N;have Yb:Gn C j=(p:Int):=by unfold Gn;rw[N]
     have KH:=ry C j;have lV:p<(fD C j).length:=by omega
     have uz:uK C (fD C j) j=(fD C j)[p]:=by
      unfold uK;rw[N];simp[a0x,a0a lV,Option.getD_some]
     have:=VU (C:=C) (λc l=>(HG.o c l).2.1) j _ (a0u lV);rw[Yb]at Z;rw[uz]at Qi;obtain⟨_,_,hvh,hrh⟩:=sP (O.o.rw (A:=[]) (by simp)) (HI.o.cO (B:=[]) (by simp));simp[Value.slice.injEq]at hvh;obtain⟨rfl,hjj,rfl⟩:=hvh;obtain⟨J,H,_,rfl,_,_,⟨gp,rfl,Qe⟩,X⟩:=hrh p lV;have:zC wr J (H+p*5) (.string (bs (fD C j)[p].rc)):=X 0 _ rfl;have:zC wr J (H+p*5+1) (zS gp (fD C j)[p].bl.length (fD C j)[p].bl.length):=X 1 _ rfl;have:zC wr J (H+p*5+2) (zI ((fD C j)[p].wt:Nat)):=X 2 _ rfl;have:zC wr J (H+p*5+3) (zI ((fD C j)[p].ev:Nat)):=X 3 _ rfl;have u4:zC wr J (H+p*5+4) (zI ((fD C j)[p].rp:Nat)):=X 4 _ rfl;have HRP:=aj Qe;have:decide ((p:Int)<(j:Int))=true:=a0g (by omega);clear hrh X Qe uz Yb N hjj KH;generalize Yr:(fD C j)[p]=i at *;clear Yr lV;have U:Z_ (∀W,aB [] wr W->zF 56 #[.agg #[zT i.rc,zS gp i.bl.length i.bl.length,zI i.wt,zI i.ev,zI i.rp],.agg #[zI (C[j].d:Nat),.string (bs C[j].rc),.bool C[j].tb,.slice ay C[j].jM.length cy,zI C[j].wt,zI C[j].ev,zI C[j].rp,.slice ai C[j].ifs.length ci,.bool C[j].co]] W λe w'=>∃g,e=zR (.agg #[.string (bs (ny i C[j]).rc),zS g (ny i C[j]).bl.length (ny i C[j]).bl.length,zI ((ny i C[j]).wt:Nat),zI ((ny i C[j]).ev:Nat),zI ((ny i C[j]).rp:Nat)])/\aB [] W w'/\W.heap.size<=g/\g<w'.heap.size/\RW [] 1 w' (zS g (ny i C[j]).bl.length (ny i C[j]).bl.length) (sc (ny i C[j]).bl)):=λW Y=>Pe i C[j] (some (zA gp)) i.bl.length _ _ W (HRP.o.aC Y (by simp)) (HBY.o.aC (F.o.trans Y) (by simp)) ⟨ai,ci,rfl⟩ (by omega) (by omega) ⟨Kt.2.2.1,Kt.2.2.2.1,Kt.2.2.2.2⟩
     generalize ny i C[j]=y at *;obtain⟨E,b,D,z,x⟩:=y;simp only at U;generalize C[j]=c at *;go_wp2_with fail
     refine(Z.o _ ((F.o.alloc _).alloc _)).mono ?_;rintro e _ ⟨rfl,_,rfl⟩;go_wp2_with fail
     refine(U.o _ (((((aB.refl [] wr).alloc _).alloc _).drewN _).over (l8 _ _ _ _ _ _ _) (by simp))).mono ?_;rintro e w3 ⟨g,rfl,Gq,I,P,s⟩;have t:aB [] wr w3:=(((((aB.refl [] wr).alloc _).alloc _).drewN _).over (l8 _ _ _ _ _ _ _) (by simp)).trans Gq;have:wr.heap.size<=g:=by simp at I;omega
     have n:∀r,Value.ownBlock (.slice (some (zB J H)) j co)=some r->r<wr.heap.size:=λr M=>(O.o.lt M).2
     have O3:=aj (O.o.aC t (by simp));have:=t.size;go_wp2_with (at_builtin;refine qD _ rfl _ _ 32 63 _ 5 64 CV Tryz.underlying32 rfl (by omega) rfl w.heap.size (.slice (some (zB J H)) j co) (fZ m) w3.heap.size (aO ⟨E,b,D,z,x⟩ (zS g b.length b.length)).toList rfl (O3.o.aC (S:=[]) ((aB.refl [] _).alloc _) (by simp)) rfl rfl (aez) (by intro u hu;simp[aO]at hu;rcases hu with rfl|rfl|rfl|rfl|rfl<;>rfl) (by rw[V.o];omega) (by rw[V.o];omega) (by simp;omega) ?_;intro gg _ w5 L T bq _;rw[V.o]at L |-;have F5:Z_ (aB [] w w5):=((aj (F.o.trans t)).o.alloc _).grown T (λr M=>.inr (O3.o.lt M).1);have I5:Z_ (dV LD (A++[gg]) w5 (m++[aO ⟨E,b,D,z,x⟩ (zS g b.length b.length)]) (fD C j++[⟨E,b,D,z,x⟩])):=(((aj (HI.o.aC t (by simp))).o.aC (S:=[]) ((aB.refl [] _).alloc _) (by simp)).snoc ⟨g,rfl,(aj (s.afJ (B:=A++(Value.ownBlock (.slice (some (zB J H)) j co)).toList) (λl=>by simp at l;rcases l with l|l;have:=HA.o g l;omega;have:=n g l;omega))).o.aC (S:=[]) ((aB.refl [] _).alloc _) (by simp)⟩).app T bq)
     go_roundg (gk-1)
     case measure=>omega
     case rel =>
      have O6:=(aj L).o;rw[Gi]at O6;refine⟨j+1,m++[aO ⟨E,b,D,z,x⟩ (zS g b.length b.length)],by omega,by go_num,by simp;omega,F5,O6,?_⟩;show dV _ _ _ _ _;rw[Qi.o];exact I5
  have:decide ((j:Int)<(C.length:Int))=false:=a0f (by omega);have hj:j=C.length:=by omega
  subst hj;go_wp2;go_ret;exact⟨_,m,rfl,F,O,HI⟩
theorem abV {re:LB->Nat} {bI:LB->gz}:∀(M:List CM) (s:CS) (acc:List (Nat × Bool)) (k:Nat) {l:List (Nat × Bool)} {s1:CS},CSB s k->nu re bI s acc M=.ok (l,s1)->CSB s1 (k+M.length)/\s1.q=s.q/\l.length=acc.length+M.length
 | [],s,acc,k,l,s1,h,e=>by grind [nu]
 | m::r,s,acc,k,l,s1,h,e=>by
   rw[nu]at e
   split at e
   .cases e
   rename_i t s2 ht
   obtain⟨b,_,a⟩:=aev h ht;obtain⟨f,d,c⟩:=abV r _ _ (k+1) b e;refine⟨?_,d.trans a,by simp at c |-;omega⟩;rw[a0r,show k+(r.length+1)=k+1+r.length by omega];exact f
def QH.cO{B:LN} {C:List CR}(h:QH A w v C)(a:∀g∈B,g∈A\/w.heap.size<=g):QH B w v C:=by obtain⟨d,c,b⟩:=h;exact⟨d,c.cO a,b.cO a⟩
def results3 {fn:Func} {p u t:Tmp} {ty:TypeId}(h:fn.results=#[.cell p ty,.tmp u,.tmp t]){tmps:Array Value}(g:Nat)(cs:Array Value){a b:Value}
 (e:tmps.getD p undef=zP g) (d:tmps.getD u undef=a) (ht:tmps.getD t undef=b) (f:(loadVar ty (zA g)).run Tryz.prog w=.ok (.agg cs) w) :
 (results fn tmps).run Tryz.prog w=.ok (.tuple #[.agg cs,a,b]) w:=by
 have i:tmps[p]?.getD undef=zP g:=by simpa using e
 have c:tmps[u]?.getD undef=a:=by simpa using d
 have j:tmps[t]?.getD undef=b:=by simpa using ht
 simp[results,h,i,c,j,asAddr,f]
abbrev vz:V6:=⟨zN,zN,zN,zN,zN,zN⟩
def KS.start(Z:LN) {c:World} {kb:Nat} {rt:Value}(d:KR c kb vz ⟨rt,zN,zN,zN⟩):KS Z c kb c vz ⟨rt,zN,zN,zN⟩ lT:=by
 refine⟨d,[],[],zK,d.lt,⟨?_,?_⟩,dV.nil _ _ _,dV.nil _ _ _⟩
 .intro i r a
  match i,a with
  | 0,a=>cases a;exact OW.nil _ _ _ _
  | 1,a=>cases a;exact OW.nil _ _ _ _
  | 2,a=>cases a;exact OW.nil _ _ _ _
  | 3,a=>cases a;exact OW.nil _ _ _ _
  | 4,a=>cases a;exact OW.nil _ _ _ _
  | 5,a=>cases a;exact OW.nil _ _ _ _
  | i+6,a=>simp at a
 intro i j r s _ a _ g b
 match i,a with
 | 0,a=>cases a;cases b
 | 1,a=>cases a;cases b
 | 2,a=>cases a;cases b
 | 3,a=>cases a;cases b
 | 4,a=>cases a;cases b
 | 5,a=>cases a;cases b
 | i+6,a=>simp at a
def aiC(i:Nat)(w:World)(a:i<=1000000):zF 37 #[zI i] w λe w'=>e=zR (zI ((i+2:Nat):Int))/\w=w':=by
 delta zF;go_in
 go_wp2;go_ret;exact⟨congrArg Ending.returned (by go_num),rfl⟩
def PCQ(re:LB->Nat)(bI:LB->gz)(C:List CR)(w:World)(e:Ending)(w':World):Prop :=
 aB [] w w'/\((∃n ln,pread re bI lT 0 C=.error (n,ln)/\e=zQ #[.agg vz.cells,zI n,zI ln]) \/
 (∃s V,pread re bI lT 0 C=.ok s/\e=zQ #[.agg V.cells,zI 0,zI 0]/\PG [] w' V (iZ C s)))
def dV.plain {a:List (Array Value)} {xs:List kN}(h:dV LD A w a xs):dV Gj A w a xs :=
 ⟨h.1,λn cs x c b=>by obtain⟨g,e,r⟩:=h.2 n cs x c b;exact⟨_,e,r⟩⟩
def acz(re:LB->Nat)(bI:LB->gz)(vr vt:Value)(C:List CR)(w:World)(zV:QH [] w vt C)(bJ:0<C.length)(hCl:C.length<=16)(hC:∀c∈C,c.d<=5/\c.jM.length<=4/\-1<=c.wt/\-1<=c.ev/\-1<=c.rp/\c.ifs.length<=4/\∀m∈c.ifs,m.2.1<=3/\((m.2.1=2\/m.2.1=3)->RCP re bI m.2.2))(hvr:∃a n c,vr=.slice a n c) :
 zF 22 #[.agg #[vr,vt]] w (PCQ re bI C w):=by
 obtain⟨a0,n0,c0,rfl⟩:=hvr;obtain⟨Ay,uR,ert⟩:∃a cap,vt=.slice a C.length cap:=by
  obtain⟨bB,h1,h2⟩:=zV;obtain⟨a,cap,e,_⟩:=sP h1 h2;exact⟨a,cap,e⟩
 subst ert;obtain⟨W0,hW0⟩:∃W0,W0=((w.alloc (Obj.cells #[.slice a0 n0 c0,.slice Ay C.length uR] 68)).alloc (Obj.cells #[zN,zN,zN,zN,zN,zN] 53)).alloc (Obj.cells #[zN,zN,zN,zN,zN,zN,.slice Ay C.length uR,zN,zN,zN] 93):=⟨_,rfl⟩;have F0:aB [] w W0:=by rw[hW0];exact(((aB.refl [] w).alloc _).alloc _).alloc _
 have gT:W0.heap.size=w.heap.size+3:=by rw[hW0];simp
 have BC:W0.heap[w.heap.size]?=some (Obj.cells #[.slice a0 n0 c0,.slice Ay C.length uR] 68):=by
  rw[hW0];exact((((aB.refl [] _).alloc _).alloc _).block w.heap.size (by simp) (by simp)).trans (bD _ _)
 have BP:W0.heap[w.heap.size+1]?=some (Obj.cells #[zN,zN,zN,zN,zN,zN] 53):=by
  rw[hW0];exact(((aB.refl [] _).alloc _).block (w.heap.size+1) (by simp) (by simp)).trans (alloc_at (by simp))
 have BK:KR W0 (w.heap.size+1+1) vz ⟨.slice Ay C.length uR,zN,zN,zN⟩:=by
  rw[hW0];exact alloc_at (by simp)
 have HS:=aj (KS.start [w.heap.size+1] BK);have Og:Z_ (QH [w.heap.size+1+1] W0 (.slice Ay C.length uR) C):=(zV.cO (by simp;omega)).aC F0 (by simp);have HC:=aj hC;have Qb:=aj F0;have HBC:=aj BC;have HBP:=aj BP;have HW0:=aj hW0;clear zV hC F0 BC BP BK hW0;go_enter Tryz.func22,Tryz.ntmps22
 go_wp2_with fail
 go_loopg [15] C.length (λk v15 wr=>∃(j:Nat) (sj:CS) (Vj:V6) (Uj:V4),j+k=C.length/\v15=zI j/\Z_ (KS [w.heap.size+1] W0 (w.heap.size+1+1) wr Vj Uj sj)/\Z_ (KV vz Vj ⟨.slice Ay C.length uR,zN,zN,zN⟩ Uj)/\Z_ (pread re bI sj j (C.drop j)=pread re bI lT 0 C)/\Z_ (CSB sj (4*j))/\Z_ (sj.q.length=j)/\Z_ (∀x∈sj.q,x.length<=4)/\Z_ (∀y∈sj.x,re y=0))
 case atStart =>
  refine⟨0,lT,vz,_,by omega,rfl,?_,KV.refl _ _,?_,⟨by simp[lT],by simp[lT],by simp[lT],by simp[lT],by simp[lT]⟩,?_,?_,?_⟩
  ·show KS _ _ _ _ _ _ _
   have:=HS.o;rw[HW0.o]at this |-;exact this
  ·show _=_;rfl
  ·show _=_;rfl
  ·intro x hx;simp[lT]at hx
  intro x hx;simp[lT]at hx
 case round =>
  obtain⟨j,sj,Vj,Uj,lU,rfl,KJ,Gx,HP,CBJ,HQL,HQ4,HX⟩:=hrel;have hzj:=KJ.o.fr.size;have bc:=(KJ.o.fr.block w.heap.size (by omega) (by simp;omega)).trans HBC;have bp:=(KJ.o.fr.block (w.heap.size+1) (by omega) (by simp)).trans HBP;have k1:zC wr w.heap.size 1 (.slice Ay C.length uR):=by simp[World.cell?,bc]
  by_cases aL:j<C.length
  ·have gJ:decide ((j:Int)<(C.length:Int))=true:=a0g (by omega)
   obtain⟨bB,r1,r2⟩:=Og.o;obtain⟨a',xK,ea,rr⟩:=sP r1 r2;simp only[Value.slice.injEq,a1W]at ea;obtain⟨rfl,rfl⟩:=ea;obtain⟨gr,or,csr,rfl,Au,RU,⟨ek,iJ,rfl,xL,JI⟩,kk⟩:=rr j aL;obtain⟨ay,cy,rfl,_⟩:=xL.str;obtain⟨ai,ci,rfl,_⟩:=JI.mts;have tc:∀(o:Nat) (u:Value),(rcl C[j] (.slice ay C[j].jM.length cy) (.slice ai C[j].ifs.length ci))[o]?=some u->zC wr gr (or+j*9+o) u:=λo u hu=>(KJ.o.fr.cell (p:=(zB gr (or+j*9+o))) Au RU).trans (kk o u hu)
   have t0:zC wr gr (or+j*9) (zI (C[j].d:Nat)):=tc 0 _ rfl;have t1:zC wr gr (or+j*9+1) (.string (bs C[j].rc)):=tc 1 _ rfl;have t2:zC wr gr (or+j*9+2) (.bool C[j].tb):=tc 2 _ rfl;have t3:zC wr gr (or+j*9+3) (.slice ay C[j].jM.length cy):=tc 3 _ rfl;have t4:zC wr gr (or+j*9+4) (zI C[j].wt):=tc 4 _ rfl;have t5:zC wr gr (or+j*9+5) (zI C[j].ev):=tc 5 _ rfl;have t6:zC wr gr (or+j*9+6) (zI C[j].rp):=tc 6 _ rfl;have t7:zC wr gr (or+j*9+7) (.slice ai C[j].ifs.length ci):=tc 7 _ rfl;have t8:zC wr gr (or+j*9+8) (.bool C[j].co):=tc 8 _ rfl;have axn:gr<wr.heap.size:=by omega
   have Lt:=HC.o C[j] (a0u aL);obtain⟨h1,h2,h3,h4,h5,h6,h7⟩:=Lt;have kG:=CBJ.o;have N1:Z_ (∀W,aB [] wr W->zF 36 #[zP (w.heap.size+1+1),.slice ai C[j].ifs.length ci] W (RMQ [w.heap.size+1] re bI W0 (w.heap.size+1+1) Vj Uj sj C[j].ifs)):=λW hW=>Ul [w.heap.size+1] re bI W0 (w.heap.size+1+1) W Vj Uj sj (KJ.o.aC hW) (by have:=hW.size;simp;omega) ⟨by have:=kG.n;omega,by have:=kG.c;omega,by have:=kG.x;omega,by have:=kG.a;omega,by have:=kG.t;omega⟩ _ C[j].ifs JI h6 h7 (by rw[HQL.o];omega)
   have HPR:Z_ (pread re bI sj j (C[j]::C.drop (j+1))=pread re bI lT 0 C):=by show _=_;rw[<-a0k aL];exact HP
   clear kk rr JI xL tc kG HP bc h7;generalize C[j]=c at *;go_wp2_with fail
   refine(N1.o _ ((aB.refl [] _).alloc _)).mono ?_;clear N1;rintro e w2 hT;rcases hT with⟨n,e1,rfl,og⟩|⟨l,s1,V2,U2,e1,rfl,hK2,aix⟩
   ·have HE:Z_ (pread re bI lT 0 C=.error (n,j+2)):=by show _=_;rw[<-HPR.o,pread,e1]
    have hn0:((n:Int) != 0)=true:=by
     rcases El (re:=re) (bI:=bI) c.ifs sj [] HX.o with⟨e,f1,_,f3⟩|⟨l',s',f1,_⟩
     ·rw[e1]at f1;cases f1
      rw[a1M];omega
     rw[e1]at f1;cases f1
    have bp2:=(og.block (w.heap.size+1) (by omega) (by simp)).trans HBP;have e0:zC w2 (w.heap.size+1) 0 zN:=by simp[World.cell?,bp2]
    have e1':zC w2 (w.heap.size+1) 1 zN:=by simp[World.cell?,bp2]
    have e2:zC w2 (w.heap.size+1) 2 zN:=by simp[World.cell?,bp2]
    have e3:zC w2 (w.heap.size+1) 3 zN:=by simp[World.cell?,bp2]
    have e4:zC w2 (w.heap.size+1) 4 zN:=by simp[World.cell?,bp2]
    have e5:zC w2 (w.heap.size+1) 5 zN:=by simp[World.cell?,bp2]
    have ez:∀o,w2.frozen? (zB (w.heap.size+1) o)=false:=λo=>by simp[World.frozen?,bp2]
    have HB2:=aj bp2;have F2:=aj og;have NL:=aj (aiC j w2 (by omega));clear e1 bp2 og HPR;go_wp2_with fail
    refine(NL.o).mono ?_;rintro e w' ⟨rfl,rfl⟩;go_wp2_with fail
    refine bodyPost_ret (results3 rfl (w.heap.size+1) vz.cells rfl rfl rfl (adZ (ad1 HB2) rfl)) rfl ?_;refine⟨?_,.inl ⟨n,j+2,HE,rfl⟩⟩;exact((Qb.o.over F2.o (by simp;omega)).over (ad2 _ _ _ _ _ _ _ _) (by simp))
   obtain⟨g1,g2,g3⟩:=abV c.ifs sj [] (4*j) CBJ.o e1;have HE:Z_ (pread re bI { s1 with q:=s1.q++[l] } (j+1) (C.drop (j+1))=pread re bI lT 0 C):=by show _=_;rw[<-HPR.o,pread,e1]
   have CB2:Z_ (CSB { s1 with q:=s1.q++[l] } (4*(j+1))):=⟨by have:=g1.n;simp only;omega,by have:=g1.c;simp only;omega,by have:=g1.x;simp only;omega,by have:=g1.a;simp only;omega,by have:=g1.t;simp only;omega⟩;have HQ2:Z_ ({ s1 with q:=s1.q++[l] }.q.length=j+1):=by show(s1.q++[l]).length=_;rw[a0p,g2,HQL.o];rfl
   have HQ5:Z_ (∀x∈{ s1 with q:=s1.q++[l] }.q,x.length<=4):=by
    intro x hx;have JH:x∈s1.q++[l]:=hx;rw[a0e,a0w,g2]at JH;rcases JH with JH|rfl
    ·exact HQ4.o x JH
    simp at g3;omega
   have HX2:Z_ (∀y∈{ s1 with q:=s1.q++[l] }.x,re y=0):=by
    rcases El (re:=re) (bI:=bI) c.ifs sj [] HX.o with⟨e,f1,_⟩|⟨l',s',f1,_,f3⟩
    ·rw[e1]at f1;cases f1
    rw[e1]at f1;cases f1;exact f3
   have K2:=aj hK2;have KV2:=aj (Gx.o.trans aix);clear hK2 aix g1 g2 g3 e1 HPR;go_wp2;go_roundg (gk-1)
   case measure=>omega
   case rel=>exact⟨j+1,_,V2,U2,by omega,by go_num,K2,KV2,HE,CB2,HQ2,HQ5,HX2⟩
  have gJ:decide ((j:Int)<(C.length:Int))=false:=a0f (by omega);have hj:j=C.length:=by omega
  have HE:Z_ (pread re bI lT 0 C=.ok sj):=by
   show _=_;rw[<-HP.o,hj,a2H]
   rfl
  obtain⟨vn,vc,va,vt,vr,vi⟩:=Vj;obtain⟨rt,ux,uq,ul⟩:=Uj;obtain⟨e1,e2,e3,e4⟩:=Gx.o;simp only at e1 e2 e3 e4;subst e1 e2 e3 e4;have N2:=aj (an6 [w.heap.size+1+1,w.heap.size+1] wr (by simp;omega) (.slice Ay C.length uR) C ((Og.o.aC KJ.o.fr (by simp)).cO (by simp)) (by omega) (λc hm=>by obtain⟨h1,h2,h3,h4,h5,_⟩:=HC.o c hm;exact⟨by omega,h2,h3,h4,h5⟩));have Vd:=aj KJ.o.row;have HBW:=aj bp;clear HP Gx bc bp;go_wp2_with fail
  refine(N2.o).mono ?_;clear N2;rintro e w2 ⟨v2,bB,rfl,og,hO2,hI2⟩;obtain⟨ah,ch,he⟩:=hO2.shape;rw[jA]at he;subst he;have R2:=aj (Vd.o.aC og (by simp));have c4:=R2.o.c 4;simp at c4;have z4:=R2.o.fz 4;have R3:=aj (R2.o.set (V':=⟨vn,vc,va,vt,.slice ah bB.length ch,zN⟩) (U':=⟨.slice Ay C.length uR,ux,uq,zN⟩) 4 (.slice ah bB.length ch) rfl);have FK:Z_ (aB [w.heap.size+1+1] wr (w2.setCell (zB (w.heap.size+1+1) 4) (.slice ah bB.length ch))):=((aB.refl _ _).over og (by simp)).setCell (p:=(zB (w.heap.size+1+1) 4)) (.inl (by simp)) _;have O2:=aj hO2;have I2:=aj hI2;have F2:=aj og;have HLC:Z_ (LC (w2.setCell (zB (w.heap.size+1+1) 4) (.slice ah bB.length ch)) (w.heap.size+1+1) (.slice Ay C.length uR) uq C sj.q):=by
   obtain⟨ca,cq,g⟩:=KJ.o.g;refine⟨(Og.o.aC KJ.o.fr (by simp)).aC FK.o (by simp),⟨cq,?_,?_⟩,by rw[HQL.o,hj],HQ4,hCl,λc hm=>(HC.o c hm).1⟩
   ·have ow:OW 125 1 W0.heap.size wr uq (fZ cq):=g.rw.asz 5 ⟨125,1,uq,fZ cq⟩ rfl
    exact(ow.rw (A:=[w.heap.size+1+1]) (λx hx hm=>by simp at hm;have:=(ow.lt hx).1;omega)).aC FK.o (by simp)
   exact(g.qi.cO (B:=[w.heap.size+1+1]) (λx hx=>by simp at hx;subst hx;exact .inl (by simp))).aC FK.o (by simp)
  generalize hw3:w2.setCell (zB (w.heap.size+1+1) 4) (.slice ah bB.length ch)=w3 at *;have N3:=aj (Um w3 (w.heap.size+1+1) w3 _ ux uq C sj.q HLC.o ⟨R3,aB.refl _ _,R3.o.lt,OW.nil _ _ _ _⟩ bJ);have HW3:=aj hw3;clear og hO2 hI2 HLC;obtain⟨an,cn,en⟩:∃a c,vn=.slice a sj.n.length c:=by
   obtain⟨a,c,e⟩:=(KJ.o.own 0 (r:=⟨9,1,vn,sc sj.n⟩) (λca cq=>rfl)).shape;exact⟨a,c,by rw[iC]at e;exact e⟩
  obtain⟨ac,VR,ec⟩:∃a c,vc=.slice a sj.c.length c:=by
   obtain⟨a,c,e⟩:=(KJ.o.own 1 (r:=⟨9,1,vc,sc sj.c⟩) (λca cq=>rfl)).shape;exact⟨a,c,by rw[iC]at e;exact e⟩
  obtain⟨atx,ctx,et⟩:∃a c,vt=.slice a sj.t.length c:=by
   obtain⟨a,c,e⟩:=(KJ.o.own 4 (r:=⟨113,3,vt,tc sj.t⟩) (λca cq=>rfl)).shape;exact⟨a,c,by rw[YX]at e;exact e⟩
  obtain⟨aa,na,caa,ea⟩:∃a n c,va=.slice a n c:=by
   obtain⟨ca,cq,g⟩:=KJ.o.g;obtain⟨a,c,e⟩:=(g.rw.asz 3 ⟨119,259,va,fZ ca⟩ rfl).shape;exact⟨a,_,c,e⟩
  subst en ec et ea;go_wp2_with fail
  refine(N3.o).mono ?_;clear N3;rintro e w4 ⟨v4,vl4,rfl,hR4,_,hF4,hO4⟩;obtain⟨a4,c4',e4⟩:=hO4.shape;subst e4;have d0:=hR4.c 0;have d1:=hR4.c 1;have d2:=hR4.c 2;have d3:=hR4.c 3;have d4:=hR4.c 4;have d5:=hR4.c 5;have dz:=hR4.fz 5;simp at d0 d1 d2 d3 d4 d5;have F4:=aj hF4;have O4:=aj hO4;have Yn:aB [w.heap.size+1+1] w2 w3:=by rw[<-HW3.o];exact(aB.refl _ _).setCell (p:=(zB (w.heap.size+1+1) 4)) (.inl (by simp)) _
  have aum:=aj Yn;have b4:=(hF4.block (w.heap.size+1) (by have:=Yn.size;have:=F2.o.size;omega) (by simp)).trans ((Yn.block (w.heap.size+1) (by have:=F2.o.size;omega) (by simp)).trans ((F2.o.block (w.heap.size+1) (by omega) (by simp)).trans HBW));have p0:zC w4 (w.heap.size+1) 0 zN:=by simp[World.cell?,b4]
  have p1:zC w4 (w.heap.size+1) 1 zN:=by simp[World.cell?,b4]
  have p2:zC w4 (w.heap.size+1) 2 zN:=by simp[World.cell?,b4]
  have p3:zC w4 (w.heap.size+1) 3 zN:=by simp[World.cell?,b4]
  have p4:zC w4 (w.heap.size+1) 4 zN:=by simp[World.cell?,b4]
  have p5:zC w4 (w.heap.size+1) 5 zN:=by simp[World.cell?,b4]
  have pz:∀o,w4.frozen? (zB (w.heap.size+1) o)=false:=λo=>by simp[World.frozen?,b4]
  have HB4:=aj b4;clear hR4 hF4 hO4 Yn b4;go_wp2_with fail
  have hl4:w.heap.size+1<w4.heap.size:=(a0c.1 HB4).1;have FB:=λ(X:Value)=>(aB.refl [w.heap.size+1+1] w4).setCell (p:=(zB (w.heap.size+1+1) 5)) (.inl (by simp)) X
  refine bodyPost_ret (results3 rfl (w.heap.size+1) (V6.cells ⟨.slice an sj.n.length cn,.slice ac sj.c.length VR,.slice aa na caa,.slice atx sj.t.length ctx,.slice ah bB.length ch,.slice a4 (uj (C8 C sj.q)).length c4'⟩) rfl rfl rfl (adZ (ad1 (((FB _).block (w.heap.size+1) hl4 (by simp)).trans HB4)) rfl)) rfl ?_;have FE:=((aB.refl [w.heap.size+1+1,w.heap.size+1] w4).over (FB (.slice a4 (uj (C8 C sj.q)).length c4')) (by simp)).over (ad2 _ (w.heap.size+1) (.slice an sj.n.length cn) (.slice ac sj.c.length VR) (.slice aa na caa) (.slice atx sj.t.length ctx) (.slice ah bB.length ch) (.slice a4 (uj (C8 C sj.q)).length c4')) (by simp);have F3E:=((aB.refl [w.heap.size+1+1,w.heap.size+1] w3).over F4.o (by simp)).trans FE;have F2E:=((aB.refl [w.heap.size+1+1,w.heap.size+1] w2).over aum.o (by simp)).trans F3E;have FRE:=((aB.refl [w.heap.size+1+1,w.heap.size+1] wr).over F2.o (by simp)).trans F2E;obtain⟨ca,cq,g⟩:=KJ.o.g;have Jl:∀(e:TypeId) (k b:Nat) (u:World) (v:Value) (vs:List (List Value)),OW e k b u v vs->w.heap.size+3<=b->∀x,v.ownBlock=some x->x ∉ [w.heap.size+1+1,w.heap.size+1]:=by
   intro e k b u v vs ho hb x hx hm;have:=(ho.lt hx).1;simp at hm;omega
  refine⟨(Qb.o.over KJ.o.fr (by simp;omega)).over FRE (by simp;omega),.inr ⟨sj,_,HE,rfl,?_⟩⟩;have on:=g.rw.asz 0 ⟨9,1,.slice an sj.n.length cn,sc sj.n⟩ rfl;have oc:=g.rw.asz 1 ⟨9,1,.slice ac sj.c.length VR,sc sj.c⟩ rfl;have oa:=g.rw.asz 3 ⟨119,259,.slice aa na caa,fZ ca⟩ rfl;have ot:=g.rw.asz 4 ⟨113,3,.slice atx sj.t.length ctx,tc sj.t⟩ rfl;have gD:=F2.o.size;have xg:=aum.o.size;refine⟨?_,?_,⟨ca,?_,?_⟩,?_,⟨bB,?_,?_⟩,?_⟩
  ·exact((on.rw (Jl _ _ _ _ _ _ on (by omega))).aC FRE (by simp)).cO (by simp)
  ·exact((oc.rw (Jl _ _ _ _ _ _ oc (by omega))).aC FRE (by simp)).cO (by simp)
  ·exact((oa.rw (Jl _ _ _ _ _ _ oa (by omega))).aC FRE (by simp)).cO (by simp)
  ·exact((g.ai.cO (B:=[w.heap.size+1+1,w.heap.size+1]) (λx hx=>.inl (by simp at hx |-;rcases hx with rfl|rfl;exact .inr (.inl rfl);exact .inl rfl))).aC FRE (by simp)).cO (by simp)
  ·exact((ot.rw (Jl _ _ _ _ _ _ ot (by omega))).aC FRE (by simp)).cO (by simp)
  ·exact((O2.o.rw (Jl _ _ _ _ _ _ O2.o (by omega))).aC F2E (by simp)).cO (by simp)
  ·exact(((I2.o.cO (B:=[w.heap.size+1+1,w.heap.size+1]) (λx hx=>.inl (a0e.2 (.inl hx)))).aC F2E (by simp)).cO (by simp)).plain
  exact((O4.o.rw (Jl _ _ _ _ _ _ O4.o (by omega))).aC FE (by simp)).cO (by simp)
theorem ari(L:List LB):(sc L).flatten=sv L:=by
 induction L with
 | nil=>rfl
 | cons x r a=>simp only[sc,sv,a0E,List.flatten_cons]at a |-;rw[a];rfl
def SL.rw0 {base:Nat}(h:SL base w v L):RW [] 1 w v (sc L):=by
 have a:OW 9 1 base w v (sc L):=by
  refine⟨?_,λx b=>?_⟩
  .rw[ari,iC];exact h
  obtain⟨y,_,rfl⟩:=a0q.1 b;rfl
 exact a.rw (by simp)
def ML.rw0 {base:Nat} {M:List CM}(h:ML base w v M):RW [] 3 w v (LH M):=by
 have a:OW 127 3 base w v (LH M):=by
  refine⟨?_,λx b=>?_⟩
  .have e:(LH M).flatten=mv M:=by unfold LH mv;rw[List.flatMap_def]
   rw[e,show(LH M).length=M.length by simp[LH]];exact h
  obtain⟨y,_,rfl⟩:=a0q.1 b;rfl
 exact a.rw (by simp)
def asQ {base:Nat} {R:List RV} {C:List CR}(h:RL base w v R)(f:qL base w R C):QH [] w v C:=by
 refine⟨R.map RV.cells,?_,by simpa using f.1,λn cs c g k=>?_⟩
 .have i:OW 96 9 base w v (fZ (R.map RV.cells)):=by
   refine⟨?_,λx b=>?_⟩
   .have e:(fZ (R.map RV.cells)).flatten=rvl R:=by unfold fZ rvl DX;rw[a2m,List.flatMap_def];rfl
    rw[e,jA,a0y];exact h
   unfold fZ at b;rw[a2m]at b;obtain⟨y,_,rfl⟩:=a0q.1 b;rfl
  exact i.rw (by simp)
 rw[a0Q,Option.map_eq_some_iff]at g;obtain⟨rv,j,rfl⟩:=g;have a:=f.2 n rv c j k;refine⟨rv.ek,rv.iJ,?_,a.Im.rw0,a.ifs.rw0⟩;unfold RV.cells rcl;rw[a.d,a.rc,a.tb,a.wt,a.ev,a.rp,a.co]
theorem abX:∀(C:List CR) (i:Nat) (a:Int),i<=16->lD C i a=0->(∀c∈C,c.d<=5)/\C.length+i<=16
 | [],i,a,e,_=>⟨by simp,by simpa using e⟩
 | c::r,i,a,e,h=>by
   unfold lD at h;cases hb:(!(if (i==0)=true then nW c else jN c.d a)||decide (16<=i))
   .rw[hb]at h
    simp only[a0A,a0I]at h;have g:(if (i==0)=true then nW c else jN c.d a)=true/\¬ 16<=i:=by grind
    obtain⟨f,j⟩:=abX r (i+1) c.d (by omega) h;refine⟨λx b=>?_,by simp;omega⟩;rcases a0l.1 b with rfl|b
    .grind [nW,jN]
    exact f x b
   rw[hb]at h;simp at h
def pI {C:List CR}(h:jH t=.ok (L,C)):oV t=.ok (L,C)/\0<C.length/\C.length<=16/\∀c∈C,c.d<=5:=by
 unfold jH at h
 split at h
 .cases h
 split at h
 .cases h
 rename_i l f i
 split at h
 .cases h
 rename_i ht
 split at h
 .cases h
 simp only[Except.ok.injEq,Prod.mk.injEq]at h;obtain⟨rfl,rfl⟩:=h;have e:iX f=0:=by omega
 unfold iX at e
 split at e
 .cases e
 rename_i j
 obtain⟨g,k⟩:=abX f 0 0 (by omega) e;refine⟨i,?_,by omega,g⟩;cases f with
 | nil=>simp at j
 | cons a b=>simp
def pJ(re:LB->Nat)(t:LB):Nat × Nat :=
 match jH t with
 | .error (n,l)=>(n,l)
 | .ok (_,C)=>xF re C 0
def ACQ(re:LB->Nat)(bI:LB->gz)(t:LB)(w:World)(e:Ending)(w':World):Prop :=
 aB [] w w'/\(((pJ re t).1≠0/\e=zQ #[.pointer none,zI ((pJ re t).1:Nat),zI ((pJ re t).2:Nat)]) \/
 (∃L C s V pb,pJ re t=(0,0)/\jH t=.ok (L,C)/\pread re bI lT 0 C=.ok s/\e=zQ #[zP pb,zI 0,zI 0]/\w'.heap[pb]?=some (.cells V.cells 55 (0,0))/\PG [pb] w' V (iZ C s)/\w.heap.size<=pb))
def acA(re:LB->Nat)(bI:LB->gz)(t:LB)(w:World)(ht:t.length<=1048576)(Gg:∀L C,jH t=.ok (L,C)->∀c∈C,∀m∈c.ifs,(m.2.1=2\/m.2.1=3)->RCP re bI m.2.2) :
 zF 14 #[zT t] w (ACQ re bI t w):=by
 have M:=aj Gg;clear Gg;delta zF;go_in
 go_wp2_with fail
 refine(afb t w ht).mono ?_;rintro e w1 ⟨aZ,vr,vt,F,ln,rfl,u⟩;have KF:=aj aZ;clear aZ;cases f:jH t with
 | error nl =>
   obtain⟨n,l⟩:=nl;have v:Z_ (pJ re t=(n,l)):=by show _=_;unfold pJ;rw[f]
   rw[f]at u;obtain⟨rfl,rfl,rfl,rfl,hn⟩:=u;have bJ:((n:Int) != 0)=true:=by rw[a1M];omega
   go_wp2;go_ret3
   refine⟨KF.o.alloc _,.inl ?_⟩;rw[v.o];exact⟨by simp only;omega,rfl⟩
 | ok LC =>
   obtain⟨L,C⟩:=LC;have v:Z_ (pJ re t=xF re C 0):=by show _=_;unfold pJ;rw[f]
   obtain⟨W,h2,h3,h4⟩:=pI f;have p:=(qT t L C ht W).2.2;rw[f]at u;obtain⟨rfl,rfl,U,yo,Qd,Qe,uT⟩:=u;obtain⟨a0,T,rfl⟩:=U.shape;have j:=asQ Qd Qe;obtain⟨Ay,P,E⟩:∃a cap,vt=.slice a C.length cap:=by
    obtain⟨bB,q1,q2⟩:=j;obtain⟨a,cap,e,_⟩:=sP q1 q2;exact⟨a,cap,e⟩
   subst E;have N2:=aj (acz re bI (.slice a0 L.length T) (.slice Ay C.length P) C (w1.alloc (Obj.cells #[.slice a0 L.length T,.slice Ay C.length P] 68)) (j.aC (S:=[]) ((aB.refl [] _).alloc _) (by simp)) h2 h3 (λc y=>by
    have g:=p c y;exact⟨h4 c y,g.byl,g.wt.1,g.ev.1,g.rp.1,g.ifl,λm JJ=>⟨(g.ifs m JJ).kind,λhk=>M.o L C f c y m JJ hk⟩⟩) ⟨_,_,_,rfl⟩)
   have HR:=aj f;have q:=aj (Uk (re:=re) (bI:=bI) C lT 0 (by simp[lT]));clear j Qd Qe U p W f;go_wp2_with fail
   refine(N2.o).mono ?_;clear N2;rintro e O ⟨R,hq⟩;have F2:=aj ((KF.o.alloc _).trans R);clear R;rcases hq with⟨n,ln,h,rfl⟩|⟨s,V,h,rfl,b⟩
   .have k:xF re C 0=(n,ln)/\n≠0:=by
     rcases q.o with⟨e,d,D,f3⟩|⟨s1,d,_⟩
     .rw[h]at d;cases d;exact⟨D,f3⟩
     rw[h]at d;cases d
    have x:=aj k;have bJ:((n:Int) != 0)=true:=by rw[a1M];have:=k.2;omega
    clear k h;simp only[V6.cells];go_wp2;go_ret3
    refine⟨F2.o.alloc _,.inl ?_⟩;rw[v.o,x.o.1];exact⟨x.o.2,rfl⟩
   have k:xF re C 0=(0,0):=by
    rcases q.o with⟨e,d,_⟩|⟨s1,d,D,_⟩
    .rw[h]at d;cases d
    exact D
   have x:=aj k;have HE:=aj h;obtain⟨vn,vc,va,vt,vr',vi⟩:=V;obtain⟨an,cn,Y,_⟩:=b.n;obtain⟨ac,VR,ec,_⟩:=b.c;obtain⟨ca,A,_⟩:=id b.a;obtain⟨aa,I,ea,_⟩:=A;obtain⟨J,ctx,X,_⟩:=b.t;obtain⟨cr,z,_⟩:=id b.r;obtain⟨ar,G,F,_⟩:=z;obtain⟨ai,H,Z,_⟩:=b.i;simp only at Y ec ea X F Z;subst Y ec ea X F Z;have N:=aj b;clear k h b;simp only[V6.cells];go_wp2;go_ret3
   refine⟨(F2.o.alloc _).alloc _,.inr ⟨L,C,s,⟨.slice an (sc (iZ C s).names).length cn,.slice ac (sc (iZ C s).consts).length VR,.slice aa (fZ ca).length I,.slice J (tc (iZ C s).tests).length ctx,.slice ar (fZ cr).length G,.slice ai (uj (iZ C s).code).length H⟩,O.heap.size+1,by rw[v.o,x.o],HR,HE,rfl,Nf _ _ _,?_,by have:=F2.o.size;omega⟩⟩;exact(N.o.cO (B:=[O.heap.size+1]) (by simp)).aC (S:=[]) (((aB.refl [] _).alloc _).alloc _) (by simp)
theorem aiD{m:CM}:Ef (qG m)=(m.2.1==2||m.2.1==3):=by
 unfold Ef qG jr
 by_cases c:m.2.1=1
 .simp[c]
 by_cases b:m.2.1=2
 .simp[b]
 by_cases a:m.2.1=3
 .simp[a]
 simp[c,b,a]
theorem aiE:∀M:List CM,Xj (M.map qG)=mF gH M
 | []=>rfl
 | m::M=>by rw[a0E,Xj,mF,aiD,aiE M];rfl
theorem afZ:∀(C:List CR) (i:Nat),QA (C.map qN) i=xF gH C i
 | [],_=>rfl
 | c::C,i=>by have e:(qN c).ifs=c.ifs.map qG:=rfl;rw[a0E,QA,xF,e,aiE,afZ C (i+1)]
structure CfR(w w':World)(cb base:Nat)(C:List CR)(X:List (Nat × iY × RR)):Prop where
 lo:w.heap.size<=cb
 up:cb<base
 cf:∃vr vl,sw w' cb vr (tC ((X.map (·.1)).getD 0 0)) vl
 rb:∀x∈X,qz w' x.1 x.2.1
 rc:∀x∈X,x.2.1.rc=x.2.2.rc/\x.2.1.t0=x.2.2.t0/\x.2.1.t1=x.2.2.t1/\x.2.1.t2=x.2.2.t2/\x.2.1.on=x.2.2.on
 Im:∀x∈X,SL base w' x.2.1.ek (byW x.2.2.told x.2.2.names)
 kd:∀x∈X,LP base w' x.2.1.vk ((sD (xd X)).2 x.1)
 ifs:JN w' X (λ_ _=>True)
 nd:(X.map (·.1)).Nodup
 eq:X.map (·.2.2)=C.map qN
def MnQ(t:LB)(w:World)(e:Ending)(w':World):Prop :=
 aB [] w w'/\(((pJ gH t).1≠0/\e=zQ #[.pointer none,zI ((pJ gH t).1:Nat),zI ((pJ gH t).2:Nat)]) \/
 (∃L C cb base X,pJ gH t=(0,0)/\jH t=.ok (L,C)/\e=zQ #[tC cb,zI 0,zI 0]/\CfR w w' cb base C X))
def aiF(re:LB->Nat):∀(C:List CR) (i:Nat),(xF re C i).1=0->xF re C i=(0,0)
 | [],_,_=>rfl
 | c::C,i,h=>by
   rw[xF]at h |-
   by_cases a:mF re c.ifs=0
   .simp[a]at h |-
    exact aiF re C (i+1) h
   have:(mF re c.ifs==0)=false:=by simpa using a
   rw[this]at h;simp at h;exact absurd h a
def akM{l:Nat}(h:jH t=.error (n,l)):n≠0:=by
 unfold jH at h
 split at h
 .simp at h;omega
 split at h
 .simp at h;omega
 split at h
 .simp at h;omega
 split at h
 .simp at h;omega
 cases h
def akN(t:LB)(w:World)(ht:t.length<=1048576):zF 15 #[zT t] w (MnQ t w):=by
 have N1:=aj (anQ t w ht);go_enter Tryz.func15,Tryz.ntmps15
 go_wp2_with fail
 refine(N1.o).mono ?_;rintro e O ⟨u,y⟩;rw[arb]at u;clear N1;cases b:jH t with
 | error x =>
   obtain⟨n,l⟩:=x;rw[b]at u;have HR:Z_ (pJ gH t=(n,l)):=by show _=_;unfold pJ;rw[b]
   have T:=akM b;have B:((n:Int)==0)=false:=a0j.2 (by omega);have F:=aj y;have HN:=aj T;obtain rfl:=u;clear b y T;go_wp2;go_ret3
   refine⟨F,.inl ⟨by rw[HR.o];exact HN,by rw[HR.o];rfl⟩⟩
 | ok x =>
   obtain⟨L,C⟩:=x;rw[b]at u;obtain⟨cb,base,vr,vt,P,X,rfl,q,yR,U,a,f,z⟩:=u;have f:C.map qN=X.map (·.2.2):=f;have HR:Z_ (pJ gH t=QA (X.map (·.2.2)) 0):=by show _=_;unfold pJ;rw[b,<-f,afZ]
   have V:=qT t L C ht (pI b).1;have v:=(pI b).2.2;have A:X.length=C.length:=by have:=congrArg List.length f;simpa using this.symm
   have i:∀x∈X,alQ x.2.2:=by
    intro x a;have:x.2.2∈C.map qN:=by rw[f];exact List.mem_map_of_mem a
    rw[a0q]at this;obtain⟨c,q,e⟩:=this;rw[<-e];exact asN c (V.2.2 c q) (v.2 c q)
   have G:=aj (afG cb base vr vt P X O q U a z.row (by omega) (λx a=>⟨by have:=(i x a).ifs;omega,λm D=>((i x a).im m D).2.2⟩));have d:=aj a;have g:=aj z;have J:=aj q;have F:=aj y;have I:=aj b;have H:=aj f;have Z:Z_ ((QA (X.map (·.2.2)) 0).1=0->QA (X.map (·.2.2)) 0=(0,0)):=by
    intro h;rw[<-f,afZ]at h |-;exact aiF _ _ _ h
   clear q yR U a z V v A i b y f;unfold tC at G |-;go_wp2_with fail
   refine(G.o).mono ?_;rintro e N ⟨rfl,s,W⟩;have AI:=aj W;have FW:Z_ (aB [] w N):=((F.o.nil (S:=QB X)).trans s).mono (λk p D=>by
    have h1:=(YW d.o D).1;have h2:=g.o.lo;have h3:=g.o.up;omega)
   have M:Z_ ((QA (X.map (·.2.2)) 0).1=0->CfR w N cb base C X):=by
    intro r;have nt:∀k,k∈QB X->∀t:TypeId,t≠108->k<base\/∃cur Y fz,O.heap[k]?=some (.cells cur Y fz)/\Y≠t:=λk p t B=>by
     obtain⟨_,c,h⟩:=YW d.o p;exact .inr ⟨c,_,_,h,λe=>B e.symm⟩
    refine⟨g.o.lo,g.o.up,⟨vr,P,?_⟩,λx a=>?_,λx a=>?_,λx a=>?_,λx a=>?_,AI.o r,g.o.nd,H.o.symm⟩
    .rw[<-g.o.root]
     exact J.o.aC s (TI d.o J.o (by decide))
    .exact(d.o x a).at_.aC s (TI d.o (d.o x a).at_ (by decide))
    .have h:=d.o x a
     exact⟨h.rc,h.t0,h.t1,h.t2,h.on⟩
    .exact jJ (d.o x a).Im s (λk p=>nt k p _ (by decide))
    exact jJ (g.o.Oe x a) s (λk p=>nt k p _ (by decide))
   clear s W G F d g J AI;obtain⟨j,E⟩:∃j,QA (X.map (·.2.2)) 0=j:=⟨_,rfl⟩;rw[E]at HR Z M;rw[E];clear E;obtain⟨R,r2⟩:=j
   by_cases r:R=0
   .have e:=Z.o r
    simp only[Prod.mk.injEq]at e;obtain⟨rfl,rfl⟩:=e;clear Z r;go_wp2;go_ret3
    exact⟨FW,.inr ⟨L,C,cb,base,X,HR,I,rfl,M.o (by first | trivial|rfl)⟩⟩
   have B:((R:Int)==0)=false:=a0j.2 (by omega);have H0:=aj r;clear r Z M;go_wp2;go_ret3
   exact⟨FW,.inl ⟨by rw[HR.o];exact H0,by rw[HR.o];rfl⟩⟩
abbrev kW:Type:=LB × LB
def LR(w:World)(v:Value)(L:List kW):Prop :=
 ∃a cap,v=.slice a L.length cap/\L.length<=1048576/\∀(j:Nat) (h:j<L.length),∃g off,a=some (zB g off)/\g<w.heap.size/\w.cell? (zB g (off+j*2))=some (.string (bs L[j].1))/\w.cell? (zB g (off+j*2+1))=some (.string (bs L[j].2))
theorem LR.aC {S:LN}{w':World} {L:List kW}(h:LR w v L)(f:aB S w w')(i:∀a n c,v=.slice (some a) n c->a.block∉S):LR w' v L:=by obtain⟨a,cap,rfl,o,m⟩:=h;refine⟨a,cap,rfl,o,?_⟩;intro j e;obtain⟨g,off,rfl,b,l,k⟩:=m j e;have d:=i (zB g off) _ _ rfl;exact⟨g,off,rfl,a0t b f.size,(f.cell (p:=(zB g (off+j*2))) b d).trans l,(f.cell (p:=(zB g (off+j*2+1))) b d).trans k⟩
def dH(L:List kW)(n:LB):LB:=match L.find? (λx=>x.1==n) with | some x=>x.2|none=>[]
def uo:List kW->List kW->Bool
 | _,[]=>true
 | P,x::r=>aJ x.1&&decide (x.2.length<=40)&&!(P.any λy=>y.1==x.1)&&uo (P++[x]) r
def gB(L:List kW):Bool:=decide (L.length<=12)&&uo [] L
theorem aeA(L:List kW)(j:Nat)(a:j<L.length):uo (L.take j) (L.drop j)=(aJ L[j].1&&decide (L[j].2.length<=40)&&!((L.take j).any λy=>y.1==L[j].1)&&uo (L.take (j+1)) (L.drop (j+1))):=by grind [uo,List.take_add_one,List.getElem?_eq_getElem,List.drop_eq_getElem_cons]
def aiH(v:Value)(L:List kW)(n:LB)(w:World)(h:LR w v L) :
 zF 68 #[v,zT n] w λe w'=>e=zR (zT (dH L n))/\w=w':=by
 obtain⟨a,cap,rfl,y,r⟩:=h;have s:=aT;delta zF;go_in
 go_wp2_with fail
 go_loopg [5] L.length (λk l wr=>∃j:Nat,j+k=L.length/\l=zI j/\wr=w/\Z_ ((L.drop j).find? (λx=>x.1==n)=L.find? (λx=>x.1==n)))
 exact⟨0,by omega,rfl,rfl,by show _=_;simp⟩
 .obtain⟨j,t,rfl,q,c⟩:=hrel;subst q
  by_cases f:j<L.length
  .obtain⟨g,off,rfl,u,p,m⟩:=r j f
   have b:=c.o;rw[a0k f,List.find?_cons]at b;generalize L[j]=x at *;obtain⟨nm,i⟩:=x;simp only at p m b;cases he:(nm==n)
   .rw[he]at b
    clear c;go_wp2;go_roundg (gk-1);exact⟨j+1,by omega,by go_num,rfl,b⟩;omega
   rw[he]at b;have d:Z_ (dH L n=i):=by show _=_;unfold dH;rw[<-b]
   clear c;go_wp2;go_ret;rw[d.o];exact⟨rfl,rfl⟩
  have d:Z_ (dH L n=[]):=by
   show _=_;unfold dH;rw[<-c.o,a0i (by omega)]
   rfl
  clear c;go_wp2;go_ret;rw[d.o];exact⟨rfl,rfl⟩
def Uo(RN:∀(n:LB) (w:World),n.length<=140737488355328->zF 18 #[zT n] w λe w'=>e=zR (.bool (aJ n))/\w=w')
 (v:Value) (L:List kW) (w:World) (h:LR w v L) (N:∀x∈L,x.1.length<=140737488355328/\x.2.length<=140737488355328) :
 zF 9 #[v] w λe w'=>e=zR (.bool (gB L))/\aB [] w w':=by
 obtain⟨a,cap,rfl,h0,C⟩:=h;have W:=aT;have eG:=bL
 by_cases hL:12<L.length
 .have b:gB L=false:=by unfold gB;rw[a0f (by omega)];rfl
  delta zF;go_in
  go_wp2;go_ret;rw[b];exact⟨rfl,zK⟩
 have U:gB L=uo [] L:=by unfold gB;rw[a0g (by omega)];rfl
 delta zF;go_in
 go_wp2_with fail
 go_loopg [3] L.length (λk m wr=>∃j q:Nat,j+k=L.length/\m=zI j/\wr=w.drewN q/\(uo (L.take j) (L.drop j)=gB L))
 exact⟨0,0,by omega,rfl,rfl,by rw[U];simp⟩
 .obtain⟨j,q,X,rfl,o,l⟩:=hrel;subst o;obtain⟨go,M⟩:∃go,go=gk:=⟨_,rfl⟩;subst M
  by_cases r:j<L.length
  .obtain⟨g,off,rfl,Z,J,I⟩:=C j r
   have A:=N L[j] (a0u r);have c:gB L=(aJ L[j].1&&decide (L[j].2.length<=40)&&!((L.take j).any λy=>y.1==L[j].1)&&uo (L.take (j+1)) (L.drop (j+1))):=by rw[<-l];exact aeA L j r
   clear l;generalize P:L[j]=x at *;obtain⟨nm,E⟩:=x;simp only at J I A c;have d:=RN nm (w.drewN q) A.1;cases D:aJ nm
   .rw[D]at d c
    have b:gB L=false:=by rw[c];rfl
    clear c;go_wp2_with (go_at_call 18;refine d.mono ?_;rintro e w' ⟨rfl,rfl⟩)
    go_ret;rw[b];exact⟨rfl,zK.drewN _⟩
   rw[D]at d c
   by_cases Af:40<E.length
   .have b:gB L=false:=by rw[c,a0f (by omega)];rfl
    clear c;go_wp2_with (go_at_call 18;refine d.mono ?_;rintro e w' ⟨rfl,rfl⟩)
    go_ret;rw[b];exact⟨rfl,zK.drewN _⟩
   have s:gB L=(!((L.take j).any λy=>y.1==nm)&&uo (L.take (j+1)) (L.drop (j+1))):=by rw[c,a0g (by omega)];rfl
   clear c;go_wp2_with (go_at_call 18;refine d.mono ?_;rintro e w' ⟨rfl,rfl⟩)
   go_loopg [5] j (λk m wr=>∃i q:Nat,i+k=j/\m=zI i/\wr=w.drewN q/\(((L.take i).any λy=>y.1==nm)=false))
   exact⟨0,q,by omega,rfl,rfl,by simp⟩
   .obtain⟨i,H,Y,rfl,o,f⟩:=hrel;subst o
    by_cases V:i<j
    .obtain⟨g3,R,B,O,T,_⟩:=C i (by omega)
     simp only[Option.some.injEq,Addr.mk.injEq,a2u]at B;obtain⟨rfl,rfl⟩:=B;have t:L.take (i+1)=L.take i++[L[i]'(by omega)]:=by rw[a1c,a0a (by omega)];rfl
     have p:L[i]'(by omega)∈L.take j:=by rw[a3r];exact⟨i,by omega,rfl⟩
     generalize L[i]'(by omega)=y at *;obtain⟨z,F⟩:=y;simp only at T;cases he:(z==nm)
     .have u:((L.take (i+1)).any λy=>y.1==nm)=false:=by rw[t,List.any_append,f];simp[he]
      clear f;go_wp2_with fail
      go_quiet (fail)
      go_wp2;go_roundg (gk-1);exact⟨i+1,_,by omega,by go_num,rfl,u⟩;omega
     have b:gB L=false:=by rw[s,a1s.2 ⟨(z,F),p,he⟩];rfl
     clear f;go_wp2_with fail
     go_quiet (fail)
     go_wp2;go_ret;rw[b];exact⟨rfl,(zK.drewN _).drewN _⟩
    have S:i=j:=by omega
    subst S;have G:uo (L.take (i+1)) (L.drop (i+1))=gB L:=by rw[s,f];rfl
    clear f s;go_wp2;go_roundg (go-1);exact⟨i+1,H,by omega,by go_num,rfl,G⟩;omega
  have b:gB L=true:=by rw[<-l,a0i (by omega)];rfl
  clear l;go_wp2;go_ret;rw[b];exact⟨rfl,zK.drewN _⟩
def VV(X:NF)(F:LN)(St:List LN)(nx:LN)(i:Nat):Prop :=
 ∀(u:LN),St[i]?=some u->∀(k c:Nat),F[k]?=some c->∃j v,nx[i*F.length+k]?=some j/\St[j]?=some v/\dW X v=dW X (u++[c])
theorem asR(a:wf X){v:LN}:(Bi X St v=St.length)\/∃u,St[Bi X St v]?=some u/\dW X u=dW X v:=by grind [Bi,name,dW,UH,BR,alx]
theorem abY(m:wf X)(w:LN):∀(F:LN) (St:List LN) (nx:LN) (a:List LN) (d:LN),rQ X w F St nx=(true,a,d) ->
 St <+: a/\∃b,d=nx++b/\b.length=F.length/\∀(k c:Nat),F[k]?=some c->∃j v,b[k]?=some j/\a[j]?=some v/\dW X v=dW X (w++[c])
 | [],St,nx,a,d,h=>by grind [rQ]
 | c::F,St,nx,a,d,h=>by
   unfold rQ at h
   split at h
   .simp at h
   rename_i t
   obtain⟨i,b,p,o,n⟩:=abY m w F _ _ a d h;have l:St <+: (if Bi X St (w++[c])=St.length then St++[w++[c]] else St):=by grind
   have q:∃v,(if Bi X St (w++[c])=St.length then St++[w++[c]] else St)[Bi X St (w++[c])]?=some v/\dW X v=dW X (w++[c]):=by grind [asR,rR]
   refine⟨l.trans i,Bi X St (w++[c])::b,by rw[p];simp,by simp[o],?_⟩;intro k s e;cases k with
   | zero=>simp at e;subst e;obtain⟨v,g,f⟩:=q;exact⟨_,v,by simp,rR i g,f⟩
   | succ k=>obtain⟨j,v,g,f,r⟩:=n k s (by simpa using e);exact⟨j,v,by simpa using g,f,r⟩
theorem VV.mono{b:List LN}{f:LN} {i:Nat}(h:VV X F St nx i)(m:i<St.length)(e:St <+: b)(g:nx <+: f):VV X F b f i:=by
 intro u d k c l;have a:St[i]?=some u:=by obtain⟨t,rfl⟩:=e;rw[a0s m]at d;exact d
 obtain⟨j,v,p,o,n⟩:=h u a k c l;exact⟨j,v,rR g p,rR e o,n⟩
theorem abZ(y:wf X)(F:LN):∀(k i:Nat) (St:List LN) (nx:LN) (b:List LN) (e:LN),yz X F k i St nx=(true,b,e)->i+k=41->WB St->nx.length=i*F.length->i<=St.length->(∀a,a<i->VV X F St nx a) ->
 St <+: b/\e.length=b.length*F.length/\∀a,a<b.length->VV X F b e a
 | 0,i,St,nx,b,e,h,N,s,z,A,x=>by have:=s.1;omega
 | k+1,i,St,nx,b,e,h,N,s,z,A,x=>by
   unfold yz at h
   split at h
   .grind
   rename_i w p
   have R:=(a0d.1 p).1
   split at h
   .simp at h
   rename_i m d f
   obtain⟨n,P,r,E,D⟩:=abY y w F St nx m d f;have l:=aaT X w i F St nx s p;rw[f]at l;have O:=n.length_le;have q:nx <+: d:=by rw[r];exact a1t _ _
   obtain⟨I,H,G⟩:=abZ y F k (i+1) m d b e h (by omega) l (by rw[r,a0p,E,z,a0J];omega) (by omega) (λa C=>by
    by_cases g:a<i
    .exact(x a g).mono (by omega) n q
    have:a=i:=by omega
    subst this;intro u t o c B;have:u=w:=by rw[rR n p]at t;simpa using t.symm
    subst this;obtain⟨j,v,M,L,J⟩:=D o c B;refine⟨j,v,?_,L,J⟩;rw[r,a0K (by omega),show a*F.length+o-nx.length=o by omega];exact M)
   exact⟨n.trans I,H,G⟩
def Df(b:wf X)(h:oC X F=(true,St,nx)):St[0]?=some []/\nx.length=St.length*F.length/\St.length<=40/\∀i,i<St.length->VV X F St nx i:=by have a:=aaU X F;rw[h]at a;obtain⟨e,d,c⟩:=abZ b F 41 0 [[]] [] St nx h rfl WB.one (by simp) (by simp) (λi f=>by omega);exact⟨rR e rfl,d,a.1,c⟩
def Up(n:Nat)(cl:Nat->Nat)(nx:LN)(s:Nat):LN->Nat
 | []=>s
 | b::v=>Up n cl nx (nx.getD (s*n+cl b) 0) v
theorem amc(g:wf X)(h:oC X F=(true,St,nx)) {cl:Nat->Nat}(d:∀b,b<256->∃f,F[cl b]?=some f/\qZ f b X) :
 ∀(v u w:LN) (s:Nat),(∀b∈v,b<256)->St[s]?=some u->dW X u=dW X w->∃a,St[Up F.length cl nx s v]?=some a/\dW X a=dW X (w++v)
 | [],u,w,s,_,c,e=>⟨u,c,by simpa using e⟩
 | b::v,u,w,s,hb,c,e=>by
   obtain⟨f,k,r⟩:=d b (hb b (by simp));obtain⟨j,u2,p,o,t⟩:=(Df g h).2.2.2 s (a0d.1 c).1 u c (cl b) f k;have q:nx.getD (s*F.length+cl b) 0=j:=by simp[List.getD,p]
   have n:dW X u2=dW X (w++[b]):=by grind [tK,anF,asC]
   obtain⟨a,m,l⟩:=amc g h d v u2 (w++[b]) j (λx i=>hb x (by simp[i])) o n;refine⟨a,?_,by simpa using l⟩;rw[Up,q];exact m
def akO(ho:tL e)(h:oC (bn e) F=(true,St,nx)) {cl:Nat->Nat}(c:∀b,b<256->∃f,F[cl b]?=some f/\∀s∈dB e,s.testBit f=s.testBit b)(v:LN)(g:∀b∈v,b<256) :
 ∃t:Bool,(St.map λu=>dK (dW (bn e) u))[Up F.length cl nx 0 v]?=some t/\(t=true↔Rg e v):=by
 have a:=(rF ho).1.1;obtain⟨d,l,k⟩:=amc a h (λb hb=>by obtain⟨f,j,i⟩:=c b hb;exact⟨f,j,TZ i⟩) v [] [] 0 g (Df a h).1 rfl
 refine⟨dK (dW (bn e) d),by simp[l],?_⟩;rw[k,a0V,au4 a,Y2 ho]
def VW(S:LN):∀(k n:Nat),gP S n <+: gP S (n+k)
 | 0,n=>a0N _
 | k+1,n=>by
   refine(VW S k n).trans ?_;show gP S (n+k) <+: gP S (n+k+1);simp only[gP]
   split
   .exact a1t _ _
   exact a0N _
theorem QT(S:LN)(b:Nat)(hb:b<256):∃f,(gP S 256)[kU S (gP S b) b]?=some f/\∀s∈S,s.testBit f=s.testBit b:=by
 have d:gP S (b+1) <+: gP S 256:=by have:=VW S (255-b) (b+1);rw[show b+1+(255-b)=256 by omega]at this;exact this
 by_cases h:kU S (gP S b) b<(gP S b).length
 .have g:=List.findIdx_getElem (xs:=gP S b) (p:=λf=>!(apart S f b)) (w:=h)
  have e:gP S b <+: gP S 256:=by have:=VW S (256-b) b;rw[show b+(256-b)=256 by omega]at this;exact this
  refine⟨_,rR e (a0a h),?_⟩;intro s c;have a:apart S (gP S b)[kU S (gP S b) b] b=false:=by grind [apart,gP,kU]
  unfold apart at a;rw[List.any_eq_false]at a;have:=a s c;simpa using this
 have he:kU S (gP S b) b=(gP S b).length:=Nat.le_antisymm (adD _ _ _) (by omega);refine⟨b,rR d ?_,λs _=>rfl⟩;simp only[gP];rw[he];simp
def clB(e:RX)(b:Nat):Nat:=(yc e).getD b 0
theorem af0(e:RX)(b:Nat)(hb:b<256):clB e b=kU (dB e) (gP (dB e) b) b:=by simp[clB,yc,Xa,hb]
def aiJ(ho:tL e)(h:(eu e).1=true)(v:LN)(c:∀b∈v,b<256) :
 ∃t:Bool,((eu e).2.1.map λu=>dK (dW (bn e) u))[Up (kZ e).length (clB e) (eu e).2.2 0 v]?=some t/\(t=true↔Rg e v):=by
 obtain⟨St,nx,hE⟩:∃St nx,eu e=(true,St,nx):=⟨(eu e).2.1,(eu e).2.2,by rw[<-h]⟩;have a:oC (bn e) (kZ e)=(true,St,nx):=hE;rw[hE];refine akO ho a (λb hb=>?_) v c;rw[af0 e b hb];exact QT (dB e) b hb
structure AU(w:World)(g o:Nat)(n:Nat)(cl:LN)(va vn:Value)(acc:List Bool)(nx:LN):Prop where
 c0:w.cell? (zB g o)=some (zI n)
 cc:∀c,c<256->w.cell? (zB g (o+1+c))=some (.int .u8 (cl.getD c 0))
 ca:w.cell? (zB g (o+257))=some va
 cn:w.cell? (zB g (o+258))=some vn
 ra:∃a cap,va=.slice a acc.length cap/\∀(j:Nat) (h:j<acc.length),∃g off,a=some (zB g off)/\g<w.heap.size/\w.cell? (zB g (off+j))=some (.bool acc[j])
 rn:NL .i64 w vn nx
 n1:n<=256
 xs:∀x∈nx,x<=1000000
 cs:∀c,c<256->cl.getD c 0<=255
 ln:nx.length<=1000000/\acc.length<=1000000
def tkP(n:Nat)(cl:LN)(acc:List Bool)(nx:LN)(s:Nat):LB->Bool
 | []=>acc.getD s false
 | b::v=>if s*n+cl.getD b.toNat 0<nx.length then tkP n cl acc nx (nx.getD (s*n+cl.getD b.toNat 0) 0) v else false
theorem AU.drewN{g o:Nat} {cl:LN} {b a:Value} {acc:List Bool}(k:Nat)(h:AU w g o n cl b a acc nx):AU (w.drewN k) g o n cl b a acc nx:=⟨h.c0,h.cc,h.ca,h.cn,h.ra,h.rn,h.n1,h.xs,h.cs,h.ln⟩
theorem aiK(e:wf X)(h:oC X F=(true,St,nx)) {cl:LN}(acc:List Bool)(a:∀b,b<256->∃f,F[cl.getD b 0]?=some f) :
 ∀(v:LB) (s:Nat),s<St.length->tkP F.length cl acc nx s v=acc.getD (Up F.length (λb=>cl.getD b 0) nx s (v.map (·.toNat))) false
 | [],s,_=>rfl
 | b::v,s,c=>by
   obtain⟨f,i⟩:=a b.toNat b.toNat_lt;obtain⟨j,_,g,k,_⟩:=(Df e h).2.2.2 s c St[s] (a0a c) _ f i;have d:nx.getD (s*F.length+cl.getD b.toNat 0) 0=j:=by rw[a0x,g];rfl
   rw[tkP,a0m ((a0d.1 g).1),d];simp only[a0E,Up,d];exact aiK e h acc a v j (a0d.1 k).1
theorem an7(ho:tL e)(h:(eu e).1=true)(v:LB) :
 tkP (kZ e).length (yc e) ((eu e).2.1.map λu=>dK (dW (bn e) u)) (eu e).2.2 0 v=true↔Rg e (v.map (·.toNat)):=by
 obtain⟨St,nx,hE⟩:∃St nx,eu e=(true,St,nx):=⟨(eu e).2.1,(eu e).2.2,by rw[<-h]⟩;have a:=hE;have c:=(rF ho).1.1;obtain⟨t,d,i⟩:=aiJ ho h (v.map (·.toNat)) (λb hb=>by obtain⟨x,_,rfl⟩:=a0q.1 hb;exact x.toNat_lt)
 rw[hE]at d |-;rw[aiK c a _ (λb hb=>by obtain⟨f,g,_⟩:=QT (dB e) b hb;refine⟨f,?_⟩;have:=af0 e b hb;unfold clB at this;rw[this];exact g) v 0 (a0d.1 ((Df c a).1)).1]
 have k:Up (kZ e).length (λb=>(yc e).getD b 0) nx 0 (v.map (·.toNat))=Up (kZ e).length (clB e) nx 0 (v.map (·.toNat)):=rfl;rw[k,<-i];simp only[a0x,d,Option.getD_some]
theorem aiL(ho:tL e)(h:(eu e).1=true):(eu e).2.1.length<=40/\(eu e).2.2.length=(eu e).2.1.length*(kZ e).length/\(kZ e).length<=256/\(∀x∈(eu e).2.2,x<(eu e).2.1.length)/\(yc e).length=256/\(∀b,b<256->(yc e).getD b 0<(kZ e).length)/\1<=(eu e).2.1.length:=by
 obtain⟨St,nx,hE⟩:∃St nx,eu e=(true,St,nx):=⟨(eu e).2.1,(eu e).2.2,by rw[<-h]⟩;obtain⟨s1,s2,k,i⟩:=Df ((rF ho).1.1) hE;have hF:(kZ e).length<=256:=(xW (dB e) 256).1;rw[hE];refine⟨k,s2,hF,?_,adN,?_,(a0d.1 s1).1⟩
 .intro x m
  obtain⟨p,n⟩:=a1T m;have g:0<(kZ e).length:=by grind
  have d:p / (kZ e).length<St.length:=by rw[Nat.div_lt_iff_lt_mul g,<-s2];exact (a0d.1 n).1
  have o:p % (kZ e).length<(kZ e).length:=a3i _ g;obtain⟨j,v,t,s,_⟩:=i (p / (kZ e).length) d _ (a0a d) (p % (kZ e).length) _ (a0a o);have:p / (kZ e).length*(kZ e).length+p % (kZ e).length=p:=by rw[a1b];exact Nat.div_add_mod _ _
  rw[this]at t;have a:x=j:=by grind
  rw[a];exact(a0d.1 s).1
 intro b hb;obtain⟨f,q,_⟩:=QT _ _ hb;have:=af0 e b hb;unfold clB at this;rw[this];exact(a0d.1 q).1
def gQ(v:LB):gz:=match fF v with
 | some e=>⟨(kZ e).length,yc e,(eu e).2.1.map λu=>if dK (dW (bn e) u) then 1 else 0,(eu e).2.2⟩
 | none=>⟨0,[],[],[]⟩
theorem VX {v:LB}(h:gH v=0):∃e,fF v=some e/\(eu e).1=true/\dI e<=40:=by grind [gH]
theorem ark(v:LB)(s:v.length<=40):RCP gH gQ v:=by
 intro w;refine(acy v w s).mono ?_;rintro e w' ⟨hF,cs,G,F,rfl,H,E⟩;refine⟨hF,cs,G,F,rfl,λo A D=>?_⟩;obtain⟨x,f,_,_⟩:=VX o;obtain⟨l,k,rfl,hq,B⟩:=E x f o;refine⟨rfl,λn c y m d=>?_⟩;have t:n=0:=by grind
 subst t;simp only[List.getElem?_cons_zero,Option.some.injEq]at m d;subst m d;have q:OW 4 1 w.heap.size w' l (bc (gQ v).acc):=by
  refine⟨?_,λy d=>by obtain⟨_,_,rfl⟩:=a0q.1 d;rfl⟩;have j:(bc (gQ v).acc).flatten=((eu x).2.1.map λu=>dK (dW (bn x) u)).map λb=>Value.bool b:=by
   unfold gQ bc;rw[f];simp only[a2m];rw[<-List.flatMap_def]
   induction (eu x).2.1 with
   | nil=>rfl
   | cons a r i=>simp only[a1i,a0E,i,Function.comp];cases dK (dW (bn x) a)<;>rfl
  rw[j,show(bc (gQ v).acc).length=((eu x).2.1.map λu=>dK (dW (bn x) u)).length by unfold gQ bc;rw[f];simp];exact hq
 have p:OW 3 1 w.heap.size w' k (ic (gQ v).nx):=by
  refine⟨?_,λy d=>by obtain⟨_,_,rfl⟩:=a0q.1 d;rfl⟩;have j:(ic (gQ v).nx).flatten=nv .i64 (eu x).2.2:=by
   unfold gQ ic nv;rw[f];simp only
   induction (eu x).2.2 with
   | nil=>rfl
   | cons a r i=>simp only[a0E,List.flatten_cons,i];rfl
  rw[j,show(ic (gQ v).nx).length=(eu x).2.2.length by unfold gQ ic;rw[f];simp];exact B
 have far:∀{ty:TypeId} {u:Value} {vs:List (List Value)},OW ty 1 w.heap.size w' u vs->∀g,u.ownBlock=some g->g∉A:=by intro ty u vs h g C z;have:=(h.1.lt g C).1;have:=D g z;omega
 refine⟨l,k,?_,q.rw (far q),p.rw (far p)⟩;unfold Lv gQ;rw[f]
structure ab0(N:List Int)(i c:Nat):Prop where
 b:∀j,i<=j->0<=N.getD j (-1)->N.getD j (-1)<c
 d:∀j j',i<=j->j<j'->0<=N.getD j (-1)->0<=N.getD j' (-1)->N.getD j' (-1)<N.getD j (-1)
 s:∀k:Nat,k<c->∃j,i<=j/\N.getD j (-1)=(k:Int)
theorem QU(l:List bX):∀i (R:List Bool) (N:List Int) (c:Nat),i<=l.length->N.length=l.length->ab0 N i c->∃y,ab0 (mG l i R N c) 0 y
 | 0,R,N,c,_,_,h=>⟨c,h⟩
 | i+1,R,N,c,z,u,h=>by
   have f:∀(v:Int) (j:Nat),j≠i->(N.set i v).getD j (-1)=N.getD j (-1):=λv j m=>getD_set_ne _ _ (λe=>m e.symm)
   have p:∀v:Int,(N.set i v).getD i (-1)=v:=λv=>yg _ _ (by omega)
   rw[mG]
   split
   .obtain⟨x,w⟩:∃x,l[i]?=some x:=⟨l[i],a0a (by omega)⟩
    simp only[w];refine QU l i _ (N.set i (c:Int)) (c+1) (by omega) (by simp[u]) ⟨?_,?_,?_⟩
    .intro j m a
     by_cases e:j=i
     .subst e;rw[p];omega
     rw[f _ _ e]at a |-;have:=h.b j (by omega) a;omega
    .intro j n m g a o
     have r:n≠i:=by omega
     rw[f _ _ r]at o |-
     by_cases e:j=i
     .subst e;rw[p]
      exact h.b n (by omega) o
     rw[f _ _ e]at a |-;exact h.d j n (by omega) g a o
    intro k t
    by_cases e:k=c
    .grind
    obtain⟨j,m,q⟩:=h.s k (by omega);exact⟨j,by omega,by rw[f _ _ (by omega)];exact q⟩
   refine QU l i R (N.set i (-1)) c (by omega) (by simp[u]) ⟨?_,?_,?_⟩
   .intro j m a
    by_cases e:j=i
    .grind
    rw[f _ _ e]at a |-;exact h.b j (by omega) a
   .intro j n m g a o
    have r:n≠i:=by omega
    rw[f _ _ r]at o |-
    by_cases e:j=i
    .grind
    rw[f _ _ e]at a |-;exact h.d j n (by omega) g a o
   intro k t;obtain⟨j,m,q⟩:=h.s k t;exact⟨j,by omega,by rw[f _ _ (by omega)];exact q⟩
theorem Mh(l:List bX)(first:Nat):∃c,ab0 (numsOf l first) 0 c:=by
 unfold numsOf;refine QU l l.length _ _ 0 (a0b _) (by simp) ⟨?_,?_,?_⟩
 .grind
 .grind
 intro k a;omega
theorem VY(d:GL l)(first:Nat):∀i (R:List Bool) (N:List Int) (c:Nat),i<=l.length->N.length=l.length->(∀j,first < j->j<i->R.getD j false=false)->(∀j,first < j->i<=j->N.getD j (-1)<0)->∀j,first < j->(mG l i R N c).getD j (-1)<0
 | 0,R,N,c,_,_,_,h=>λj a=>h j a (by omega)
 | i+1,R,N,c,q,g,n,h=>by
   rw[mG]
   split
   .rename_i m
    obtain⟨x,b⟩:∃x,l[i]?=some x:=⟨l[i],a0a (by omega)⟩;have r:i<=first:=by grind
    simp only[b];have k:=d i (by omega);have p:l[i]'(by omega)=x:=by rw[a0a (by omega)]at b;exact Option.some.inj b
    rw[p]at k;refine VY d first i _ _ _ (by omega) (by simp[g]) (λj a f=>by omega) (λj a o=>?_)
    rw[getD_set_ne _ _ (by omega)];exact h j a (by omega)
   refine VY d first i _ _ _ (by omega) (by simp[g]) (λj a f=>n j a (by omega)) (λj a o=>?_)
   by_cases e:j=i
   .grind
   grind
theorem QW(b:GL l)(first:Nat):∀j,first < j->(numsOf l first).getD j (-1)<0:=by
 unfold numsOf;refine VY b first l.length _ _ 0 (a0b _) (by simp) (λj c a=>?_) (λj c a=>?_)
 .grind
 grind
structure Nr(l:List bX)(N:List Int)(i:Nat)(out:List bX):Prop where
 a:∀(j:Nat) (x:bX),i<=j->l[j]?=some x->0<=N.getD j (-1)->out[(N.getD j (-1)).toNat]?=some (y5 N x)
 s:∀k:Nat,k<out.length->∃j,i<=j/\N.getD j (-1)=(k:Int)
 b:∀j,i<=j->0<=N.getD j (-1)->N.getD j (-1)<out.length
theorem Gy(N:List Int)(j:Nat)(h:j<N.length):N.getD j 0=N.getD j (-1):=by simp[List.getD,h]
theorem Dh {N:List Int} {c:Nat}(n:ab0 N 0 c)(t:N.length=l.length):∀i out,i<=l.length->Nr l N i out->Nr l N 0 (nY l N i out)
 | 0,out,_,h=>h
 | i+1,out,z,h=>by
   rw[nY,Gy N i (by omega)]
   split
   .rename_i B
    refine Dh n t i out (by omega) ⟨?_,?_,?_⟩
    .intro j x m q g
     by_cases e:j=i
     .subst e;omega
     exact h.a j x (by omega) q g
    .intro k o
     obtain⟨j,m,f⟩:=h.s k o;exact⟨j,by omega,f⟩
    intro j m g
    by_cases e:j=i
    .subst e;omega
    exact h.b j (by omega) g
   rename_i A
   obtain⟨x,q⟩:∃x,l[i]?=some x:=⟨l[i],a0a (by omega)⟩;simp only[q];have g:0<=N.getD i (-1):=by omega
   have hlen:N.getD i (-1)=(out.length:Int):=by
    rcases Int.lt_trichotomy (N.getD i (-1)) (out.length:Int) with r|r|r
    .obtain⟨k,o⟩:=a2L g
     obtain⟨j,m,f⟩:=h.s k (by omega);have:=n.d i j (by omega) (by omega) g (by rw[f];omega);omega
    .exact r
    obtain⟨j,_,f⟩:=n.s out.length (by have:=n.b i (by omega) g;omega);rcases Nat.lt_trichotomy j i with e|e|e
    .have:=n.d j i (by omega) e (by rw[f];omega) g
     omega
    .subst e;omega
    have:=h.b j (by omega) (by rw[f];omega);omega
   refine Dh n t i _ (by omega) ⟨?_,?_,?_⟩
   .intro j y m v p
    by_cases e:j=i
    .grind
    have u:=h.a j y (by omega) v p;have w:=(a0d.1 u).1;rw[a0s w];exact u
   .intro k o
    simp at o
    by_cases e:k=out.length
    .grind
    obtain⟨j,m,f⟩:=h.s k (by omega);exact⟨j,by omega,f⟩
   intro j m p;simp only[a0p,a0X]
   by_cases e:j=i
   .subst e;omega
   have:=h.b j (by omega) p;omega
def GXi(nr nt:Nat)(x:bX):Prop:=(x.op=0/\x.x=0/\x.a=0/\x.b=0)\/(x.op=1/\x.x<nr/\x.b=0)\/(x.op=2/\x.x<nt)
def Mi(nr nt:Nat)(l:List bX):Prop:=∀x∈l,GXi nr nt x
theorem Mi.snoc {x:bX}(h:Mi nr nt l)(b:GXi nr nt x):Mi nr nt (l++[x]):=by
 intro y a;rcases a0e.1 a with a|a
 .exact h y a
 grind
def QY(h:Mi nr nt l)(y n:Nat):∀q:List (Nat × Bool),(∀c∈q,c.1<nt)->Mi nr nt (bR q y n l).2
 | [],_=>h
 | c::r,hq=>by
   rw[bR];refine(QY h y n r (λx a=>hq x (by simp[a]))).snoc ?_;have:=hq c (by simp)
   split<;>exact .inr (.inr ⟨rfl,this⟩)
theorem XD {q:List (List (Nat × Bool))}(hq:∀x∈q,∀c∈x,c.1<nt)(k:Nat):∀c∈q.getD k [],c.1<nt:=by grind
def aiM {rec:Nat->Nat->List bX->Nat × List bX}(a:LN)(b:∀c∈a,∀d l,Mi nr nt l->Mi nr nt (rec c d l).2)(C:List CR) {q:List (List (Nat × Bool))}(hq:∀x∈q,∀c∈x,c.1<nt)(d:Nat)(h:Mi nr nt l):∀K:LN,(∀c∈K,c∈a)->Mi nr nt (ji rec C q d l K).2.2
 | [],_=>h
 | c::r,e=>by rw[ji];exact QY (b c (e c (by simp)) _ _ (aiM a b C hq d h r (λx f=>e x (by simp[f])))) _ _ _ (XD hq c)
def aiN {q:List (List (Nat × Bool))}(hq:∀x∈q,∀c∈x,c.1<nt)(first:Nat)(h:Mi nr nt l):∀Z:List (Nat × Nat),Mi nr nt (lS q first l Z).2
 | []=>h
 | z::r=>by rw[lS];exact QY (aiN hq first h r) _ _ _ (XD hq z.1)
def ab1(C:List CR) {q:List (List (Nat × Bool))}(hq:∀x∈q,∀c∈x,c.1<nt):∀f r d l,r<C.length->Mi C.length nt l->Mi C.length nt (ig C q f r d l).2
 | 0,_,_,_,_,h=>h
 | f+1,r,d,l,b,h=>by rw[ig];refine aiN hq _ (Mi.snoc ?_ (.inr (.inl ⟨rfl,b,rfl⟩))) _;refine aiM (kids C r) (λc a d l e=>ab1 C hq f c d l ?_ e) C hq d h (kids C r) (λc a=>a);unfold kids at a;rw[List.mem_filter,a2b]at a;exact a.1
theorem an8(i:GL l)(w:Mi nr nt l){first:Nat}(E:first < l.length):∀k (h:k<(mH l first).length),stands nr nt (mH l first).length k (mH l first)[k]=true:=by
 obtain⟨c,q⟩:=Mh _ _
 have hlen:=Eh l first
 have u:=IY i first
 have B:=QW i first
 have n:Nr l (numsOf l first) 0 (mH l first):=by
  refine Dh q hlen (first + 1) [] (by omega) ⟨λj x m _ f=>?_,λk g=>by simp at g,λj m f=>?_⟩
  .grind
  grind
 generalize numsOf l first=N at *
 generalize mH l first=out at *
 intro k g;obtain⟨j,_,v⟩:=n.s k g;have m:j<N.length:=by grind
 have p:l[j]?=some l[j]:=a0a (by omega);have ho:=n.a j _ (by omega) p (by omega);rw[v,a2A,a0a g]at ho;rw[Option.some.inj ho];have z:=i j (by omega);have r:=w l[j] (a0u _);obtain⟨s1,s2⟩:=u j _ p (by rw[Gy _ _ m];omega);generalize l[j]=y at *;obtain⟨op,C,a,b⟩:=y;simp only[GXi]at r;simp only at z s1 s2;have e:∀t,t<j->0<=N.getD t 0->k<(N.getD t 0).toNat/\(N.getD t 0).toNat<out.length:=by intro t ht f;rw[Gy _ _ (by omega)]at f |-;have o:=q.d t j (by omega) ht f (by omega);have F:=n.b t (by omega) f;omega
 rcases r with⟨rfl,rfl,rfl,rfl⟩|⟨rfl,o,rfl⟩|⟨rfl,o⟩
 .simp[y5,stands]
 .grind [y5,stands]
 have A:=e a (by omega) (s1 (by omega));have hb:=e b (by omega) (s2 rfl);simp only[y5,stands];generalize (N.getD a 0).toNat=D at *;generalize (N.getD b 0).toNat=tb at *;simp[o,A,hb]
def Gz:∀(n:Nat) (l:LN),l.Nodup->(∀x∈l,x<n)->l.length<=n
 | 0,l,_,h=>by
   cases l with
   | nil=>simp
   | cons a r=>have:=h a (by simp);omega
 | n+1,l,hd,h=>by
   by_cases c:n∈l
   .have d:=Gz n (l.erase n) (hd.erase n) (λx b=>by
     have g:=h x (List.mem_of_mem_erase b);have f:x≠n:=λe=>by subst e;exact hd.not_mem_erase b
     omega)
    rw[List.length_erase_of_mem c]at d;omega
   have d:=Gz n l hd (λx b=>by
    have g:=h x b;have f:x≠n:=λe=>by subst e;exact c b
    omega)
   omega
theorem Jd(y n:Nat)(l:List bX):∀q:List (Nat × Bool),(bR q y n l).2.length=l.length+q.length
 | []=>rfl
 | c::r=>by simp[bR,Jd y n l r];omega
def GA(C:List CR)(q:List (List (Nat × Bool))):Nat->Nat->Nat
 | 0,_=>0
 | f+1,r=>1+((kids C r).map λc=>GA C q f c+2*(q.getD c []).length).sum
def aeB {rec:Nat->Nat->List bX->Nat × List bX} {g:Nat->Nat}(a:∀c d l,(rec c d l).2.length=l.length+g c)(C:List CR)(q:List (List (Nat × Bool)))(d:Nat)(l:List bX):∀K:LN,(ji rec C q d l K).2.2.length=l.length+(K.map λc=>g c+(q.getD c []).length).sum/\(ji rec C q d l K).2.1.length=K.length
 | []=>⟨by simp[ji],rfl⟩
 | c::r=>by obtain⟨e,b⟩:=aeB a C q d l r;rw[ji];refine⟨?_,by simp[b]⟩;show(bR _ _ _ _).2.length=_;rw[Jd,a,e];simp only[a0E,a0Y];omega
theorem aeC(q:List (List (Nat × Bool)))(first:Nat)(l:List bX):∀(K a:LN),a.length=K.length->(lS q first l (K.zip a)).2.length=l.length+(K.map λc=>(q.getD c []).length).sum
 | [],_,_=>by simp[lS]
 | c::r,[],h=>by simp at h
 | c::r,b::a,h=>by
   have d:=aeC q first l r a (by simpa using h)
   rw[List.zip_cons_cons,lS,Jd,d];simp only[a0E,a0Y];omega
theorem VZ(f g:Nat->Nat):∀K:LN,(K.map f).sum+(K.map g).sum=(K.map λc=>f c+g c).sum
 | []=>rfl
 | c::r=>by have:=VZ f g r;simp only[a0E,a0Y];omega
theorem aeD(C:List CR)(q:List (List (Nat × Bool))):∀f r d l,(ig C q f r d l).2.length=l.length+GA C q f r
 | 0,_,_,l=>by simp[ig,GA]
 | f+1,r,d,l=>by
   obtain⟨g,e⟩:=aeB (aeD C q f) C q d l (kids C r);rw[ig];generalize ji (ig C q f) C q d l (kids C r)=x at *;show(lS _ _ _ _).2.length=_;rw[aeC q _ _ (kids C r) x.2.1 e,a0p,g,GA];have b:=VZ (λc=>GA C q f c+(q.getD c []).length) (λc=>(q.getD c []).length) (kids C r);have a:(kids C r).map (λc=>GA C q f c+2*(q.getD c []).length)=(kids C r).map λc=>GA C q f c+(q.getD c []).length+(q.getD c []).length:=by congr 1;funext c;omega
   rw[a,<-b];simp only[a0X];omega
def XE(C:List CR)(r:Nat):(kids C r).Nodup:=by unfold kids;exact List.Pairwise.filter _ List.nodup_range
theorem kX {C:List CR} {r c:Nat}(h:c∈kids C r):c<C.length/\par C c=some r:=by grind [kids]
def Uq(C:List CR)(K:LN)(h:K.Nodup):(K.flatMap (kids C)).Nodup:=by unfold List.Nodup at *;rw[List.pairwise_flatMap];refine⟨λa _=>XE C a,h.imp ?_⟩;intro a b d x g y f e;subst e;have i:=(kX g).2;have c:=(kX f).2;rw[i]at c;exact d (Option.some.inj c)
def af1(f:Nat->Nat)(m:Nat):∀K:LN,(∀c∈K,f c<=m)->(K.map f).sum<=K.length*m
 | [],_=>by simp
 | c::r,h=>by have d:=af1 f m r (λx a=>h x (by simp[a]));have b:=h c (by simp);simp only[a0E,a0Y,a0r,a0J];omega
theorem ab2(C:List CR)(g:Nat->Nat):∀K:LN,(K.map λr=>1+((kids C r).map g).sum).sum=K.length+((K.flatMap (kids C)).map g).sum
 | []=>rfl
 | c::r=>by have:=ab2 C g r;simp only[a0E,a0Y,a1i,a0P,a1Y,a0r];omega
theorem aiO {C:List CR}(hC:C.length<=16) {q:List (List (Nat × Bool))}(hq:∀x∈q,x.length<=4):∀(f:Nat) (K:LN),K.Nodup->(∀c∈K,c<C.length)->(K.map (GA C q f)).sum<=f*144
 | 0,K,_,_=>by have:=af1 (GA C q 0) 0 K (λc _=>by simp[GA]);simpa using this
 | f+1,K,hd,d=>by
   have k:=aiO hC hq f (K.flatMap (kids C)) (Uq C K hd) (λc a=>by obtain⟨r,_,b⟩:=a1l.1 a;exact(kX b).1)
   have i:=Gz C.length K hd d;have g:=Gz C.length (K.flatMap (kids C)) (Uq C K hd) (λc a=>by obtain⟨r,_,b⟩:=a1l.1 a;exact(kX b).1)
   have e:(K.map (GA C q (f+1)))=K.map λr=>1+((kids C r).map λc=>GA C q f c+2*(q.getD c []).length).sum:=rfl
   rw[e,ab2 C (λc=>GA C q f c+2*(q.getD c []).length),<-VZ];have j:=af1 (λc=>2*(q.getD c []).length) 8 (K.flatMap (kids C)) (λc _=>by
    by_cases h:c<q.length
    .grind
    simp[List.getD,h])
   rw[a0J];omega
def aiP {C:List CR}(hC:C.length<=16)(a:0<C.length) {q:List (List (Nat × Bool))}(hq:∀x∈q,x.length<=4):(ig C q 6 0 0 [⟨0,0,0,0⟩]).2.length<=865:=by rw[aeD];have:=aiO hC hq 6 [0] (by simp) (by simpa using a);simp at this |-;omega
end
section
variable {l:List bX} {cap d i j n nr r y:Nat} {t:LB} {L:List LB} {s s1:CS} {m:CM} {α:Type} {w:World} {a:Act} {e:RX} {ops:Array Oper} {rest:List Oper} {x:LB} {v z:Value}
def Mj(l:List bX)(first:Nat):∀i (R:List Bool) (N:List Int) (c:Nat),i<=first->0<=N.getD first (-1)->0<=(mG l i R N c).getD first (-1)
 | 0,R,N,c,_,h=>h
 | i+1,R,N,c,a,h=>by
   rw[mG]
   split
   .split
    .exact Mj l first i _ _ _ (by omega) (by rw[getD_set_ne _ _ (by omega)];exact h)
    exact h
   exact Mj l first i _ _ _ (by omega) (by rw[getD_set_ne _ _ (by omega)];exact h)
theorem Bp(l:List bX)(first:Nat)(b:first < l.length):∀i (R:List Bool) (N:List Int) (c:Nat),first < i->i<=l.length->N.length=l.length->R.length=l.length->R.getD first false=true->0<=(mG l i R N c).getD first (-1)
 | 0,R,N,c,h,_,_,_,_=>by omega
 | i+1,R,N,c,h,g,f,a,d=>by
   rw[mG]
   by_cases e:first=i
   .subst e
    rw[a0m d,a0a b];exact Mj l first first _ _ _ (a0b _) (by rw[yg _ _ (by omega)];omega)
   split
   .rw[a0a (by omega)]
    refine Bp l first b i _ _ _ (by omega) (by omega) (by simp[f]) (by split;exact a;split;simp[a];simp[a]) ?_
    split
    .exact d
    grind
   exact Bp l first b i _ _ _ (by omega) (by omega) (by simp[f]) a d
theorem QZ(l:List bX)(N:List Int):∀i out,(nY l N i out).length<=out.length+i
 | 0,out=>by simp[nY]
 | i+1,out=>by
   rw[nY]
   split
   .have:=QZ l N i out;omega
   split
   .rename_i x _
    have:=QZ l N i (out++[y5 N x]);simp only[a0p,a0X]at this;refine a0h this (by omega)
   omega
theorem akP(e:GL l){first:Nat}(a:first < l.length):1<=(mH l first).length/\(mH l first).length<=l.length:=by
 refine⟨?_,?_⟩
 .obtain⟨c,i⟩:=Mh l first
  have hlen:=Eh l first
  have m:=QW e first
  have d:0<=(numsOf l first).getD first (-1):=by unfold numsOf;exact Bp l first a l.length _ _ 0 a (a0b _) (by simp) (by simp) (yg _ _ (by simpa using a))
  have h:Nr l (numsOf l first) 0 (mH l first):=by
   refine Dh i hlen (first + 1) [] (by omega) ⟨λj x g _ d=>?_,λk f=>by simp at f,λj g d=>?_⟩
   .grind
   grind
  have:=h.b first (by omega) d
  omega
 grind [QZ,numsOf,mH]
def Steps(C:List CR):Prop:=(∀c,C[0]?=some c->c.d=0/\c.rc≠[45])/\∀(i:Nat) (a b:CR),C[i]?=some a->C[i+1]?=some b->1<=b.d/\b.d<=a.d+1
theorem Pg:∀(C:List CR) (i:Nat) (e:Nat),lD C i e=0->(∀c,C[0]?=some c->(i=0->c.d=0/\c.rc≠[45])/\(i≠0->1<=c.d/\c.d<=e+1))/\∀(k:Nat) (a b:CR),C[k]?=some a->C[k+1]?=some b->1<=b.d/\b.d<=a.d+1
 | [],i,e,_=>⟨by simp,by simp⟩
 | c::r,i,e,h=>by
   unfold lD at h;cases hb:(!(if (i==0)=true then nW c else jN c.d e)||decide (16<=i))
   .rw[hb]at h
    simp only[a0A,a0I]at h;have f:(if (i==0)=true then nW c else jN c.d e)=true:=by grind
    obtain⟨n,m⟩:=Pg r (i+1) c.d h;refine⟨λx j=>?_,λk a b l g=>?_⟩
    .grind [nW,jN]
    grind
   rw[hb]at h;simp at h
theorem ab3 {C:List CR}(h:Steps C):∀(i:Nat) (c:CR),C[i]?=some c->∀e,e<=c.d->∃j x,j<=i/\C[j]?=some x/\x.d=e
 | 0,c,a,e,he=>by have:=(h.1 c a).1;exact⟨0,c,a0b _,a,by omega⟩
 | i+1,c,a,e,he=>by
   by_cases m:e=c.d
   .grind
   have f:i<C.length:=by have:=(a0d.1 a).1;omega
   have l:=(h.2 i C[i] c (a0a f) a).2;obtain⟨j,x,k,g,b⟩:=ab3 h i C[i] (a0a f) e (by omega);exact⟨j,x,by omega,g,b⟩
theorem aeE {C:List CR}:∀(i j:Nat) (x:CR),j<i->C[j]?=some x->x.d+1=d->∃p,nQ C d i=some p
 | 0,j,x,h,_,_=>by omega
 | i+1,j,x,h,b,hd=>by
   rw[nQ]
   by_cases e:(C[i]?.map λc=>c.d+1)=some d
   .rw[a0m e];exact⟨i,rfl⟩
   rw[a0n e];refine aeE i j x ?_ b hd;rcases a2a j i with a|a
   .exact a
   grind
def asS {C:List CR}(h:Steps C)(i:Nat)(a:i+1<C.length):∃p,par C (i+1)=some p:=by unfold par;rw[a0a a];have f:=h.2 i C[i] C[i+1] (a0a (by omega)) (a0a a);obtain⟨j,x,e,c,b⟩:=ab3 h i C[i] (a0a (by omega)) (C[i+1].d-1) (by omega);exact aeE (i+1) j x (by omega) c (by omega)
structure Ph(s:CS):Prop where
 n:∀x∈s.n,Bo x
 c:∀x∈s.c,x.length<41
 a:∀x∈s.a,wC x
 xa:s.x.length=s.a.length
 t:∀t∈s.t,Lu s.n.length s.c.length s.a.length t
 q:∀l∈s.q,∀c∈l,c.1<s.t.length
 ql:∀l∈s.q,l.length<=4
theorem Lu.mono {d f g a b c:Nat} {t:jd}(h:Lu d f g t)(l:d<=a)(j:f<=b)(i:g<=c):Lu a b c t:=by
 refine⟨by have:=h.n;omega,h.k,?_⟩;have:=h.x
 split<;>rename_i e<;>simp only[e,a0G,a0I]at this<;>omega
def aiQ(L:List LB)(x:LB):L.length<=(l9 L x).length:=by unfold l9;split<;>simp
theorem aiR(L:List jd)(x:jd):L.length<=(pE L x).length:=by unfold pE;split<;>simp
theorem Za:iL L x<(l9 L x).length:=by grind [Eg,l9]
theorem asT{L:List jd}(x:jd):C6 L x<(pE L x).length:=by grind [alT,pE]
theorem aeF {x y:LB}(h:y∈l9 L x):y∈L\/y=x:=by grind [l9]
theorem V5 {L:List jd} {x y:jd}(h:y∈pE L x):y∈L\/y=x:=by grind [pE]
theorem aeG {re:LB->Nat} {bI:LB->gz}(p:∀v,re v=0->wC (bI v)) {t:jd}(h:Ph s)(i:Qf m)(he:nP re bI s m=some (t,s1)) :
 Ph { s1 with t:=pE s1.t t }/\s1.t=s.t/\s1.q=s.q:=by
 have g:=aiQ s.n m.1;have j:=aiQ s.c m.2.2;have on:∀x∈l9 s.n m.1,Bo x:=λx d=>by
  rcases aeF d with e|rfl
  .exact h.n x e
  exact⟨by have:=xO i.name;omega,i.name⟩
 have k:∀x∈l9 s.c m.2.2,x.length<41:=λx d=>by
  rcases aeF d with e|rfl
  .exact h.c x e
  have:=i.val;omega
 have f:∀t,∀l∈s.q,∀c∈l,c.1<(pE s.t t).length:=λt l o c j=>by have:=h.q l o c j;have:=aiR s.t t;omega
 unfold nP at he
 split at he
 .split at he
  .rename_i d
   cases he
   refine⟨⟨on,h.c,h.a,h.xa,λy b=>?_,f _,h.ql⟩,rfl,rfl⟩;rcases V5 b with e|rfl
   .exact(h.t y e).mono g (a0b _) (a0b _)
   exact⟨Za,by simp,by simp only[a0G];rw[<-h.xa];exact d⟩
  rename_i d
  split at he
  .rename_i r
   cases he
   refine⟨⟨on,h.c,λy b=>?_,by simp[h.xa],λy b=>?_,f _,h.ql⟩,rfl,rfl⟩
   .rcases a0e.1 b with e|e
    .exact h.a y e
    rw[a0w.1 e];exact p _ r
   rcases V5 b with e|rfl
   .exact(h.t y e).mono g (a0b _) (by simp)
   exact⟨Za,by simp,by simp only[a0G,a0p,a0X];have:=Eg s.x m.2.2;have:=h.xa;omega⟩
  cases he
 cases he
 refine⟨⟨on,k,h.a,h.xa,λy b=>?_,f _,h.ql⟩,rfl,rfl⟩;rcases V5 b with e|rfl
 .exact(h.t y e).mono g j (a0b _)
 exact⟨Za,by simp,by simp only[Nat.zero_ne_one,a0I];exact Za⟩
theorem ab4 {re:LB->Nat} {bI:LB->gz}(ha:∀v,re v=0->wC (bI v)):∀(M:List CM) (s:CS) (acc:List (Nat × Bool)) {l:List (Nat × Bool)} {s1:CS},Ph s->(∀m∈M,Qf m)->(∀c∈acc,c.1<s.t.length)->nu re bI s acc M=.ok (l,s1)->Ph s1/\(∀c∈l,c.1<s1.t.length)/\l.length=acc.length+M.length
 | [],s,acc,l,s1,h,_,h2,e=>by grind [nu]
 | m::r,s,acc,l,s1,h,hM,h2,e=>by
   rw[nu]at e
   split at e
   ·cases e
   rename_i t s2 ht
   obtain⟨g1,g2,g3⟩:=aeG ha h (hM m (by simp)) ht;obtain⟨k1,k2,k3⟩:=ab4 ha r _ _ g1 (λx hx=>hM x (by simp[hx])) (λc hc=>by
    rcases a0e.1 hc with e1|e1
    ·grind [aiR,pE]
    rw[a0w.1 e1];exact asT _) e
   exact⟨k1,k2,by rw[k3];simp;omega⟩
theorem aeH {re:LB->Nat} {bI:LB->gz}:∀(M:List CM) (s:CS) (acc:List (Nat × Bool)) {l:List (Nat × Bool)} {s1:CS},nu re bI s acc M=.ok (l,s1)->s1.q=s.q
 | [],s,acc,l,s1,e=>by grind [nu]
 | m::r,s,acc,l,s1,e=>by
   rw[nu]at e
   split at e
   .cases e
   rename_i t s2 ht
   rw[aeH r _ _ e];unfold nP at ht
   split at ht
   .grind
   cases ht;rfl
theorem V7 {re:LB->Nat} {bI:LB->gz}(ha:∀v,re v=0->wC (bI v)):∀(C:List CR) (s:CS) (i k:Nat) {s1:CS},Ph s->CSB s k->(∀c∈C,xN c)->pread re bI s i C=.ok s1->Ph s1/\CSB s1 (k+4*C.length)/\s1.q.length=s.q.length+C.length
 | [],s,i,k,s1,h,hb,_,e=>by simp_all[pread,hb]
 | c::r,s,i,k,s1,h,hb,hC,e=>by
   rw[pread]at e;have hc:=hC c (by simp)
   split at e
   ·cases e
   rename_i l s2 hl
   obtain⟨g1,g2,g3⟩:=ab4 ha c.ifs s [] h hc.ifs (by simp) hl;obtain⟨b1,b2,b3⟩:=abV c.ifs s [] k hb hl;have jc:=hc.ifl;simp at g3;have b4:CSB { s2 with q:=s2.q++[l] } (k+4):=⟨by have:=b1.n;simp only;omega,by have:=b1.c;simp only;omega,by have:=b1.x;simp only;omega,by have:=b1.a;simp only;omega,by have:=b1.t;simp only;omega⟩;obtain⟨k1,k2,k3⟩:=V7 ha r { s2 with q:=s2.q++[l] } (i+1) (k+4) ⟨g1.n,g1.c,g1.a,g1.xa,g1.t,λx hx=>by
    rcases a0e.1 hx with e1|e1
    ·exact g1.q x e1
    ·rw[a0w.1 e1];exact g2,λx hx=>by
    rcases a0e.1 hx with e1|e1
    ·exact g1.ql x e1
    rw[a0w.1 e1];omega⟩ b4 (λx hx=>hC x (by simp[hx])) e
   refine⟨k1,?_,?_⟩
   ·grind
   rw[k3];simp[b2];omega
def af2 {x:Int}(h:-1<=x/\x<=99999)(a:y<100000):uk x y<100000:=by unfold uk;split<;>omega
def aiS {a:kN} {c:CR}(b:xN c)(h:afH a\/c.rc≠[45])(hb:a.bl.length<5/\(∀n∈a.bl,Bo n)/\a.wt<100000/\a.ev<100000/\a.rp<100000):afH (ny a c):=by
 have on:∀n,aJ n=true->Bo n:=λn d=>⟨by have:=xO d;omega,d⟩
 refine⟨?_,?_,?_,af2 b.wt hb.2.2.1,af2 b.ev hb.2.2.2.1,af2 b.rp hb.2.2.2.2⟩
 .show Bo (if c.rc == [45] then a.rc else c.rc)
  by_cases e:c.rc=[45]
  .rw[a0m (by simp[e])]
   rcases h with h|h
   .exact h.rc
   exact absurd e h
  rw[a0n (by simp[e])];exact on _ (b.rc.resolve_left e)
 .show(if c.tb then c.jM else a.bl).length<5
  split
  .have:=b.byl;omega
  exact hb.1
 show ∀n∈(if c.tb then c.jM else a.bl),Bo n
 split
 .exact λn d=>on n (b.jM n d)
 exact hb.2.1
theorem aeI {C:List CR}(a:Steps C)(f:∀c∈C,xN c):∀i,i<=C.length->∀h∈fD C i,afH h
 | 0,_=>by simp[fD]
 | i+1,m=>by
   intro h hh;rw[fD]at hh;have d:=aeI a f i (by omega);rcases a0e.1 hh with e|e
   .exact d h e
   rw[a0a (by omega)]at e;have e:=a0w.1 e;subst e;have g:=f C[i] (a0u _);cases i with
   | zero =>
     have k:=(a.1 C[0] (a0a (by omega))).2;refine aiS g (.inr k) ?_;unfold uK;have:par C 0=none:=by
      cases b:par C 0 with
      | none=>rfl
      | some p=>exact absurd (En b) (by omega)
     rw[this];simp[lQ]
   | succ i =>
     obtain⟨p,b⟩:=asS a i (by omega);have l:=En b;have j:uK C (fD C (i+1)) (i+1)∈fD C (i+1):=by grind [uK,ry]
     have ho:=d _ j;exact aiS g (.inl ho) ⟨ho.b1,ho.b2,ho.wt,ho.ev,ho.rp⟩
theorem Ur {C:List CR}(h:jH t=.ok (L,C)):Steps C:=by
 have h0:=(pI h).2.1;unfold jH at h
 split at h
 ·cases h
 split at h
 ·cases h
 split at h
 ·cases h
 rename_i L' C' _ h1
 split at h
 ·cases h
 cases h
 have h2:lD C 0 ((0:Nat):Int)=0:=by
  have:iX C=lD C 0 0:=by unfold iX;rw[a0n];cases C with | nil=>simp at h0|cons=>simp
  have e:lD C 0 0=0:=by omega
  exact e
 obtain⟨g1,g2⟩:=Pg C 0 0 h2;exact⟨λc hc=>(g1 c hc).1 rfl,g2⟩
theorem asU {re:LB->Nat} {bI:LB->gz}(ha:∀v,re v=0->wC (bI v)) {C:List CR}(ht:t.length<=1048576)(h:jH t=.ok (L,C))(hp:pread re bI lT 0 C=.ok s):MOK (iZ C s):=by
 obtain⟨h1,h2,h3,h4⟩:=pI h;have hg:=(qT t L C ht h1).2.2;obtain⟨k1,k2,k3⟩:=V7 ha C lT 0 0 ⟨by simp[lT],by simp[lT],by simp[lT],rfl,by simp[lT],by simp[lT],by simp[lT]⟩ ⟨by simp[lT],by simp[lT],by simp[lT],by simp[lT],by simp[lT]⟩ hg hp;have dY:=Ur h;refine⟨⟨by have:=k2.n;show s.n.length<256;omega,k1.n⟩,⟨by have:=k2.c;show s.c.length<256;omega,k1.c⟩,⟨by have:=k2.a;show s.a.length<256;omega,k1.a⟩,⟨by have:=k2.t;show s.t.length<256;omega,k1.t⟩,⟨by show(fD C C.length).length<17;rw[ry];omega,aeI dY hg C.length (a0b _)⟩,?_⟩;have bJ:C.isEmpty=false:=by cases C with | nil=>simp at h2|cons=>rfl
 have IU:GL [⟨0,0,0,0⟩]:=by
  intro i hi;simp at hi;subst hi;exact .inl rfl
 obtain⟨r1,r2,r3⟩:=C9 C s.q 6 0 0 [⟨0,0,0,0⟩] IU (by simp);have r4:=ab1 C (nt:=s.t.length) k1.q 6 0 0 [⟨0,0,0,0⟩] h2 (by intro x hx;rw[a0w.1 hx];exact .inl ⟨rfl,rfl,rfl,rfl⟩);have r5:=aiP h3 h2 k1.ql;have e1:(iZ C s).code=mH (ig C s.q 6 0 0 [⟨0,0,0,0⟩]).2 (ig C s.q 6 0 0 [⟨0,0,0,0⟩]).1:=by
  show C8 C s.q=_;unfold C8;rw[bJ];rfl
 have e2:(iZ C s).routes.length=C.length:=ry C C.length;have e3:(iZ C s).tests.length=s.t.length:=rfl;rw[e1,e2,e3];obtain⟨t1,t2⟩:=akP r1 r2;refine⟨t1,by omega,λj hj=>?_⟩;have JG:=k2.t;have hs:=an8 r1 r4 r2 j hj;generalize hx:(mH (ig C s.q 6 0 0 [⟨0,0,0,0⟩]).2 (ig C s.q 6 0 0 [⟨0,0,0,0⟩]).1)[j]=x at hs |-;clear hx;generalize (mH (ig C s.q 6 0 0 [⟨0,0,0,0⟩]).2 (ig C s.q 6 0 0 [⟨0,0,0,0⟩]).1).length=N at *;have hs0:=hs;unfold stands at hs
 split at hs
 ·rename_i e;simp at hs;exact⟨hs0,by omega,by omega,by omega,by omega⟩
 ·rename_i e;simp at hs;exact⟨hs0,by omega,by omega,by omega,by omega⟩
 ·rename_i e;simp at hs;exact⟨hs0,by omega,by omega,by omega,by omega⟩
 cases hs
theorem ab5(v:LB)(h:gH v=0):wC (gQ v):=by
 obtain⟨e,he,l,_⟩:=VX h;obtain⟨s1,s2,j,i,d,a,g⟩:=aiL (mQ he).1 l;have m:=a 0 (by omega);have k:gQ v=⟨(kZ e).length,yc e,(eu e).2.1.map λu=>if dK (dW (bn e) u) then 1 else 0,(eu e).2.2⟩:=by unfold gQ;rw[he]
 rw[k];generalize kZ e=F at *;generalize yc e=K at *;generalize eu e=A at *;refine⟨by simpa using g,by simpa using s1,by show 1<=F.length;omega,j,d,λc f=>?_,λc f=>?_,by simpa using s2,by simpa using i⟩
 .obtain⟨b,hb,rfl⟩:=List.getElem_of_mem f
  have:=a b (by simp only[d]at hb;exact hb);rw[a0x,a0a hb]at this;exact this
 grind
def CMQ(t:LB)(w:World)(e:Ending)(w':World):Prop :=
 aB [] w w'/\(((pJ gH t).1≠0/\e=zQ #[.pointer none,zI ((pJ gH t).1:Nat),zI ((pJ gH t).2:Nat)]) \/
 (∃L C s V pb,pJ gH t=(0,0)/\jH t=.ok (L,C)/\pread gH gQ lT 0 C=.ok s/\e=zQ #[zP pb,zI 0,zI 0]/\PR [] w' pb V (iZ C s)/\MOK (iZ C s)/\w.heap.size<=pb))
def af3(t:LB)(w:World)(ht:t.length<=1048576):zF 14 #[zT t] w (CMQ t w):=by
 refine(acA gH gQ t w ht (λL C h c g m f _=>ark _ ?_)).mono ?_
 .have a:=(pI h).1
  exact((qT t L C ht a).2.2 c g).ifs m f |>.val
 rintro e w' ⟨hF,h|⟨L,C,s,V,pb,a,d,b,rfl,k,j,i⟩⟩
 .exact⟨hF,.inl h⟩
 exact⟨hF,.inr ⟨L,C,s,V,pb,a,d,b,rfl,⟨k,j,by simp⟩,asU ab5 ht d b,i⟩⟩
def Us(T:Nat->Bool)(l:List bX):Nat->Nat->LN
 | 0,_=>[]
 | n+1,i=>match l[i]? with
   | some c=>match c.op with
     | 0=>[]
     | 1=>c.x::Us T l n c.a
     | _=>Us T l n (if T c.x then c.a else c.b)
   | none=>[]
def rl(T:Nat->Bool)(l:List bX)(i:Nat):LN:=Us T l (i+1) i
theorem ab6(T:Nat->Bool)(e:GL l):∀n i,i<n->Us T l n i=rl T l i:=by
 intro n
 induction n using Nat.strongRecOn with
 | ind n j =>
   intro i p;obtain⟨m,rfl⟩:∃m,n=m+1:=⟨n-1,by omega⟩;have key:∀k,i<=k->k<=m->Us T l (k+1) i=(match l[i]? with
    | some c=>match c.op with
      | 0=>[]
      | 1=>c.x::rl T l c.a
      | _=>rl T l (if T c.x then c.a else c.b)
    | none=>[]):=by
    intro k o f;rw[Us]
    by_cases h:i<l.length
    .rw[a0a h]
     have d:=e i h;generalize l[i]=c at *;obtain⟨op,x,a,b⟩:=c;simp only at d |-;rcases d with rfl|⟨rfl,g⟩|⟨rfl,g,q⟩
     .rfl
     .grind
     grind
    grind
   rw[key m (by omega) (a0b _)];unfold rl;rw[key i (a0b _) (by omega)]
   rfl
theorem ab7(T:Nat->Bool)(f:GL l) {c:bX}(e:l[i]?=some c):rl T l i=if c.op=0 then [] else if c.op=1 then c.x::rl T l c.a else rl T l (if T c.x then c.a else c.b):=by
 obtain⟨h,rfl⟩:=a0d.1 e;have d:=f i h;rw[rl,Us,e];generalize l[i]=c at *;obtain⟨op,x,a,b⟩:=c;simp only at d |-;rcases d with rfl|⟨rfl,g⟩|⟨rfl,g,j⟩
 .rfl
 .grind [Us,rl,ab6]
 grind [Us,rl,ab6]
theorem zm(T:Nat->Bool){c:List bX}(a:GL c)(g:l <+: c):∀i,i<l.length->rl T c i=rl T l i:=by
 obtain⟨s,rfl⟩:=g;have d:GL l:=λi b=>by have:=a i (by simp;omega);rwa [List.getElem_append_left b]at this
 intro i
 induction i using Nat.strongRecOn with
 | ind i h =>
   intro b;have e:(l++s)[i]?=l[i]?:=a0s b;have f:=a0a b;rw[ab7 T a (e.trans f),ab7 T d f];have j:=d i b
   split
   .rfl
   grind
def allT(T:Nat->Bool)(q:List (Nat × Bool)):Bool:=q.all λc=>T c.1==c.2
def Eo(y n:Nat)(l:List bX):∀q:List (Nat × Bool),l <+: (bR q y n l).2
 | []=>a0N _
 | c::r=>by rw[bR];exact(Eo y n l r).trans (a1t _ _)
theorem Mk(T:Nat->Bool)(h:GL l)(b:y<l.length)(a:n<l.length):∀q:List (Nat × Bool),rl T (bR q y n l).2 (bR q y n l).1=if allT T q then rl T l y else rl T l n
 | []=>rfl
 | c::r=>by
   obtain⟨d,t,s⟩:=uL h b a (c::r);obtain⟨i,p,o⟩:=uL h b a r;have:=Mk T h b a r;rw[bR]at d |-;have f:((bR r y n l).2++[if c.2 then (⟨2,c.1,(bR r y n l).1,n⟩:bX) else ⟨2,c.1,n,(bR r y n l).1⟩])[(bR r y n l).2.length]?=some (if c.2 then (⟨2,c.1,(bR r y n l).1,n⟩:bX) else ⟨2,c.1,n,(bR r y n l).1⟩):=by simp
   rw[ab7 T d f];have:=zm T d (a1t (bR r y n l).2 _);have:=zm T i (Eo y n l r) n a;have g:allT T (c::r)=(T c.1==c.2&&allT T r):=rfl;rw[g];cases k:c.2
   .grind
   grind
def Di(T:Nat->Bool)(C:List CR)(q:List (List (Nat × Bool)))(S:Nat->LN):LN->LN
 | []=>[]
 | c::r=>if allT T (q.getD c []) then S c++(if (C[c]?.map (·.co))=some true then Di T C q S r else []) else Di T C q S r
def sent(T:Nat->Bool)(C:List CR)(q:List (List (Nat × Bool))):Nat->Nat->LN
 | 0,_=>[]
 | f+1,r=>if (kids C r).any (λc=>allT T (q.getD c [])) then Di T C q (sent T C q f) (kids C r) else [r]
def RSn(T:Nat->Bool)(S:Nat->LN)(rec:Nat->Nat->List bX->Nat × List bX):Prop:=∀c d l,GL l->d<l.length->l <+: (rec c d l).2/\rl T (rec c d l).2 (rec c d l).1=S c++rl T l d
theorem aeJ {T:Nat->Bool} {S:Nat->LN} {rec:Nat->Nat->List bX->Nat × List bX}(o:RG rec)(v:RSn T S rec)(C:List CR)(q:List (List (Nat × Bool)))(h:GL l)(hd:d<l.length):∀K:LN,
 l <+: (ji rec C q d l K).2.2/\rl T (ji rec C q d l K).2.2 (ji rec C q d l K).1=Di T C q S K++rl T l d /\
 ∀(i c b:Nat),K[i]?=some c->(ji rec C q d l K).2.1[i]?=some b->allT T (q.getD c [])=true->(∀(k n:Nat),k<i->K[k]?=some n->allT T (q.getD n [])=false)->rl T (ji rec C q d l K).2.2 b=Di T C q S K++rl T l d
 | []=>⟨a0N _,rfl,λi c b h=>by simp at h⟩
 | c::r=>by
   obtain⟨B,A,z⟩:=aeJ o v _ _ h hd r;obtain⟨y,E,M,D,L⟩:=IW o _ _ h hd r;rw[ji,Di];generalize ji rec _ _ _ _ r=x at *;have e:(if (C[c]?.map (·.co))=some true then x.1 else d)<x.2.2.length:=by split<;>omega
   obtain⟨m,p,N⟩:=o c (if (C[c]?.map (·.co))=some true then x.1 else d) x.2.2 y e;obtain⟨s1,s2⟩:=v c (if (C[c]?.map (·.co))=some true then x.1 else d) x.2.2 y e;have F:rl T x.2.2 (if (C[c]?.map (·.co))=some true then x.1 else d)=(if (C[c]?.map (·.co))=some true then Di T C q S r else [])++rl T l d:=by grind [zm,hd]
   rw[F,<-a0M]at s2;generalize rec c (if (C[c]?.map (·.co))=some true then x.1 else d) x.2.2=b at *;have a:x.1<b.2.length:=by omega
   obtain⟨k1,_,I⟩:=uL m p a (q.getD c []);have H:=Mk T m p a (q.getD c []);have kp:=Eo b.1 x.1 b.2 (q.getD c []);have O:rl T b.2 x.1=Di T C q S r++rl T l d:=by rw[zm T m s1 x.1 E];exact A
   refine⟨(B.trans s1).trans kp,?_,?_⟩
   .grind
   intro i n b' j g w u;show rl T (bR _ _ _ _).2 b'=_;cases i with
   | zero=>simp[List.getElem?_cons_zero,Option.some.injEq]at j g;subst j g;rw[zm T k1 kp b.1 p,w];simp only[a0G];exact s2
   | succ i=>simp[a1m]at j g;have t:=D b' (a0B g);have:=z i n b' j g w (λk s J f=>u (k+1) s (by omega) (by simpa using f));rw[zm T k1 kp b' (by omega),zm T m s1 b' t,this,u 0 c (by omega) (by simp)];simp
def V8(q:List (List (Nat × Bool)))(first:Nat)(l:List bX):∀Z:List (Nat × Nat),l <+: (lS q first l Z).2
 | []=>a0N _
 | z::r=>by rw[lS];exact(V8 q first l r).trans (Eo _ _ _ _)
def aeK(T:Nat->Bool)(q:List (List (Nat × Bool))) {first:Nat}(h:GL l)(g:first < l.length)(R:LN):∀Z:List (Nat × Nat),(∀z∈Z,z.2<l.length) ->
 (∀(i:Nat) (z:Nat × Nat),Z[i]?=some z->allT T (q.getD z.1 [])=true->(∀(k:Nat) (b:Nat × Nat),k<i->Z[k]?=some b->allT T (q.getD b.1 [])=false)->rl T l z.2=R)->rl T (lS q first l Z).2 (lS q first l Z).1=if Z.any (λz=>allT T (q.getD z.1 [])) then R else rl T l first
 | [],_,_=>rfl
 | z::r,hz,m=>by
   obtain⟨n,u,v⟩:=QF _ h g r (λy e=>hz y (by simp[e]));have p:=V8 q first l r
   have gT:=hz z (by simp);rw[lS,Mk T n (by omega:z.2<(lS _ _ _ r).2.length) u (q.getD z.1 []),a3m];cases j:allT T (q.getD z.1 [])
   .have o:=aeK T _ h g _ r (λy e=>hz y (by simp[e])) (λi b t d f=>m (i+1) b (by simpa using t) d (λk c s a=>by
     cases k with
     | zero=>simp at a;rw[<-a];exact j
     | succ k=>exact f k c (by omega) (by simpa using a)))
    simp[a0A,a0I,a3l];exact o
   simp[a0G,Bool.true_or];rw[zm T n p z.2 gT];exact m 0 z rfl j (λk b f=>by omega)
theorem aiT(f:Nat->Bool):∀(K a:LN),a.length=K.length->(K.zip a).any (λz=>f z.1)=K.any f
 | [],a,_=>by simp
 | c::r,[],h=>by simp at h
 | c::r,b::s,h=>by simp only[List.zip_cons_cons,a3m,aiT f r s (by simpa using h)]
theorem aeL(T:Nat->Bool)(C:List CR)(q:List (List (Nat × Bool))):∀f,RSn T (sent T C q f) (ig C q f)
 | 0=>λc d l h hd=>⟨a0N _,rfl⟩
 | f+1=>λr d l h hd=>by
   have o:=C9 C q f;obtain⟨B,G,F,p,A⟩:=IW o C q h hd (kids C r);obtain⟨n,E,t⟩:=aeJ o (aeL T C q f) C q h hd (kids C r);rw[ig,sent];generalize ji (ig C q f) C q d l (kids C r)=x at *;have a:GL (x.2.2++[⟨1,r,d,0⟩]):=B.snoc (.inr (.inl ⟨rfl,by show d<_;omega⟩));have m:x.2.2 <+: x.2.2++[(⟨1,r,d,0⟩:bX)]:=a1t _ _;have b:∀z∈(kids C r).zip x.2.1,z.2<(x.2.2++[(⟨1,r,d,0⟩:bX)]).length:=by
    intro z hz;have:=p z.2 (List.of_mem_zip hz).2;simp;omega
   have s:=aeK T q a (by simp:x.2.2.length<(x.2.2++[(⟨1,r,d,0⟩:bX)]).length) (Di T C q (sent T C q f) (kids C r)++rl T l d) ((kids C r).zip x.2.1) b (by
    intro i z w y v;have hz:=List.getElem?_zip_eq_some.1 w;rw[zm T a m z.2 (p z.2 (a0B hz.2))];refine t i z.1 z.2 hz.1 hz.2 y (λk D g j=>?_);have e:k<x.2.1.length:=by grind
    exact v k (D,x.2.1[k]) g (List.getElem?_zip_eq_some.2 ⟨j,a0a e⟩))
   refine⟨(n.trans m).trans (V8 _ _ _ _),?_⟩;show rl T (lS q x.2.2.length (x.2.2++[⟨1,r,d,0⟩]) ((kids C r).zip x.2.1)).2 (lS q x.2.2.length (x.2.2++[⟨1,r,d,0⟩]) ((kids C r).zip x.2.1)).1=_;rw[s,aiT (λc=>allT T (q.getD c [])) _ _ A];cases (kids C r).any λc=>allT T (q.getD c [])
   .simp only[a0A,a0I]
    rw[ab7 T a (c:=⟨1,r,d,0⟩) (by simp)];simp only[Nat.one_ne_zero,a0I,a0G];rw[zm T a (n.trans m) d hd]
    rfl
   simp[a0G]
def tT(m:mP)(V:LB->LB)(x:Nat):Bool:=match m.tests[x]? with
 | some t=>Jz m (V (m.names.getD t.n [])) t
 | none=>false
theorem arn {m:mP}(q:GL l)(z:Mi nr m.tests.length l) {N:List Int} {c:Nat}(C:ab0 N 0 c)(hlen:N.length=l.length)(s:Nr l N 0 m.code)
 (v:∀j x,l[j]?=some x->0<=N.getD j 0->(x.op≠0->0<=N.getD x.a 0)/\(x.op=2->0<=N.getD x.b 0)) (V:LB->LB):∀j,j<l.length->0<=N.getD j (-1)->∀n,m.code.length<=n+(N.getD j (-1)).toNat->runM m V n (N.getD j (-1)).toNat=rl (tT m V) l j:=by
 intro j
 induction j using Nat.strongRecOn with
 | ind j w =>
   intro r o n D;have hb:=s.b j (by omega) o;obtain⟨k,rfl⟩:∃k,n=k+1:=⟨n-1,by omega⟩;have g:l[j]?=some l[j]:=a0a r;have ho:=s.a j _ (by omega) g o;obtain⟨s1,s2⟩:=v j _ g (by rw[Gy N j (by omega)];omega);have A:=q j r;have u:=z l[j] (a0u _);rw[ab7 _ q g,runM,ho];generalize l[j]=y at *;obtain⟨op,e,a,b⟩:=y;simp only[GXi]at u;simp only at A s1 s2 |-;have f:∀t,t<j->0<=N.getD t 0->runM m V k (N.getD t 0).toNat=rl (tT m V) l t:=by intro t ht p;rw[Gy N t (by omega)]at p |-;have i:=C.d t j (by omega) ht p o;exact w t ht (by omega) p k (by omega)
   rcases u with⟨rfl,rfl,rfl,rfl⟩|⟨rfl,i,rfl⟩|⟨rfl,i⟩
   .rfl
   .grind [y5]
   have B:=f a (by omega) (s1 (by omega));have hb:=f b (by omega) (s2 rfl);simp only[y5,show(2:Nat)≠0 by omega,a0I,a0G,show(2:Nat)≠1 by omega];have ht:m.tests[e]?=some m.tests[e]:=a0a i;have h:tT m V e=Jz m (V (m.names.getD m.tests[e].n [])) m.tests[e]:=by unfold tT;rw[ht]
   rw[ht,h];simp only;cases Jz m (V (m.names.getD m.tests[e].n [])) m.tests[e]
   .simpa using hb
   simpa using B
theorem an9 {m:mP}(i:GL l)(p:Mi nr m.tests.length l)(first:Nat)(g:first < l.length)(r:m.code=mH l first)(V:LB->LB):runM m V m.code.length 0=rl (tT m V) l first:=by
 obtain⟨c,e⟩:=Mh l first
 have hlen:=Eh l first
 have o:=IY i first
 have t:=QW i first
 have n:Nr l (numsOf l first) 0 (mH l first):=by
  refine Dh e hlen (first + 1) [] (by omega) ⟨λj x a _ f=>?_,λk q=>by simp at q,λj a f=>?_⟩
  .grind
  grind
 have f:0<=(numsOf l first).getD first (-1):=by unfold numsOf;exact Bp l first g l.length _ _ 0 g (a0b _) (by simp) (by simp) (yg _ _ (by simpa using g))
 have hz:(numsOf l first).getD first (-1)=0:=by
  have hb:=e.b first (by omega) f
  obtain⟨j,_,a⟩:=e.s 0 (by omega);rcases Nat.lt_trichotomy j first with h|h|h
  .have:=e.d j first (by omega) h (by rw[a];omega) f
   rw[a]at this;omega
  .rw[h]at a;exact a
  grind
 rw[<-r]at n;have:=arn i p e hlen n o V first g f m.code.length (by omega)
 rw[hz]at this;exact this
def zn(a:gz)(v:LB):Bool:=a.acc.getD (yC a 0 v) 0==1
def lG(bI:LB->gz)(V:LB->LB)(m:CM):Bool :=
 if m.2.1=0 then V m.1==m.2.2 else if m.2.1=1 then !(V m.1==m.2.2) else if m.2.1=2 then zn (bI m.2.2) (V m.1) else !(zn (bI m.2.2) (V m.1))
def stM(s:CS)(V:LB->LB)(t:jd):Bool :=
 if t.k=0 then V (s.n.getD t.n [])==s.c.getD t.x [] else zn (s.a.getD t.x ⟨0,[],[],[]⟩) (V (s.n.getD t.n []))
def stT(s:CS)(V:LB->LB)(x:Nat):Bool:=match s.t[x]? with | some t=>stM s V t|none=>false
theorem aro(C:List CR)(s:CS)(V:LB->LB):tT (iZ C s) V=stT s V:=rfl
structure Ae(s s':CS):Prop where
 n:s.n <+: s'.n
 c:s.c <+: s'.c
 a:s.a <+: s'.a
 t:s.t <+: s'.t
theorem Ae.refl(s:CS):Ae s s:=⟨a0N _,a0N _,a0N _,a0N _⟩
theorem Ae.trans{s2:CS}(h:Ae s s1)(k:Ae s1 s2):Ae s s2:=⟨h.n.trans k.n,h.c.trans k.c,h.a.trans k.a,h.t.trans k.t⟩
theorem Ns {l a:List α}(h:l <+: a)(d:α)(b:i<l.length):a.getD i d=l.getD i d:=by obtain⟨r,rfl⟩:=h;simp[List.getD,a0s b]
def V9 {l a:List α}(h:l <+: a) {x:α}(b:l[i]?=some x):a[i]?=some x:=by obtain⟨r,rfl⟩:=h;rw[a0s (a0d.1 b).1];exact b
theorem asV{s':CS}(h:Ae s s')(V:LB->LB) {t:jd}(ok:Lu s.n.length s.c.length s.a.length t):stM s' V t=stM s V t:=by
 have b:=ok.x;unfold stM;rw[Ns h.n [] ok.n]
 by_cases d:t.k=0
 .rw[a0n (by omega)]at b
  rw[a0m d,a0m d,Ns h.c [] b]
 rw[a0m (by have:=ok.k;omega)]at b;rw[a0n d,a0n d,Ns h.a _ b]
def Nt:L <+: l9 L x:=by unfold l9;split;exact a1t _ _;exact a0N _
def aoa{L:List jd}(x:jd):L <+: pE L x:=by unfold pE;split;exact a1t _ _;exact a0N _
theorem aiU(h:iL L x<L.length):L[iL L x]=x:=by have:=List.findIdx_getElem (p:=(·==x)) (xs:=L) (w:=h);exact eq_of_beq this
theorem aeM(L:List LB)(x:LB):(l9 L x)[iL L x]?=some x:=by grind [l9,Eg,iL,aiU]
def aob(L:List jd)(x:jd):(pE L x)[C6 L x]?=some x:=by
 unfold pE
 split
 .rename_i h;rw[h];simp
 rename_i h
 have k:=alT L x;have i:C6 L x<L.length:=by omega
 have j:=List.findIdx_getElem (p:=(QE · x)) (xs:=L) (w:=i);rw[a0a i];have g:QE L[C6 L x] x=true:=j;generalize L[C6 L x]=y at *;obtain⟨a,b,c⟩:=y;obtain⟨d,e,f⟩:=x;simp[QE]at g;simp[g]
theorem GB {l:List α} {x d:α}(h:l[i]?=some x):l.getD i d=x:=by simp[List.getD,h]
def XA(bI:LB->gz)(s:CS):Prop:=∀(i:Nat) (v:LB),s.x[i]?=some v->s.a[i]?=some (bI v)
def Je(bI:LB->gz)(V:LB->LB)(m:CM):Bool:=if m.2.1=2\/m.2.1=3 then zn (bI m.2.2) (V m.1) else V m.1==m.2.2
theorem aoc(bI:LB->gz)(V:LB->LB)(a:m.2.1<=3):lG bI V m=(Je bI V m==IV m):=by grind [lG,Je,IV]
def akQ {re:LB->Nat} {bI:LB->gz} {t:jd}(h:Ph s)(b:XA bI s)(he:nP re bI s m=some (t,s1))(V:LB->LB) :
 Ae s s1/\XA bI s1/\stM s1 V t=Je bI V m:=by
 unfold nP at he;have j:=GB (d:=[]) (aeM s.n m.1)
 split at he
 .rename_i f
  split at he
  .rename_i g
   cases he
   refine⟨⟨Nt,a0N _,a0N _,a0N _⟩,b,?_⟩;have k:=b (iL s.x m.2.2) m.2.2 (by rw[a0a g,aiU g]);unfold stM Je;rw[a0n (by simp),a0m f];simp only;rw[j,GB k]
  rename_i g
  split at he
  .cases he
   have p:iL s.x m.2.2=s.x.length:=by have:=Eg s.x m.2.2;omega
   have l:XA bI { s with n:=l9 s.n m.1,x:=s.x++[m.2.2],a:=s.a++[bI m.2.2] }:=by
    intro i v e;simp only at e |-
    by_cases o:i<s.x.length
    .rw[a0s o]at e
     rw[a0s (by rw[<-h.xa];exact o)];exact b i v e
    have q:i=s.x.length:=by have:=(a0d.1 e).1;simp at this;omega
    subst q;simp at e;subst e;rw[h.xa];simp
   refine⟨⟨Nt,a0N _,a1t _ _,a0N _⟩,l,?_⟩;have k:(s.a++[bI m.2.2])[iL s.x m.2.2]?=some (bI m.2.2):=by rw[p,h.xa];simp
   unfold stM Je;rw[a0n (by simp),a0m f];simp only;rw[j,GB k]
  cases he
 rename_i f
 cases he
 refine⟨⟨Nt,Nt,a0N _,a0N _⟩,b,?_⟩;unfold stM Je;rw[a0m rfl,a0n f];simp only;rw[j,GB (aeM s.c m.2.2)]
def aeN {re:LB->Nat} {bI:LB->gz}(o:∀v,re v=0->wC (bI v))(V:LB->LB):∀(M:List CM) (s:CS) (acc:List (Nat × Bool)) {l:List (Nat × Bool)} {s1:CS},Ph s->XA bI s->(∀m∈M,Qf m)->nu re bI s acc M=.ok (l,s1) ->
 Ae s s1/\XA bI s1/\∃d,l=acc++d/\∀s',Ae s1 s'->allT (stT s' V) d=M.all (lG bI V)
 | [],s,acc,l,s1,h,f,_,e=>by
   rw[nu]at e;cases e
   exact⟨Ae.refl _,f,[],by simp,λs' _=>rfl⟩
 | m::r,s,acc,l,s1,h,f,j,e=>by
   rw[nu]at e
   split at e
   .cases e
   rename_i t s2 ht
   obtain⟨p,C,B⟩:=aeG o h (j m (by simp)) ht;obtain⟨w,u,q⟩:=akQ h f ht V;have b:Ae s2 { s2 with t:=pE s2.t t }:=⟨a0N _,a0N _,a0N _,aoa _⟩;obtain⟨k1,k2,d,z,y⟩:=aeN o V r _ _ p u (λx f=>j x (by simp[f])) e;refine⟨(w.trans b).trans k1,k2,(C6 s2.t t,IV m)::d,by rw[z];simp,λs' k=>?_⟩;have g:=aob s2.t t;have i:s'.t[C6 s2.t t]?=some t:=V9 k.t (V9 k1.t g);have ok:Lu s2.n.length s2.c.length s2.a.length t:=p.t t (a0B g);have A:stT s' V (C6 s2.t t)=Je bI V m:=by unfold stT;rw[i];simp only;rw[asV ((b.trans k1).trans k) V ok,q]
   show(stT s' V (C6 s2.t t)==IV m&&allT (stT s' V) d)=_;rw[y s' k,A,a1P,aoc bI V (j m (by simp)).kind]
theorem ab8 {re:LB->Nat} {bI:LB->gz}(p:∀v,re v=0->wC (bI v))(V:LB->LB):∀(C:List CR) (s:CS) (i:Nat) {s1:CS},Ph s->XA bI s->(∀c∈C,xN c)->pread re bI s i C=.ok s1 ->
 Ae s s1/\s.q <+: s1.q/\∀(j:Nat) (c:CR),C[j]?=some c->∀s',Ae s1 s'->allT (stT s' V) (s1.q.getD (s.q.length+j) [])=c.ifs.all (lG bI V)
 | [],s,i,s1,h,b,_,e=>by grind [pread,Ae.refl]
 | c::r,s,i,s1,h,b,hC,e=>by
   rw[pread]at e;have o:=hC c (by simp)
   split at e
   .cases e
   rename_i l s2 k
   obtain⟨d,E,D⟩:=ab4 p c.ifs s [] h o.ifs (by simp) k;obtain⟨B,A,G,u,z⟩:=aeN p V c.ifs s [] h b o.ifs k;have hq:=aeH c.ifs s [] k;have H:=o.ifl;simp at D u;subst u;obtain⟨k1,k2,w⟩:=ab8 p V r { s2 with q:=s2.q++[l] } (i+1) ⟨d.n,d.c,d.a,d.xa,d.t,λx b=>by
    rcases a0e.1 b with f|f
    .exact d.q x f
    .rw[a0w.1 f];exact E,λx b=>by
    rcases a0e.1 b with f|f
    .exact d.ql x f
    rw[a0w.1 f];omega⟩ A (λx b=>hC x (by simp[b])) e
   have g:Ae s2 { s2 with q:=s2.q++[l] }:=⟨a0N _,a0N _,a0N _,a0N _⟩;simp only[hq]at k2 w;refine⟨(B.trans g).trans k1,(a1t _ _).trans k2,λj F m s' y=>?_⟩;cases j with
   | zero=>simp at m;subst m;have:s1.q[s.q.length+0]?=some l:=V9 k2 (by simp);rw[GB this];exact z s' ((g.trans k1).trans y)
   | succ j=>have:=w j F (by simpa using m) s' y;rw[a0p,a0X]at this;rw[show s.q.length+(j+1)=s.q.length+1+j by omega];exact this
def hold(bI:LB->gz)(V:LB->LB)(C:List CR)(c:Nat):Bool:=match C[c]? with | some x=>x.ifs.all (lG bI V)|none=>false
def mX(H:Nat->Bool)(C:List CR)(S:Nat->LN):LN->LN
 | []=>[]
 | c::r=>if H c then S c++(if (C[c]?.map (·.co))=some true then mX H C S r else []) else mX H C S r
def iw(H:Nat->Bool)(C:List CR):Nat->Nat->LN
 | 0,_=>[]
 | f+1,r=>if (kids C r).any H then mX H C (iw H C f) (kids C r) else [r]
theorem aiV {T:Nat->Bool} {C:List CR} {q:List (List (Nat × Bool))} {H:Nat->Bool} {S S':Nat->LN}:∀K:LN,(∀c∈K,allT T (q.getD c [])=H c/\S c=S' c)->Di T C q S K=mX H C S' K
 | [],_=>rfl
 | c::r,h=>by rw[Di,mX,(h c (by simp)).1,(h c (by simp)).2,aiV r (λx a=>h x (by simp[a]))]
theorem amd {T:Nat->Bool} {C:List CR} {q:List (List (Nat × Bool))} {H:Nat->Bool}(h:∀c,c<C.length->allT T (q.getD c [])=H c):∀f r,sent T C q f r=iw H C f r
 | 0,_=>rfl
 | f+1,r=>by
   have a:∀c∈kids C r,allT T (q.getD c [])=H c/\sent T C q f c=iw H C f c:=λc b=>⟨h c (kX b).1,amd h f c⟩
   rw[sent,iw,aiV _ a];have:(kids C r).any (λc=>allT T (q.getD c []))=(kids C r).any H:=by grind
   rw[this]
theorem aod {re:LB->Nat} {bI:LB->gz}(g:∀v,re v=0->wC (bI v)) {C:List CR}(ht:t.length<=1048576)(h:jH t=.ok (L,C))(d:pread re bI lT 0 C=.ok s)(V:LB->LB) :
 runM (iZ C s) V (iZ C s).code.length 0=iw (hold bI V C) C 6 0:=by
 obtain⟨u,j,D,B⟩:=pI h;have e:=(qT t L C ht u).2.2;have a:Ph lT:=⟨by simp[lT],by simp[lT],by simp[lT],rfl,by simp[lT],by simp[lT],by simp[lT]⟩;obtain⟨k1,k2,A⟩:=V7 g C lT 0 0 a ⟨by simp[lT],by simp[lT],by simp[lT],by simp[lT],by simp[lT]⟩ e d;obtain⟨_,_,p⟩:=ab8 g V C lT 0 a (λi v b=>by simp[lT]at b) e d;have y:C.isEmpty=false:=by cases C with | nil=>simp at j|cons=>rfl
 have k:GL [⟨0,0,0,0⟩]:=by intro i b;simp at b;subst b;exact .inl rfl
 obtain⟨o,n,z⟩:=C9 C s.q 6 0 0 [⟨0,0,0,0⟩] k (by simp);have l:=ab1 C (nt:=s.t.length) k1.q 6 0 0 [⟨0,0,0,0⟩] j (by intro x r;rw[a0w.1 r];exact .inl ⟨rfl,rfl,rfl,rfl⟩);have w:(iZ C s).code=mH (ig C s.q 6 0 0 [⟨0,0,0,0⟩]).2 (ig C s.q 6 0 0 [⟨0,0,0,0⟩]).1:=by show C8 C s.q=_;unfold C8;rw[y];rfl
 rw[an9 (m:=iZ C s) o (nr:=C.length) l _ n w V,(aeL _ C s.q 6 0 0 [⟨0,0,0,0⟩] k (by simp)).2,aro];have:rl (stT s V) [(⟨0,0,0,0⟩:bX)] 0=[]:=rfl;rw[this,a0R];refine amd (λc f=>?_) 6 0;have:=p c C[c] (a0a f) s (Ae.refl _);unfold hold;rw[a0a f];rw[show lT.q.length+c=c from a1n c]at this;exact this
theorem LR.take {a:Option Addr} {L:List kW}(h:LR w (.slice a n cap) L)(j:Nat)(m:j<=L.length):LR w (.slice a j cap) (L.take j):=by
 obtain⟨q,p,e,o,l⟩:=h;simp at e;obtain⟨rfl,rfl,rfl⟩:=e;have b:(L.take j).length=j:=by simp;omega
 refine⟨a,cap,by rw[b],by omega,?_⟩;intro i c;rw[b]at c;obtain⟨g,off,rfl,k,f,d⟩:=l i (by omega);exact⟨g,off,rfl,k,by rw[List.getElem_take];exact f,by rw[List.getElem_take];exact d⟩
def af4{L:List kW}{n:LB}(h:LR w v L) :
 zF 46 #[v,zT n] w λe w'=>e=zR (zT (dH L n))/\aB [] w w':=by
 obtain⟨a,cap,rfl,A,u⟩:=h;have y:=aT;delta zF;go_in
 go_wp2_with fail
 go_loopg [9] L.length (λk r wr=>∃j:Nat,j+k=L.length/\r=zI j/\aB [] w wr/\Z_ ((L.drop j).find? (λx=>x.1==n)=L.find? (λx=>x.1==n)))
 exact⟨0,by omega,rfl,zK,by show _=_;simp⟩
 .obtain⟨j,z,rfl,F,c⟩:=hrel
  by_cases m:j<L.length
  .obtain⟨g,off,rfl,l,i,f⟩:=u j m
   have b:=c.o;rw[a0k m,List.find?_cons]at b;have t:=(F.cell (p:=(zB g (off+j*2))) l (by simp)).trans i;have s:=(F.cell (p:=(zB g (off+j*2+1))) l (by simp)).trans f;clear i f;generalize L[j]=x at *;obtain⟨nm,q⟩:=x;simp only at t s b;cases he:(nm==n)
   .rw[he]at b
    clear c;go_wp2;go_roundg (gk-1);exact⟨j+1,by omega,by go_num,F.alloc _,b⟩;omega
   rw[he]at b;have d:Z_ (dH L n=q):=by show _=_;unfold dH;rw[<-b]
   clear c;go_wp2;go_ret;rw[d.o];exact⟨rfl,F.alloc _⟩
  have d:Z_ (dH L n=[]):=by
   show _=_;unfold dH;rw[<-c.o,a0i (by omega)]
   rfl
  clear c;go_wp2;go_ret;rw[d.o];exact⟨rfl,F⟩
def af5(L:List kW)(n:LB)(w:World)(h:LR w v L) :
 zF 26 #[v,zT n] w λe w'=>e=zR (.bool (L.any λx=>x.1==n))/\aB [] w w':=by
 obtain⟨a,cap,rfl,D,m⟩:=h;have z:=aj m;have B:=aT;clear m;delta zF;go_in
 go_wp2_with fail
 go_loopg [9] L.length (λk s wr=>∃j:Nat,j+k=L.length/\s=zI j/\aB [] w wr/\Z_ (((L.drop j).any λx=>x.1==n)=L.any λx=>x.1==n))
 case atStart=>exact⟨0,by omega,rfl,aB.refl _ _,by show _=_;simp⟩
 case round =>
  obtain⟨j,C,rfl,q,c⟩:=hrel;have F:=aj q;clear q
  by_cases r:j<L.length
  .obtain⟨g,off,rfl,l,i,f⟩:=z.o j r
   have b:=c.o;rw[a0k r,a3m]at b;have y:=(F.o.cell (p:=(zB g (off+j*2))) l (by simp)).trans i;have u:=(F.o.cell (p:=(zB g (off+j*2+1))) l (by simp)).trans f;clear i f;generalize L[j]=x at *;obtain⟨nm,A⟩:=x;simp only at y u b;cases he:(nm==n)
   .rw[he,a3l]at b
    have t:=aj b;clear b c;go_wp2;go_roundg (gk-1)
    case measure=>omega
    case rel=>exact⟨j+1,by omega,by go_num,F.o.alloc _,t⟩
   rw[he,Bool.true_or]at b;have d:=aj b;clear b c;go_wp2;go_ret;rw[<-d.o];exact⟨rfl,F.o.alloc _⟩
  have d:Z_ ((L.any λx=>x.1==n)=false):=by
   show _=_;rw[<-c.o,a0i (by omega)]
   rfl
  clear c;go_wp2;go_ret;rw[d.o];exact⟨rfl,F⟩
def ab9 {x:gz}(ok:wC x) {s:Nat}(b:s<x.acc.length)(c:UInt8):s*x.k+x.cl.getD c.toNat 0<x.nx.length/\x.nx.getD (s*x.k+x.cl.getD c.toNat 0) 0<x.acc.length:=by
 have d:c.toNat<x.cl.length:=by rw[ok.cl];exact c.toNat_lt
 have g:x.cl.getD c.toNat 0<x.k:=ok.cls _ (by simp[List.getD,d]);have f:s*x.k+x.k<=x.acc.length*x.k:=by
  have:=a0z x.k (Nat.succ_le_of_lt b)
  rwa [Nat.succ_mul]at this
 have a:s*x.k+x.cl.getD c.toNat 0<x.nx.length:=by rw[ok.nx];omega
 refine⟨a,ok.nxs _ ?_⟩;have e:x.nx.getD (s*x.k+x.cl.getD c.toNat 0) 0=x.nx[s*x.k+x.cl.getD c.toNat 0]:=by rw[a0x,a0a a];rfl
 rw[e];exact a0u _
def aiW(A:LN)(w:World)(g o:Nat)(x:gz)(B u:Value)(v:LB)(h:AUm w g o x B u)(ra:RW A 1 w B (bc x.acc))(rn:RW A 1 w u (ic x.nx))(ok:wC x)(Y:v.length<=1048576) :
 zF 47 #[.pointer (some (zB g o)),zT v] w λe w'=>e=zR (.bool (x.acc.getD (yC x 0 v) 0==1))/\∃q,w'=w.drewN q:=by
 obtain⟨aa,ca,rfl,t⟩:=ra.bool;obtain⟨an,cn,rfl,r⟩:=rn.num;have O:=bL v;have I:=ok.k2;have Yf:=ok.s2;have PQ:x.nx.length<=10240:=by rw[ok.nx];exact a0h (a0D ok.s2 ok.k2) (by decide)
 have X:=ok.s1;clear ra rn;delta zF;go_in
 go_wp2_with fail
 go_loopg [5,6] v.length (λk F E wr=>∃(i s q:Nat),i+k=v.length/\E=zI i/\F=zI s/\s<x.acc.length/\Z_ (yC x s (v.drop i)=yC x 0 v)/\wr=w.drewN q)
 exact⟨0,0,0,by omega,rfl,rfl,by omega,rfl,rfl⟩
 .obtain⟨i,s,q,Ku,rfl,rfl,j,d,G⟩:=hrel;subst G
  by_cases S:i<v.length
  .have c0:=h.c0
   have cN:=h.cn;have V:(bs v)[i]'(by rw[O];omega)=v[i]:=rfl;obtain⟨l,b⟩:=ab9 ok j v[i];have a:Z_ (yC x (x.nx.getD (s*x.k+x.cl.getD v[i].toNat 0) 0) (v.drop (i+1))=yC x 0 v):=by have c:=d.o;rw[a0k S,yC]at c;exact c
   have hb:v[i].toNat<256:=v[i].toNat_lt;have cc:=h.cc _ hb;have W:x.cl.getD v[i].toNat 0<256:=by
    have N:v[i].toNat<x.cl.length:=by rw[ok.cl];exact hb
    have:=ok.cls (x.cl.getD v[i].toNat 0) (by simp[List.getD,N]);omega
   clear d;generalize v[i]=y at *;generalize x.cl.getD y.toNat 0=m at *;have f:s*x.k<=40*256:=a0D (by omega) I;obtain⟨p,n⟩:∃p,p=s*x.k:=⟨_,rfl⟩;have H:(s:Int)*(x.k:Int)=(p:Int):=by rw[n];simp
   rw[<-n]at a f l b;clear n;obtain⟨D,off,rfl,J,T⟩:=r (p+m) l;have C:x.nx.getD (p+m) 0=x.nx[p+m]:=by simp[List.getD,l]
   rw[C]at a b;generalize x.nx[p+m]=z at *;have R:∀k,zC (w.drewN k) D (off+(p+m)) (zI z):=λk=>T
   have P:∀k,zC (w.drewN k) g (o+258) (.slice (some (zB D off)) x.nx.length cn):=λk=>cN
   clear C;go_wp2_with fail
   go_quiet (fail)
   go_wp2_with fail
   go_roundg (gk-1);exact⟨i+1,z,_,by omega,by go_num,rfl,b,a,rfl⟩;omega
  have a:Z_ (s=yC x 0 v):=by have c:=d.o;rw[a0i (by omega),yC]at c;exact c
  clear d;have cA:=h.ca;obtain⟨Z,off,rfl,L,M⟩:=t s j;have U:Z_ (x.acc.getD (yC x 0 v) 0=x.acc[s]):=by show _=_;rw[<-a.o];simp[List.getD,j]
  generalize x.acc[s]=z at *;go_wp2;go_ret;rw[U.o];exact⟨rfl,q,rfl⟩
theorem aiX {a:gz}(ok:wC a) {B:List Bool}(e:a.acc=B.map λb=>if b then 1 else 0):∀(v:LB) (s:Nat),s<a.acc.length->(a.acc.getD (yC a s v) 0==1)=tkP a.k a.cl B a.nx s v
 | [],s,d=>by grind [yC,tkP]
 | c::v,s,d=>by obtain⟨g,f⟩:=ab9 ok d c;rw[yC,tkP,a0m g];exact aiX ok e v _ f
def aoe(he:fF t=some e)(c:gH t=0)(v:LB):zn (gQ t) v=true↔Rg e (v.map (·.toNat)):=by
 obtain⟨f,a,d,_⟩:=VX c;rw[he]at a;cases a
 have ok:=ab5 t c;rw[<-an7 (mQ he).1 d v];have b:gQ t=⟨(kZ e).length,yc e,(eu e).2.1.map λu=>if dK (dW (bn e) u) then 1 else 0,(eu e).2.2⟩:=by unfold gQ;rw[he]
 have:=aiX ok (B:=(eu e).2.1.map λu=>dK (dW (bn e) u)) (by rw[b];generalize (eu e).2.1=S;simp) v 0 (by have:=ok.s1;omega);unfold zn;rw[this,b]
theorem CfR.aC{b w':World} {cb base:Nat} {C:List CR} {X:List (Nat × iY × RR)}(h:CfR b w cb base C X)(f:aB [] w w'):CfR b w' cb base C X:=by obtain⟨vr,c,d⟩:=h.cf;exact⟨h.lo,h.up,⟨vr,c,d.aC f (by simp)⟩,λx a=>(h.rb x a).aC f (by simp),h.rc,λx a=>(h.Im x a).aC f (by simp),λx a=>(h.kd x a).aC f (by simp),h.ifs.aC f,h.nd,h.eq⟩
def ReM(w:World)(q:Option Addr)(m:CM):Prop:=(m.2.1=2\/m.2.1=3)->∃n e,q=some (zA n)/\fF m.2.2=some e/\RN w n (gW e)/\gH m.2.2=0
theorem XF(he:fF t=some e)(c:gH t=0)(v:LB) {b:Bool}(hb:b=true↔Rt (gW e) (v.map (·.toNat))):b=zn (gQ t) v:=by
 have a:=aoe he c v;rw[<-abB e (mQ he).1,<-hb]at a;cases b<;>cases hh:zn (gQ t) v
 .rfl
 .exact absurd (a.1 hh) (by simp)
 .exact absurd (a.2 rfl) (by rw[hh];simp)
 rfl
def aiY(w:World)(g o:Nat)(m:CM)(q:Option Addr)(v:Value)(L:List kW)(H:zC w g o (zT m.1))(l:zC w g (o+1) (zT (jr m.2.1)))(G:zC w g (o+2) (zT m.2.2))(J:zC w g (o+3) (.pointer q))
 (hq:ReM w q m) (D:m.2.1<=3) (B:LR w v L) (p:(dH L m.1).length<=900) :
 zF 48 #[.pointer (some (zB g o)),v] w λe w'=>e=zR (.bool (lG gQ (dH L) m))/\aB [] w w':=by
 have h:=aj (aiH v L m.1 w B);have N:=aT;have k1:({ data:=#[61] }:ByteArray).toList=[61]:=aT _;have k2:({ data:=#[33,61] }:ByteArray).toList=[33,61]:=aT _;have I:({ data:=#[61,126] }:ByteArray).toList=[61,126]:=aT _;obtain⟨av,M,rfl,_⟩:=B;obtain⟨c,mk,mv⟩:=m;simp only at H l G D p h;have s:=aj hq;obtain⟨V,d⟩:∃V,V=dH L c:=⟨_,rfl⟩;rw[<-d]at h p;have r:=aj d;clear hq d;have E:mk=0\/mk=1\/mk=2\/mk=3:=by omega
 rcases E with rfl|rfl|rfl|rfl
 .have e:jr 0=[61]:=rfl
  rw[e]at l;have b:Z_ (lG gQ (dH L) (c,0,mv)=(V==mv)):=by show _=_;rw[r.o];rfl
  cases hb:(V==mv)
  all_goals
   rw[hb]at b;delta zF;go_in
   go_wp2_with fail
   refine(h.o).mono ?_;rintro e t ⟨rfl,rfl⟩;go_wp2;go_ret;rw[b.o];exact⟨rfl,aB.refl _ _⟩
 .have e:jr 1=[33,61]:=rfl
  rw[e]at l;have b:Z_ (lG gQ (dH L) (c,1,mv)=!(V==mv)):=by show _=_;rw[r.o];rfl
  cases hb:(V==mv)
  all_goals
   rw[hb]at b;delta zF;go_in
   go_wp2_with fail
   refine(h.o).mono ?_;rintro e t ⟨rfl,rfl⟩;go_wp2;go_ret;rw[b.o];exact⟨rfl,aB.refl _ _⟩
 .have e:jr 2=[61,126]:=rfl
  rw[e]at l;obtain⟨n,x,rfl,a,j,hz⟩:=s.o (.inl rfl);have b:Z_ (lG gQ (dH L) (c,2,mv)=zn (gQ mv) V):=by show _=_;rw[r.o];rfl
  have u:=aj (Xp w n (gW x) V j (Nh x (mQ a).1) (Ii x (zM a)) p);have A:=aj a;have z:=aj hz;clear a j hz s;delta zF;go_in
  go_wp2_with fail
  refine(h.o).mono ?_;rintro e t ⟨rfl,rfl⟩;go_wp2_with fail
  refine(u.o).mono ?_;rintro e C ⟨y,rfl,i,k⟩;have f:Z_ (lG gQ (dH L) (c,2,mv)=y):=by show _=_;rw[b.o];exact(XF A.o z.o V i).symm
  have F:=aj k;clear i k;go_wp2;go_ret;rw[f.o];exact⟨rfl,F⟩
 have e:jr 3=[33,126]:=rfl;rw[e]at l;obtain⟨n,x,rfl,a,j,hz⟩:=s.o (.inr rfl);have b:Z_ (lG gQ (dH L) (c,3,mv)=!zn (gQ mv) V):=by show _=_;rw[r.o];rfl
 have u:=aj (Xp w n (gW x) V j (Nh x (mQ a).1) (Ii x (zM a)) p);have A:=aj a;have z:=aj hz;clear a j hz s;delta zF;go_in
 go_wp2_with fail
 refine(h.o).mono ?_;rintro e t ⟨rfl,rfl⟩;go_wp2_with fail
 refine(u.o).mono ?_;rintro e C ⟨y,rfl,i,k⟩;have f:Z_ (lG gQ (dH L) (c,3,mv)=!y):=by show _=_;rw[b.o,XF A.o z.o V i]
 have F:=aj k;clear i k;go_wp2;go_ret;rw[f.o];exact⟨rfl,F⟩
theorem Ls.at {v:Value} {c:CR}(h:Ls w v (c.ifs.map qG) (λ_=>True))(z:∀m∈c.ifs,(m.2.1=2\/m.2.1=3)->gH m.2.2=0) :
 ∃a cap,v=.slice a c.ifs.length cap/\∀k m,c.ifs[k]?=some m->∃g q,a=some ⟨g,0,none⟩/\w.cell? ⟨g,k*4,none⟩=some (.string (bs m.1))/\w.cell? ⟨g,k*4+1,none⟩=some (.string (bs (jr m.2.1)))/\w.cell? ⟨g,k*4+2,none⟩=some (.string (bs m.2.2))/\w.cell? ⟨g,k*4+3,none⟩=some (.pointer q)/\ReM w q m:=by
 obtain⟨a,cap,i,A,f⟩:=h;rw[a0y]at i f;refine⟨a,cap,i,λk m d=>?_⟩;rcases f with f|⟨g,cur,e,r,l⟩
 .have:=(a0d.1 d).1;omega
 obtain⟨c0,c1,c2,q,c3,hd,hq⟩:=l k (qG m) (by rw[a0Q,d];rfl);have cc:∀o u,cur[o]?=some u->w.cell? ⟨g,o,none⟩=some u:=λo u h=>by rw[cell_of_row w g o cur _ _ r];exact h
 refine⟨g,q,e,cc _ _ c0,cc _ _ c1,cc _ _ c2,cc _ _ c3,λj=>?_⟩;have b:Ef (qG m)=true:=by rw[aiD];simpa using j
 cases q with
 | none=>exact absurd rfl (hd trivial b)
 | some p=>obtain⟨n,x,y,t,s⟩:=hq p rfl;exact⟨n,x,by rw[y],t,s,z m (a0B d) j⟩
theorem acB(w:World)(b:Nat)(rv:iY)(c:CR)(v:Value)(L:List kW)(J:qz w b rv)(z:Ls w rv.iJ (c.ifs.map qG) (λ_=>True))(E:∀m∈c.ifs,(m.2.1=2\/m.2.1=3)->gH m.2.2=0)(O:∀m∈c.ifs,m.2.1<=3)(N:c.ifs.length<=1000)(R:LR w v L)(P:∀n,(dH L n).length<=900) :
 Calls Tryz.prog 30 #[.pointer (some ⟨b,0,none⟩),v] w λe w'=>e=.returned (.bool (c.ifs.all (lG gQ (dH L))))/\aB [] w w':=by
 obtain⟨a,cap,p,_⟩:=z.at E;have Z:=aj J;have D:=aj z;have A:=aj E;have HK:=aj O;have C:=aj R;have HV:=aj P;obtain⟨av,cv,rfl,_⟩:=R;obtain⟨M,r⟩:∃M,M=c.ifs:=⟨_,rfl⟩;rw[<-r]at p N;have B:=aj r;obtain⟨n,u⟩:∃n,n=M.length:=⟨_,rfl⟩;rw[<-u]at p N;have s:=aj u;have j:=aj p;have HD:Z_ (∀W,aB [] w W->W.cell? ⟨b,5,none⟩=some (.slice a n cap)):=λW d=>by
  have:=(Z.o.aC d (by simp)).cell 5;rw[this,<-j.o];rfl
 rw[<-r];clear J z E O P r p u;go_enter Tryz.func30,Tryz.ntmps30
 go_wp2_with fail
 go_loopg [5] n (λk v5 wr=>∃(i:Nat),i+k=n/\v5=.int .i64 i/\aB [] w wr/\(M.drop i).all (lG gQ (dH L))=M.all (lG gQ (dH L)))
 case atStart=>exact⟨0,by omega,rfl,aB.refl _ _,rfl⟩
 case round =>
  obtain⟨i,Ku,rfl,d,t⟩:=hrel;have F:=aj d;have G:=aj t;have d5:=HD.o wr d
  by_cases T:i<n
  .obtain⟨m,h⟩:∃m,M[i]?=some m:=⟨M[i]'(by rw[<-s.o];exact T),a0a (by rw[<-s.o];exact T)⟩
   have V:m∈c.ifs:=by rw[<-B.o];exact a0B h
   obtain⟨a',xK,x,aO⟩:=(D.o.aC d).at A;rw[j.o,<-B.o,<-s.o]at x;simp only[Value.slice.injEq,a1W]at x;obtain⟨g,q,e2,k0,k1,k2,I,H⟩:=aO i m (by rw[<-B.o];exact h);obtain⟨rfl,rfl⟩:=x;subst e2;have Y:=aj (aiY wr g (i*4) m q (.slice av L.length cv) L k0 k1 k2 I H (HK.o m V) (C.o.aC d (by simp)) (HV.o _));have U:M.drop i=m::M.drop (i+1):=by
    have h1:=(a0d.1 h).1;rw[a0k h1,(a0d.1 h).2]
   have f:=G.o;rw[U,a1P]at f;have X:=aj f;clear d t G f h V aO k0 k1 k2 I H U;generalize lG gQ (dH L) m=y at *;go_wp2_with fail
   refine(Y.o).mono ?_;rintro e w1 ⟨rfl,S⟩;have F1:=aj (F.o.trans S);clear S Y;cases y
   .have l:Z_ (M.all (lG gQ (dH L))=false):=by show _=_;rw[<-X.o];rfl
    go_wp2;go_ret;rw[l.o];exact⟨rfl,F1⟩
   have l:Z_ ((M.drop (i+1)).all (lG gQ (dH L))=M.all (lG gQ (dH L))):=by show _=_;rw[<-X.o];simp
   go_wp2;go_roundg (gk-1)
   case measure=>omega
   case rel=>exact⟨i+1,by omega,by go_num,F1,l⟩
  have l:Z_ (M.all (lG gQ (dH L))=true):=by
   show _=_;rw[<-G.o,a0i (by have:=s.o;omega)];rfl
  clear d t;go_wp2;go_ret;rw[l.o];exact⟨rfl,F⟩
def aca(t:Int)(y:Nat)(h:-1<=t):(t=-1/\uk t y=y)\/∃n:Nat,t=(n:Int)/\uk t y=n:=by
 unfold uk
 by_cases e:t=-1
 .exact .inl ⟨e,a0m e⟩
 right
 refine⟨t.toNat,by omega,?_⟩;rw[a0n e]
theorem arp {base:Nat}{g:Nat} {jM:List LB}(h:SL base w (.slice (some ⟨g,0,none⟩) n cap) ([58]::jM)):n=jM.length+1/\n<=cap/\∀j (hj:j<jM.length),g<w.heap.size/\w.cell? ⟨g,1+j,none⟩=some (.string (bs jM[j])):=by
 obtain⟨a,c,e⟩:=h.shape;simp only[Value.slice.injEq,a0r]at e;refine⟨e.2.1,?_,λj hj=>?_⟩
 ·rcases h.2 with⟨e0,_⟩|⟨g',c',cur,e0,_,_,h3,_⟩
  ·simp at e0
  simp only[Value.slice.injEq,a0r]at e0;rw[e.2.1,e0.2.2];simpa using h3
 have hc:=h.cell (1+j) (by simp;omega);refine⟨World.block_lt_of_cell? w _ hc,?_⟩;rw[hc];simp[a0x,a2w 1 j,a0a hj]
def TlQ(b:World)(x:kN)(w:World)(e:Ending)(w':World):Prop:=∃a c,e=zR (.agg (aO x (.slice a x.bl.length c)))/\RW [] 1 b (.slice a x.bl.length c) (sc x.bl)/\aB [] w w'
def akS(h w:World)(b base:Nat)(rv:iY)(c:CR)(y:kN)(J:Option Addr)(I:Nat)(V:aB [] h w)(R:qz h b rv)(rP:rv.rc=c.rc)(Qh:rv.t0=c.wt)(iB:rv.t1=c.ev)(Dm:rv.t2=c.rp)(q:SL base h rv.ek (byW c.tb c.jM))(hg:-1<=c.wt/\-1<=c.ev/\-1<=c.rp/\c.wt<=99999/\c.ev<=99999/\c.rp<=99999)(jE:c.jM.length<=1000)
 (S:RW [] 1 h (.slice J y.bl.length I) (sc y.bl)) :
 zF 31 #[zP b,.agg (aO y (.slice J y.bl.length I))] w (TlQ h (ny y c) w):=by
 have kM:b<w.heap.size:=a0t R.lt V.size;have s:=R.aC V (by simp);obtain⟨rc,ek,t0,t1,t2,iJ,YJ,vk,vd,alY⟩:=rv;simp only at rP Qh iB Dm q;subst rP Qh iB Dm;have d0:zC w b 0 (zT c.rc):=s.cell 0;have d1:zC w b 1 ek:=s.cell 1;have d2:zC w b 2 (zI c.wt):=s.cell 2;have d3:zC w b 3 (zI c.ev):=s.cell 3;have d4:zC w b 4 (zI c.rp):=s.cell 4;have Bh:=aT;have k45:({ data:=#[45] }:ByteArray).toList=[45]:=aT _;obtain⟨n,C⟩:∃r,r=(if c.rc == [45] then y.rc else c.rc):=⟨_,rfl⟩;have M:ny y c=⟨n,(if c.tb then c.jM else y.bl),uk c.wt y.wt,uk c.ev y.ev,uk c.rp y.rp⟩:=by rw[C];rfl
 obtain⟨yr,D,P,O,N⟩:=y;simp only at S C M |-;have FA:∀v o2:Obj,aB [] w ((w.alloc v).alloc o2):=λv o2=>((aB.refl [] w).alloc _).alloc _
 have HB:∃(Z:Option Addr) (nb cb:Nat) (m:Option Addr) (i:Nat),ek=.slice Z nb cb/\RW [] 1 h (.slice m (if c.tb then c.jM else D).length i) (sc (if c.tb then c.jM else D)) /\
  ((c.tb=false/\nb=0/\m=J/\i=I)\/(c.tb=true/\∃g,Z=some (zA g)/\nb=c.jM.length+1/\nb<=cb/\((cb=1/\m=some (zA g)/\i=0)\/(2<=cb/\m=some (zB g 1)/\i=cb-1)))):=by
  cases t:c.tb
  .rw[t]at q
   obtain⟨a,cap,e⟩:=q.shape;exact⟨a,0,cap,J,I,e,S,.inl ⟨rfl,rfl,rfl,rfl⟩⟩
  rw[t]at q;have p:SL base h ek ([58]::c.jM):=q;obtain⟨a,cap,e⟩:=p.shape;obtain⟨g,rfl⟩:∃g,a=some (zA g):=by
   rcases p.2 with⟨_,x⟩|⟨g,c',cur,f,_⟩
   .simp at x
   rw[e]at f;simp at f;exact⟨g,f.1⟩
  subst e;obtain⟨o,d,h3⟩:=arp p
  by_cases kL:cap=1
  .have X:c.jM=[]:=a0S (by simp at o d;omega)
   refine⟨_,_,cap,some (zA g),0,rfl,?_,.inr ⟨rfl,g,rfl,o,d,.inl ⟨kL,rfl,rfl⟩⟩⟩;rw[X];exact⟨_,0,rfl,by simp[sc],λj H=>by simp[sc]at H⟩
  refine⟨_,_,cap,some (zB g 1),cap-1,rfl,?_,.inr ⟨rfl,g,rfl,o,d,.inr ⟨by simp at d;omega,rfl,rfl⟩⟩⟩;refine⟨_,cap-1,by rw[iC],by rw[iC];simp at d |-;omega,λj H=>?_⟩;rw[iC]at H;obtain⟨q1,q2⟩:=h3 j (by simpa using H);refine⟨g,1,rfl,by simp,q1,λk u T=>?_⟩;have U:k=0:=by
   cases k with
   | zero=>rfl
   | succ k=>simp[sc]at T
  subst U;simp[sc]at T;subst T;simpa using q2
 obtain⟨Z,nb,cb,m,i,rfl,Li,Y⟩:=HB;obtain⟨B,L⟩:∃l,l=(if c.tb then c.jM else D):=⟨_,rfl⟩;rw[<-L]at Li M;have TJ:∀(G F E:Nat),uk c.wt P=G->uk c.ev O=F->uk c.rp N=E->∀v:Obj,TlQ h (ny ⟨yr,D,P,O,N⟩ c) w (zR (.agg #[zT n,.slice m B.length i,zI G,zI F,zI E])) ((w.alloc v).alloc (.cells #[zT n,.slice m B.length i,zI G,zI F,zI E] 63)):=by intro G F E f A z v;rw[M,f,A,z];exact⟨m,i,rfl,Li,FA _ _⟩
 have Ko:c.jM.length<=1000:=jE;obtain⟨IU,IE,iM,hu0,hu1,hu2⟩:=hg;have T0:=aca c.wt P IU;have T1:=aca c.ev O IE;have T2:=aca c.rp N iM;have kv:b<w.heap.size+1:=by omega
 clear R s q S V jE M FA Li;simp only[aO];delta zF;go_in
 rcases Y with⟨t,rfl,rfl,rfl⟩|⟨t,g,rfl,rfl,ay3,⟨rfl,rfl,rfl⟩|⟨ay4,rfl,rfl⟩⟩
 all_goals
  rw[t]at L;simp only[a0A,a0I,a0G]at L;subst L;have Vz:0<c.jM.length+1:=by omega
  cases W:(c.rc == [45])
  all_goals
   rw[W]at C;simp only[a0A,a0I,a0G]at C;subst C;rcases T0 with⟨x,f⟩|⟨n0,x,f⟩
   all_goals
    rw[x]at d2;rcases T1 with⟨o,A⟩|⟨n1,o,A⟩
    all_goals
     rw[o]at d3;rcases T2 with⟨d,z⟩|⟨n2,d,z⟩
     all_goals
      rw[d]at d4;have PP:=TJ _ _ _ f A z;clear TJ f A z x o d;go_wp2;refine bodyPost_ret (qE rfl (w.heap.size+1) _ rfl (Gl (Nf _ _ _) rfl)) rfl ?_
      first
       | exact PP _
       | (have hz:c.jM.length=0:=by omega
          rw[hz]at PP;exact PP _)
theorem Wd {H:Nat->Bool} {C:List CR} {S:Nat->LN}:∀K:LN,K.any H=true->(∀c∈K,S c≠[])->mX H C S K≠[]
 | [],h,_=>by simp at h
 | c::r,h,b=>by
   rw[mX];cases a:H c
   .simp_all[Wd]
   simp_all
inductive sS (C:List CR) (r:Nat):Nat->Prop
 | self:sS C r r
 | step {j p:Nat}:par C j=some p->sS C r p->sS C r j
def sS.ge {C:List CR}(h:sS C r j):r<=j:=by
 induction h with
 | self=>exact a0b _
 | step a _ b=>have:=En a;omega
def sS.up {C:List CR}{c:Nat}(d:par C c=some r)(h:sS C c j):sS C r j:=by
 induction h with
 | self=>exact .step d .self
 | step b _ a=>exact .step b a
theorem sS.one {C:List CR}{a b:Nat}(f:par C a=some r)(hb:par C b=some r)(l:sS C a j)(g:sS C b j):a=b:=by
 induction l with
 | self =>
   cases g with
   | self=>rfl
   | step c e =>
     rw[f]at c;cases c
     have d:=e.ge;have k:=En hb;omega
 | step c e i =>
   cases g with
   | self =>
     rw[hb]at c;cases c
     have d:=e.ge;have k:=En f;omega
   | step h d =>
     rw[c]at h;cases h
     exact i d
theorem Jg {H:Nat->Bool} {C:List CR} {S:Nat->LN}:∀K:LN,∀x∈mX H C S K,∃c∈K,x∈S c
 | [],x,h=>by simp[mX]at h
 | c::r,x,h=>by
   rw[mX]at h
   split at h
   .rcases a0e.1 h with h|h
    .exact⟨c,by simp,h⟩
    split at h
    .obtain⟨d,hd,a⟩:=Jg r x h
     exact⟨d,by simp[hd],a⟩
    simp at h
   obtain⟨d,hd,a⟩:=Jg r x h;exact⟨d,by simp[hd],a⟩
theorem Uu {H:Nat->Bool} {C:List CR} {S:Nat->LN}:∀K:LN,K.Nodup->(∀c∈K,(S c).Nodup)->(∀c∈K,∀d∈K,∀x,x∈S c->x∈S d->c=d)->(mX H C S K).Nodup
 | [],_,_,_=>by simp[mX]
 | c::r,hK,hS,hD=>by
   have hr:=Uu (H:=H) (C:=C) r (a2R.1 hK).2 (λd hd=>hS d (by simp[hd])) (λa ha b hb=>hD a (by simp[ha]) b (by simp[hb]));rw[mX]
   split
   ·grind [hd,Jg]
   exact hr
def Uv {H:Nat->Bool} {C:List CR}:∀f r,r<C.length->(∀x∈iw H C f r,sS C r x/\x<C.length)/\(iw H C f r).Nodup
 | 0,r,_=>⟨by simp[iw],by simp[iw]⟩
 | f+1,r,i=>by
   rw[iw]
   split
   .have e:∀c∈kids C r,(∀x∈iw H C f c,sS C c x/\x<C.length)/\(iw H C f c).Nodup:=λc a=>Uv f c (kX a).1
    refine⟨λx b=>?_,Uu _ (XE C r) (λc a=>(e c a).2) (λc a d hd x b h=>?_)⟩
    .obtain⟨c,a,g⟩:=Jg _ x b
     have:=(e c a).1 x g;exact⟨this.1.up (kX a).2,this.2⟩
    exact sS.one (kX a).2 (kX hd).2 ((e c a).1 x b).1 ((e d hd).1 x h).1
   exact⟨λx b=>by rw[a0w.1 b];exact⟨.self,i⟩,by simp⟩
theorem Q6 {C:List CR}{c:Nat}(h:c∈kids C r) {x y:CR}(f:C[r]?=some x)(e:C[c]?=some y):y.d=x.d+1:=by
 have a:=(kX h).2;unfold par at a;rw[e]at a;have go:∀(d i p:Nat),nQ C d i=some p->(C[p]?.map λc=>c.d+1)=some d:=by
  intro d i
  induction i with
  | zero=>intro p h;simp[nQ]at h
  | succ i b =>
    intro p h;rw[nQ]at h
    split at h
    .grind
    exact b p h
 have:=go _ _ _ a;rw[f]at this;simp at this;omega
theorem XG {H:Nat->Bool} {C:List CR}(hd:∀c∈C,c.d<=5):∀f r x,C[r]?=some x->6<=f+x.d->iw H C f r≠[]
 | 0,r,x,b,h=>by grind
 | f+1,r,x,b,h=>by
   rw[iw]
   split
   .rename_i g
    refine Wd _ g (λc e=>?_);have a:=(kX e).1;have:=Q6 e b (a0a a);exact XG hd f c C[c] (a0a a) (by omega)
   simp
def akT {H:Nat->Bool} {C:List CR}(f r:Nat)(b:r<C.length):(iw H C f r).length<=C.length:=by obtain⟨d,c⟩:=Uv (H:=H) f r b;exact Gz _ _ c (λx a=>(d x a).2)
def Dw(C:List CR)(j:Nat):kN:=(fD C C.length).getD j ⟨[],[],0,0,0⟩
def acb(C:List CR):∀(d n:Nat),fD C n <+: fD C (n+d)
 | 0,n=>a0N _
 | d+1,n=>by rw[show n+(d+1)=(n+d)+1 by omega,fD];exact(acb C d n).trans (a1t _ _)
theorem acd {C:List CR}{p:Nat}(a:p<n)(b:n<=C.length)(d:kN):(fD C n).getD p d=Dw C p:=by have h:=acb C (C.length-n) n;rw[show n+(C.length-n)=C.length by omega]at h;unfold Dw;rw[Ns h _ (by rw[ry];exact a)];simp[List.getD,ry,a]
theorem asW {C:List CR}(b:j<C.length):Dw C j=ny (match par C j with | some p=>Dw C p|none=>lQ) C[j]:=by
 rw[<-acd (n:=j+1) (by omega) (by omega) ⟨[],[],0,0,0⟩,fD,a0a b];rw[a0x,a0K (by rw[ry];exact a0b _),ry,a2v];show ny (uK C (fD C j) j) C[j]=_;unfold uK;cases a:par C j with
 | none=>rfl
 | some p=>simp only;rw[acd (En a) (by omega)]
theorem XI {C:List CR}:∀(j i:Nat) (x:CR),i<j->C[i]?=some x->x.d+1=d->(∀k y,i<k->k<j->C[k]?=some y->y.d+1≠d)->nQ C d j=some i
 | 0,i,x,h,_,_,_=>by omega
 | j+1,i,x,h,a,hd,b=>by
   rw[nQ]
   by_cases e:i=j
   .subst e;rw[a];simp[hd]
   have l:(C[j]?.map λc=>c.d+1)≠some d:=by grind
   rw[a0n l];exact XI j i x (by omega) a hd (λk y g m f=>b k y g (by omega) f)
structure GF(C:List CR)(b:Nat->Nat)(j:Nat)(B:LN)(K:Nat->LN):Prop where
 len:(j=0/\B=[])\/∃a,0<j/\C[j-1]?=some a/\B.length=a.d+1
 way:∀k,k<B.length->∃i x,i<j/\B[k]?=some (b i)/\C[i]?=some x/\x.d=k/\∀q y,i<q->q<j->C[q]?=some y->k<y.d
 Oe:∀i,i<C.length->K (b i)=((List.range j).filter λq=>par C q==some i).map b
theorem GF.step {C:List CR} {b:Nat->Nat} {B:LN} {K:Nat->LN}(r:Steps C)(hb:∀i k,i<C.length->k<C.length->b i=b k->i=k)(h:GF C b j B K) {c:CR}(f:C[j]?=some c):GF C b (j+1) (IM (B,K) (b j,c.d)).1 (IM (B,K) (b j,c.d)).2:=by
 have N:=(a0d.1 f).1;have D:c.d<=B.length/\(0<j->1<=c.d)/\(j=0->c.d=0):=by
  rcases h.len with⟨v,F⟩|⟨a,v,E,F⟩
  .subst v
   have:=(r.1 c f).1;refine⟨by omega,by omega,λ_=>this⟩
  have:=r.2 (j-1) a c E (by rw[show j-1+1=j by omega];exact f);refine⟨by omega,λ_=>this.1,by omega⟩
 have m:(B.take c.d).length=c.d:=by rw[a1k];omega
 have o:par C j=(match (B.take c.d).getLast? with | none=>none|some u=>par C j)/\(∀u,(B.take c.d).getLast?=some u->∃i,i<j/\u=b i/\par C j=some i):=by
  by_cases hd:c.d=0
  .have J:(B.take c.d).getLast?=none:=by rw[hd];simp
   rw[J];refine⟨?_,λu g=>by simp at g⟩;have w:j=0:=by grind
   subst w;unfold par;rw[f];rfl
  obtain⟨i,x,l,G,t,P,O⟩:=h.way (c.d-1) (by omega);have I:(B.take c.d).getLast?=some (b i):=by grind
  have H:par C j=some i:=by grind [par,XI]
  rw[I];refine⟨rfl,λu g=>?_⟩;simp at g;exact⟨i,l,g.symm,H⟩
 refine⟨.inr ⟨c,by omega,by simpa using f,?_⟩,?_,?_⟩
 .grind [IM]
 .intro k n
  simp only[IM]at n |-;rw[a0p,m]at n;simp at n;rcases a2a k c.d with l|l
  .obtain⟨i,x,U,T,M,L,S⟩:=h.way k (by omega)
   refine⟨i,x,by omega,?_,M,L,λq y b1 b2 R=>?_⟩
   .grind
   grind
  grind
 intro i A;have z:(List.range (j+1)).filter (λq=>par C q==some i)=(List.range j).filter (λq=>par C q==some i)++(if par C j==some i then [j] else []):=by
  rw[List.range_succ,a3v]
  congr 1
  cases hh:(par C j==some i)<;>simp[hh]
 rw[z,a0P,<-h.Oe i A];simp only[IM];cases s:(B.take c.d).getLast? with
 | none=>rw[s]at o;rw[o.1];simp
 | some u =>
   obtain⟨p,l,G,t⟩:=o.2 u s;simp only;rw[t]
   by_cases e:b i=u
   .grind
   grind
theorem aeO:∀{l:LN},l.Nodup->∀(i k x:Nat),l[i]?=some x->l[k]?=some x->i=k
 | [],_,i,k,x,h,_=>by simp at h
 | y::l,a,0,0,x,_,_=>rfl
 | y::l,a,0,k+1,x,c,b=>by grind
 | y::l,a,i+1,0,x,c,b=>by grind
 | y::l,a,i+1,k+1,x,c,b=>by simp at c b;rw[aeO (a2R.1 a).2 i k x c b]
theorem aiZ {C:List CR} {X:List (Nat × iY × RR)}(hs:Steps C)(hd:X.map (λx=>x.2.2.d)=C.map (·.d))(hn:(X.map (·.1)).Nodup)(i:Nat)(hi:i<C.length):(sD (xd X)).2 ((X.map (·.1)).getD i 0)=(kids C i).map λj=>(X.map (·.1)).getD j 0:=by
 have hl:X.length=C.length:=by have:=congrArg List.length hd;simpa using this
 have hb:∀i k,i<C.length->k<C.length->(X.map (·.1)).getD i 0=(X.map (·.1)).getD k 0->i=k:=by grind [aeO]
 have key:∀j,j<=C.length->GF C (λk=>(X.map (·.1)).getD k 0) j (sD ((xd X).take j)).1 (sD ((xd X).take j)).2:=by
  intro j
  induction j with
  | zero =>
    intro _;refine⟨.inl ⟨rfl,rfl⟩,λk hk=>?_,λi _=>?_⟩
    ·simp[sD]at hk
    simp[sD]
  | succ j ih =>
    intro hj;have hx:(xd X)[j]?=some ((X.map (·.1)).getD j 0,(C[j]'(by omega)).d):=by
     have h1:j<X.length:=by omega
     have h2:X[j].2.2.d=(C[j]'(by omega)).d:=by
      have:=congrArg (λl=>l[j]?) hd;simp only[a0Q,a0a h1,a0a (by omega:j<C.length)]at this;simpa using this
     unfold xd;rw[a0Q,a0a h1,a0x,a0Q,a0a h1];simp[h2]
    have e:sD ((xd X).take (j+1))=IM (sD ((xd X).take j)) ((X.map (·.1)).getD j 0,(C[j]'(by omega)).d):=by
     unfold sD;rw[a1c,hx];simp
    rw[e];exact GF.step hs hb (ih (by omega)) (a0a (by omega))
 have:=(key C.length (a0b _)).Oe i hi;rw[a0C (by simp[xd];omega)]at this;rw[this];unfold kids
 congr 1
 apply List.filter_congr;intro q hq
 by_cases h:par C q=some i
 ·have:=En h
  simp[h,this]
 simp[h]
theorem aeP {o:Oper} {Q:Exit->Act->World->Prop}(p:o.guard=none){s x:Operand}(t e:TypeId)(k f:Nat)
 (P:(Tryz.prog.info? e).map (λi=>(i.zero,i.size,i.bytes))=some (some z,k,f)) (ht:Tryz.prog.underlying t=some (.slice e)) (M:z.cells.size=k) (L:0<k)
 (ho:o.op=.call { callee:=.builtin .append,args:=#[s,x],argTypes:=#[t,t] })
 (base b2:Nat) (v:Value) (vs us:List (List Value)) (c m c2 N:Nat) (A:a.eval s=v) (l:OW e k base w v vs) (r:a.eval x=zS c m c2) (d:OW e k b2 w (zS c m c2) us) (B:m=us.length) (O:0<m) (E:N=vs.length+m)
 (R:∀u∈us,∀y∈u,y.oneCell'=true) (hlen:(vs.length+m)*f<=140737488355328) (T:vs.length+m<=140737488355328) (n:base<=w.heap.size)
 (h:∀g cap w',OW e k base w' (zS g N cap) (vs++us)->w.grownBy w' v.ownBlock->(v.ownBlock=some g\/g=w.heap.size)->g<w'.heap.size->wpList Tryz.prog ops Q rest (a.put o.dst (zS g N cap)) w') :
 wpList Tryz.prog ops Q (o::rest) a w:=by
 subst E;subst B;obtain⟨q,D,gT,J,I⟩:=kg P;refine wpList_append_lies w p s x t ho base e q z k f ht D gT J I M L v vs.length vs.flatten A l.1 (zA c) us.length c2 us.flatten r (by rw[d.1.1]) ?_ ?_ O (by unfold maxLen;omega) hlen n w.heap.size rfl ?_
 .intro j u C
  exact World.ownsRow.cells d.1 (g:=c) rfl j u C
 .grind [List.mem_flatten]
 intro g cap w' S H G F;refine h g cap w' ⟨?_,?_⟩ H G F
 .grind
 intro y b;rcases a0e.1 b with b|b
 .exact l.2 y b
 exact d.2 y b
def ars {o:Oper} {Q:Exit->Act->World->Prop}(b:o.guard=none){s x:Operand}(t e:TypeId)(k p:Nat)
 (n:(Tryz.prog.info? e).map (λi=>(i.zero,i.size,i.bytes))=some (some z,k,p)) (ht:Tryz.prog.underlying t=some (.slice e))
 (ho:o.op=.call { callee:=.builtin .append,args:=#[s,x],argTypes:=#[t,t] })
 (base:Nat) (v:Value) (vs:List (List Value)) (f:a.eval s=v) (m:OW e k base w v vs) (d:a.eval x=zN) (h:wpList Tryz.prog ops Q rest (a.put o.dst v) w) :
 wpList Tryz.prog ops Q (o::rest) a w:=by
 obtain⟨c,j,gT,r,q⟩:=kg n;have g:=run_append_owned_none (P:=Tryz.prog) w base t o.type e c k ht j v _ _ m.1;refine wpList_plain b λ_ l=>?_
 unfold Oper.wp execOp;simp only[ho,resolve,invoke,builtin,Sem.run_bind,Sem.run_pure,Result.andThen_ok,List.map_toArray,a0E,a1V,f,d,g];exact l _ _ h
theorem Ml {H:Nat->Bool} {C:List CR} {S:Nat->LN}:∀K:LN,K.any H=false->mX H C S K=[]
 | [],_=>rfl
 | c::r,h=>by simp_all[mX,Ml]
def YL(C:List CR)(j:Nat):kN:=match par C j with | some p=>Dw C p|none=>lQ
def asX {C:List CR} {c:CR}(h:C[j]?=some c):Dw C j=ny (YL C j) c:=by have a:=(a0d.1 h).1;rw[asW a,(a0d.1 h).2];rfl
theorem aru {C:List CR}(h:j∈kids C i):par C j=some i:=by grind [kids]
def WkQ(c w:World)(a:List kN)(e:Ending)(w':World):Prop :=
 ∃v b,e=zR v/\OW 63 5 w.heap.size w' v (fZ b)/\dV Gj [] c b a/\aB [] w w'/\(a=[]->v=zN)
def akU {cs:Array Value} {x:kN}(h:Gj.rel [] w cs x):∀y∈cs.toList,y.oneCell'=true:=by obtain⟨c,rfl,a,cap,rfl,_⟩:=h;intro y b;simp[aO]at b;rcases b with rfl|rfl|rfl|rfl|rfl<;>rfl
theorem aeQ {d:List (Array Value)} {b:List kN}(h:dV Gj [] w d b):∀u∈fZ d,∀y∈u,y.oneCell'=true:=by intro u a y f;unfold fZ at a;obtain⟨cs,e,rfl⟩:=a0q.1 a;obtain⟨n,c⟩:=a1T e;have g:=(a0d.1 c).1;exact akU (h.2 n cs (b[n]'(by rw[<-h.1];exact g)) c (a0a _)) y f
def aof {e b:List (Array Value)} {f gs:List kN}(h:dV Gj [] w e f)(k:dV Gj [] w b gs):dV Gj [] w (e++b) (f++gs):=by
 refine⟨by rw[a0p,a0p,h.1,k.1],λn cs x d c=>?_⟩;rcases a2a n e.length with a|a
 .rw[a0s a]at d
  rw[a0s (by rw[<-h.1];exact a)]at c;exact h.2 n cs x d c
 rw[a0K a]at d;rw[a0K (by rw[<-h.1];exact a),<-h.1]at c;exact k.2 _ cs x d c
end
section
variable {w w' w0:World} {L:List kW} {v vL vb:Value} {cb k pb:Nat} {vs:List (List Value)} {t:LB} {cs:Array Value} {A:LN} {V:V6} {m:mP}
structure WCx(w0:World)(C:List CR)(X:List (Nat × iY × RR))(L:List kW)(vL:Value):Prop where
 cf:∃wA cb base,CfR wA w0 cb base C X
 st:Steps C
 ln:C.length<=16
 gd:∀c∈C,xN c/\c.d<=5
 re:∀c∈C,∀m∈c.ifs,(m.2.1=2\/m.2.1=3)->gH m.2.2=0
 lr:LR w0 vL L
 lv:∀n,(dH L n).length<=900
abbrev Dk(X:List (Nat × iY × RR))(i:Nat):Nat:=(X.map (·.1)).getD i 0
structure RtA(w0:World)(C:List CR)(X:List (Nat × iY × RR))(i:Nat)(c:CR)(rv:iY):Prop where
 rb:qz w0 (Dk X i) rv
 rc:rv.rc=c.rc/\rv.t0=c.wt/\rv.t1=c.ev/\rv.t2=c.rp/\rv.on=c.co
 Im:∃base,SL base w0 rv.ek (byW c.tb c.jM)
 kd:∃base,LP base w0 rv.vk ((kids C i).map (Dk X))
 ifs:Ls w0 rv.iJ (c.ifs.map qG) (λ_=>True)
theorem WCx.at {C:List CR} {X:List (Nat × iY × RR)}(h:WCx w0 C X L vL) {i:Nat} {c:CR}(f:C[i]?=some c):∃rv,RtA w0 C X i c rv:=by
 obtain⟨j,cb,base,a⟩:=h.cf;have g:=(a0d.1 f).1;have k:X.length=C.length:=by have:=congrArg List.length a.eq;simpa using this
 obtain⟨x,b⟩:∃x,X[i]?=some x:=⟨X[i]'(by omega),a0a (by omega)⟩;have e:=a0B b;have hb:Dk X i=x.1:=by unfold Dk;rw[a0x,a0Q,b];rfl
 have he:x.2.2=qN c:=by have:=congrArg (λl=>l[i]?) a.eq;simp only[a0Q,b,f]at this;simpa using this
 have hd:X.map (λx=>x.2.2.d)=C.map (·.d):=by have:=congrArg (λl=>l.map RR.d) a.eq;simpa[a2m,Function.comp_def,qN] using this
 refine⟨x.2.1,?_,?_,⟨base,?_⟩,⟨base,?_⟩,?_⟩
 .rw[hb];exact a.rb x e
 .have:=a.rc x e
  rw[he]at this;exact this
 .have:=a.Im x e
  rw[he]at this;exact this
 .have:=a.kd x e
  rw[<-hb,aiZ h.st hd a.nd i g]at this;exact this
 have:=a.ifs i x b;rw[he]at this;exact this
def GH(H:Nat->Bool)(C:List CR)(f i:Nat):List kN:=if H i then (iw H C f i).map (Dw C) else []
def WkC(w0:World)(C:List CR)(X:List (Nat × iY × RR))(L:List kW)(vL:Value)(f:Nat):Prop :=
 ∀(i:Nat) (c:CR) (w:World) (a:Option Addr) (b:Nat),C[i]?=some c->6<=f+c.d->aB [] w0 w->RW [] 1 w0 (.slice a (YL C i).bl.length b) (sc (YL C i).bl) ->
  zF 19 #[zP (Dk X i),vL,.agg (aO (YL C i) (.slice a (YL C i).bl.length b))] w (WkQ w0 w (GH (hold gQ (dH L) C) C f i))
def asY {e:TypeId}{base:Nat} {a:Option Addr} {n c:Nat}(h:OW e k base w (.slice a n c) vs):n<=c:=by
 rcases h.1.2 with⟨b,_⟩|⟨g,cap,cur,b,_,_,d,_⟩
 .simp only[Value.slice.injEq]at b;omega
 simp only[Value.slice.injEq]at b;obtain⟨_,i,f⟩:=b;omega
def akV {C:List CR} {X:List (Nat × iY × RR)}(hx:WCx w0 C X L vL)(f:Nat)(ih:WkC w0 C X L vL f):WkC w0 C X L vL (f+1):=by
 intro i c w a cy hc hd hf hrw;obtain⟨rv,zV⟩:=hx.at hc;have hcm:=a0B hc;obtain⟨jP,hdp⟩:=hx.gd c hcm;obtain⟨u,hu⟩:∃u,u=YL C i:=⟨_,rfl⟩;rw[<-hu]at hrw |-;obtain⟨H,hHd⟩:∃H,H=hold gQ (dH L) C:=⟨_,rfl⟩;rw[<-hHd];have hH:c.ifs.all (lG gQ (dH L))=H i:=by rw[hHd];unfold hold;rw[hc]
 have Fa:Z_ (aB [] w (w.alloc (.cells (aO u (.slice a u.bl.length cy)) 63))):=(aB.refl [] w).alloc _;have Fa0:=aj (hf.trans Fa);have R1:Z_ ((w.alloc (.cells (aO u (.slice a u.bl.length cy)) 63)).heap[w.heap.size]?=some (.cells (aO u (.slice a u.bl.length cy)) 63 (0,0))):=bD _ _;have NM:=aj (acB (w.alloc (.cells (aO u (.slice a u.bl.length cy)) 63)) (Dk X i) rv c vL L (zV.rb.aC Fa0.o (by simp)) (zV.ifs.aC Fa0) (hx.re c hcm) (λm hm=>(jP.ifs m hm).kind) (by have:=jP.ifl;omega) (hx.lr.aC Fa0.o (by simp)) hx.lv);rw[hH]at NM;have HA:=asX hc;rw[<-hu]at HA;have HX:=aj hx;have Og:=aj zV;have IH:=aj ih;have Li:=aj hrw;have HGD:=aj jP;have HCI:=aj hc;have HHd:=aj hHd;have HHA:=aj HA;obtain⟨avL,cvL,evL,_⟩:=hx.lr;subst evL;have jE:Dk X i<w.heap.size:=a0t zV.rb.lt hf.size;have hd5:c.d<=5:=hdp;have hd6:6<=f+1+c.d:=hd;obtain⟨b,hb⟩:∃b,b=Dk X i:=⟨_,rfl⟩;rw[<-hb]at NM jE |-;have HB:=aj hb;obtain⟨ur,ub,u0,u1,u2⟩:=u;simp only at Li NM R1 Fa Fa0 |-;have Qb:=aj hf;clear hx zV ih hrw jP hc hHd HA hf hH hb hu hcm hdp hd;simp only[aO]at NM R1 Fa Fa0 |-;delta zF;go_in
 go_wp2_with fail
 refine(NM.o).mono ?_;rintro e w2 ⟨rfl,aR⟩;have F2:=aj (Fa.o.trans aR);have R2:w2.heap[w.heap.size]?=some (.cells #[zT ur,.slice a ub.length cy,zI u0,zI u1,zI u2] 63 (0,0)):=(aR.block w.heap.size (by simp) (by simp)).trans R1;have F20:=aj (Fa0.o.trans aR);clear NM aR R1 Fa Fa0;cases hy:H i
 case false =>
  have HO:Z_ (GH H C (f+1) i=[]):=by show _=_;unfold GH;rw[hy];rfl
  clear R2;go_wp2;go_ret;rw[HO.o];exact⟨zN,[],rfl,OW.nil _ _ _ _,dV.nil _ _ _,F2,λ_=>rfl⟩
 case true =>
 have d0:zC w2 w.heap.size 0 (zT ur):=by simp[World.cell?,R2]
 have d1:zC w2 w.heap.size 1 (.slice a ub.length cy):=by simp[World.cell?,R2]
 have d2:zC w2 w.heap.size 2 (zI u0):=by simp[World.cell?,R2]
 have d3:zC w2 w.heap.size 3 (zI u1):=by simp[World.cell?,R2]
 have d4:zC w2 w.heap.size 4 (zI u2):=by simp[World.cell?,R2]
 have RR2:=aj R2;obtain⟨bb,xL⟩:=Og.o.Im;have Vy:=HGD.o;have NT:=aj (akS w0 w2 b bb rv c ⟨ur,ub,u0,u1,u2⟩ a cy F20.o (by rw[HB.o];exact Og.o.rb) Og.o.rc.1 Og.o.rc.2.1 Og.o.rc.2.2.1 Og.o.rc.2.2.2.1 xL ⟨Vy.wt.1,Vy.ev.1,Vy.rp.1,Vy.wt.2,Vy.ev.2,Vy.rp.2⟩ (by have:=Vy.byl;omega) Li);rw[<-HHA.o]at NT;simp only[aO]at NT;clear R2 xL Vy;go_wp2_with fail
 refine(NT.o).mono ?_;rintro e w3 ⟨a3,c3,rfl,Ak,bW⟩;have F3:=aj (F2.o.trans bW);have R3:w3.heap[w.heap.size]?=some (.cells #[zT ur,.slice a ub.length cy,zI u0,zI u1,zI u2] 63 (0,0)):=(bW.block w.heap.size (a0c.1 RR2).1 (by simp)).trans RR2;obtain⟨y,hye⟩:∃y,y=Dw C i:=⟨_,rfl⟩;rw[<-hye]at Ak |-;have HYE:=aj hye;obtain⟨yr,yb,y0,y1,y2⟩:=y;have e0:zC w3 w.heap.size 0 (zT ur):=by simp[World.cell?,R3]
 have e1:zC w3 w.heap.size 1 (.slice a ub.length cy):=by simp[World.cell?,R3]
 have e2:zC w3 w.heap.size 2 (zI u0):=by simp[World.cell?,R3]
 have e3:zC w3 w.heap.size 3 (zI u1):=by simp[World.cell?,R3]
 have e4:zC w3 w.heap.size 4 (zI u2):=by simp[World.cell?,R3]
 have fz:∀o,w3.frozen? (zB w.heap.size o)=false:=λo=>by simp[World.frozen?,R3]
 have R4:=aj (yZ (zT yr) (.slice a3 yb.length c3) (zI y0) (zI y1) (zI y2) R3);have F4:Z_ (aB [] w (((((w3.setCell (zA w.heap.size) (zT yr)).setCell (zB w.heap.size 1) (.slice a3 yb.length c3)).setCell (zB w.heap.size 2) (zI y0)).setCell (zB w.heap.size 3) (zI y1)).setCell (zB w.heap.size 4) (zI y2))):=F3.o.above (l8 _ _ _ _ _ _ _) (by simp);have PZ:=aj Ak;have HY:=aj hy;clear d0 d1 d2 d3 d4 RR2 R3 bW Ak hye NT F2 F3 hy;simp only[aO];obtain⟨K,hK⟩:∃K,K=kids C i:=⟨_,rfl⟩;have HK:=aj hK;obtain⟨bk,hkd⟩:=Og.o.kd;rw[<-hK]at hkd;have HKD:=aj hkd;obtain⟨ak,ck,Uc⟩:=aW hkd;rw[a0y]at Uc;have HVK:=aj Uc;obtain⟨nK,hnK⟩:∃n,n=K.length:=⟨_,rfl⟩;have HNK:=aj hnK;have hn16:nK<=16:=by
  rw[hnK,hK];have h1:(kids C i).length<=C.length:=by unfold kids;exact a0h (List.length_filter_le _ _) (by simp)
  have h2:=HX.o.ln;omega
 obtain⟨Uw,aeR⟩:∃T,T=(mX H C (iw H C f) K).map (Dw C):=⟨_,rfl⟩;have axu:=aj aeR;have hS:∀j∈K,iw H C f j≠[]:=by
  intro j hj;rw[hK]at hj;have mK:=(kX hj).1;have:=Q6 hj HCI.o (a0a mK);exact XG (λc hc=>(HX.o.gd c hc).2) f j _ (a0a mK) (by omega)
 have HS:=aj hS;have hT16:Uw.length<=16:=by
  rw[aeR,a0y];cases ha:K.any H
  ·rw[Ml K ha];simp
  have h1:=akT (H:=H) (C:=C) (f+1) i (a0d.1 HCI).1;rw[iw,<-hK,a0m ha]at h1;have h2:=HX.o.ln;omega
 have ame:Z_ (GH H C (f+1) i=if Uw.length=0 then [Dw C i] else Uw):=by
  show _=_;unfold GH;rw[HY.o,a0m rfl,iw,<-hK];cases ha:K.any H
  ·rw[aeR,Ml K ha];simp
  have bJ:=Wd (C:=C) K ha hS;have:¬ Uw.length=0:=by
   rw[aeR,a0y];intro e;exact bJ (a0S e)
  rw[a0n this,a0m rfl,aeR]
 have HB7:Z_ (∀W,aB [] w0 W->zC W b 7 (.slice ak nK ck)):=λW hW=>by
  rw[HB.o];exact((Og.o.rb.aC hW (by simp)).cell 7).trans (by rw[hnK,<-HVK.o];rfl)
 clear hkd Uc hnK aeR hS hK;go_upto_block 0 with fail
 generalize (((((w3.setCell (zA w.heap.size) (zT yr)).setCell (zB w.heap.size 1) (.slice a3 yb.length c3)).setCell (zB w.heap.size 2) (zI y0)).setCell (zB w.heap.size 3) (zI y1)).setCell (zB w.heap.size 4) (zI y2))=w4 at R4 F4 |-;have z4:=F4.o.size;have AO:=(a0c.1 R4).1;clear e0 e1 e2 e3 e4 fz;go_cut [8] (λv8 wc=>True/\∃bB,OW 63 5 (w.heap.size+1) wc v8 (fZ bB)/\dV Gj [] w0 bB Uw/\wc.heap[w.heap.size]?=some (.cells #[zT yr,.slice a3 yb.length c3,zI y0,zI y1,zI y2] 63 (0,0))/\aB [] w wc)
 case first =>
  go_wp2_with fail
  go_loopg [8,9] nK (λk v8 v9 wr=>∃(q:Nat) (bB:List (Array Value)) (O:List kN),q+k=nK/\v9=zI q/\OW 63 5 (w.heap.size+1) wr v8 (fZ bB)/\dV Gj [] w0 bB O/\O++(mX H C (iw H C f) (K.drop q)).map (Dw C)=Uw/\wr.heap[w.heap.size]?=some (.cells #[zT yr,.slice a3 yb.length c3,zI y0,zI y1,zI y2] 63 (0,0))/\aB [] w wr)
  case atStart=>exact⟨0,[],[],by omega,rfl,OW.nil _ _ _ _,dV.nil _ _ _,by rw[axu.o];simp,R4,F4⟩
  case round =>
   clear R4 F4 z4 AO;obtain⟨q,bB,O,hqk,rfl,ho,hi,heq,hr,bH⟩:=hrel;obtain⟨a8,c8,rfl⟩:=ho.shape;obtain⟨n8,Od⟩:∃n,n=(fZ bB).length:=⟨_,rfl⟩;rw[<-Od]at ho |-;have HO:=aj ho;have HI:=aj hi;have HEQ:=aj heq;have HR:=aj hr;have F:=aj bH;have F0:=aj (Qb.o.trans bH);have HN8:=aj Od;have arv:O.length<=16:=by have:=congrArg List.length heq;rw[a0p]at this;omega
   have ay5:n8<=16:=by rw[Od,jA,hi.1];exact arv
   have ZP:n8<=c8:=asY ho;have b7:=HB7.o wr F0;have zr:=bH.size;have IU:=(a0c.1 hr).1;clear ho hi heq bH Od arv
   by_cases aL:q<nK
   ·obtain⟨j,hj⟩:∃j,K[q]?=some j:=⟨K[q]'(by rw[<-HNK.o];exact aL),a0a (by rw[<-HNK.o];exact aL)⟩
    have hjK:j∈kids C i:=by rw[<-HK.o];exact a0B hj
    have mK:=(kX hjK).1;obtain⟨cj,Lt⟩:∃c,C[j]?=some c:=⟨C[j],a0a mK⟩;have hdj:=Q6 hjK HCI.o Lt;obtain⟨rj,hrj⟩:=HX.o.at Lt;obtain⟨gk',hak,hpk⟩:∃g,ak=some (zA g)/\∀W,aB [] w0 W->zC W g q (zP (Dk X j)):=by
     have h:=HKD.o;rw[HVK.o]at h;rcases h.2 with⟨e,h0⟩|⟨g,cap,cur,e,hb,hg,rest⟩
     ·rw[a0y]at h0;have:=HNK.o;omega
     simp only[Value.slice.injEq]at e;obtain⟨rfl,_,rfl⟩:=e;refine⟨g,rfl,?_⟩;have h3:=World.ownsRow.cells h (g:=g) rfl q (tC (Dk X j)) (by rw[a0Q,a0Q,hj];rfl);rw[add0]at h3;exact λW hW=>(hW.cell (p:=(zB g q)) (bY h3) (by simp)).trans h3
    subst hak;have pk:=hpk wr F0;have HPK:=aj hpk;clear hpk;have x0:zC wr w.heap.size 0 (zT yr):=by simp[World.cell?,hr]
    have x1:zC wr w.heap.size 1 (.slice a3 yb.length c3):=by simp[World.cell?,hr]
    have x2:zC wr w.heap.size 2 (zI y0):=by simp[World.cell?,hr]
    have x3:zC wr w.heap.size 3 (zI y1):=by simp[World.cell?,hr]
    have x4:zC wr w.heap.size 4 (zI y2):=by simp[World.cell?,hr]
    have upj:YL C j=⟨yr,yb,y0,y1,y2⟩:=by unfold YL;rw[aru hjK];exact HYE.o.symm
    have NK0:∀W,aB [] w0 W->zF 19 #[zP (Dk X j),.slice avL L.length cvL,.agg (aO (YL C j) (.slice a3 (YL C j).bl.length c3))] W (WkQ w0 W (GH H C f j)):=λW hW=>by
     have:=IH.o j cj W a3 c3 Lt (by omega) hW (by rw[upj];exact PZ);rw[<-HHd.o]at this;exact this
    rw[upj]at NK0;simp only[aO]at NK0;have NK:=aj NK0;have FN:Z_ (aB [] wr wr.drew):=(aB.refl [] wr).drew;have WS:Z_ (mX H C (iw H C f) (K.drop q)=if H j then iw H C f j++(if cj.co then mX H C (iw H C f) (K.drop (q+1)) else []) else mX H C (iw H C f) (K.drop (q+1))):=by
     show _=_;have Yz:K.drop q=j::K.drop (q+1):=by
      have h1:=(a0d.1 hj).1;rw[a0k h1,(a0d.1 hj).2]
     rw[Yz,mX,Lt];simp
    have HON:Z_ (∀W,aB [] w0 W->zC W (Dk X j) 6 (.bool cj.co)):=λW hW=>by
     exact((hrj.rb.aC hW (by simp)).cell 6).trans (by rw[<-hrj.rc.2.2.2.2];rfl)
    have HSJ:Z_ (iw H C f j≠[]):=HS.o j (a0B hj);obtain⟨bj,hbj⟩:∃b,b=Dk X j:=⟨_,rfl⟩;rw[<-hbj]at pk NK HON HPK;clear hr hj hjK Lt hrj upj NK0 hbj;go_wp2_with fail
    go_region_with (go_at_call 19;refine(NK.o _ (F0.o.trans FN)).mono ?_;rintro e w5 ⟨v5,XJ,rfl,ho5,hi5,xe,NV⟩)
    all_goals
     have F5:=aj (FN.o.trans xe);have Fu:=F5.o.size;have HO5:=aj (HO.o.aC (S:=[]) F5.o (by simp));have IG:=aj ((F5.o.block w.heap.size IU (by simp)).trans HR);have F05:=aj (F0.o.trans F5);have FW5:=aj (F.o.trans F5);have b75:=HB7.o w5 F05;have pk5:=HPK.o w5 F05;have on5:=HON.o w5 F05;have ay6:=bY on5;have ay7:=bY pk5;have hb5:=bY b75;clear x0 x1 x2 x3 x4 pk b7 NK xe;cases hHj:H j
     ·have hv5:v5=zN:=NV (by unfold GH;rw[hHj];rfl)
      subst hv5;have HE2:Z_ (O++(mX H C (iw H C f) (K.drop (q+1))).map (Dw C)=Uw):=by
       show _=_;rw[<-HEQ.o,WS.o,hHj];rfl
      clear ho5 hi5 NV hHj WS HEQ;go_wp2_with (at_builtin;refine ars rfl 32 63 5 64 CV Tryz.underlying32 rfl (w.heap.size+1) (.slice a8 n8 c8) (fZ bB) rfl HO5.o rfl ?_)
      go_roundg (gk-1)
      case measure=>omega
      case rel=>exact⟨q+1,bB,O,by omega,by go_num,HO5,HI,HE2,IG,FW5⟩
     have hoj:GH H C f j=(iw H C f j).map (Dw C):=by unfold GH;rw[hHj];rfl
     rw[hoj]at hi5;have amf:0<(fZ XJ).length:=by
      rw[jA,hi5.1,a0y];exact a1O.2 HSJ
     obtain⟨a5,c5,rfl⟩:=ho5.shape;obtain⟨g5,rfl⟩:∃g,a5=some (zA g):=by
      rcases ho5.1.2 with⟨e1,h1⟩|⟨g,c,cur,e1,_⟩
      ·omega
      simp at e1;exact⟨g,e1.1⟩
     obtain⟨m5,hm5⟩:∃m,m=(fZ XJ).length:=⟨_,rfl⟩;rw[<-hm5]at ho5 amf |-;have Ki:0<m5:=amf;have HM5:=aj hm5;have HOX:=aj ho5;have HI5:=aj hi5;have HI2:=aj (aof HI.o hi5);have arv:n8+m5<=16:=by
      have h1:=congrArg List.length HEQ;rw[a0p,WS.o,hHj,a0y]at h1;simp only[a0G,a0p]at h1;rw[HN8.o,hm5,jA,jA,HI.o.1,hi5.1,a0y];omega
     have LA:Z_ (fZ bB++fZ XJ=fZ (bB++XJ)):=by show _=_;simp[fZ]
     cases Sz:cj.co
     ·have HE2:Z_ (O++(iw H C f j).map (Dw C)=Uw):=by
       show _=_;rw[<-HEQ.o,WS.o,hHj,Sz];simp
      rw[Sz]at HON on5;clear ho5 hi5 NV hHj WS HEQ hoj hm5 amf Sz;go_wp2_with (at_builtin;refine aeP rfl 32 63 5 64 CV Tryz.underlying32 rfl (by decide) rfl (w.heap.size+1) wr.drew.heap.size (.slice a8 n8 c8) (fZ bB) (fZ XJ) g5 m5 c5 (n8+m5) rfl HO5.o rfl HOX.o HM5.o Ki (by rw[HN8.o]) (aeQ HI5) (by rw[<-HN8.o];omega) (by rw[<-HN8.o];omega) (by omega) ?_;intro g9 c9 w9 aS aH bq iE;have O9:=aj aS;have hR9:=(aH.block w.heap.size (a0c.1 IG).1 (λe=>by have:=(HO5.o.lt e.symm).1;omega)).trans IG;have HR9:=aj hR9;have F9:=aj (FW5.o.grown aH (λk hk=>.inr (by have:=(HO5.o.lt hk).1;omega)));have F09:=aj (Qb.o.trans F9);have b79:=HB7.o w9 F09;have pk9:=HPK.o w9 F09;have on9:=HON.o w9 F09;clear aS aH bq iE hR9)
      go_meet;exact⟨trivial,bB++XJ,by rw[<-LA.o];exact O9,by rw[<-HE2.o];exact HI2,HR9,F9⟩
     have HE2:Z_ ((O++(iw H C f j).map (Dw C))++(mX H C (iw H C f) (K.drop (q+1))).map (Dw C)=Uw):=by
      show _=_;rw[<-HEQ.o,WS.o,hHj,Sz];simp
     rw[Sz]at HON on5;clear ho5 hi5 NV hHj WS HEQ hoj hm5 amf Sz;go_wp2_with (at_builtin;refine aeP rfl 32 63 5 64 CV Tryz.underlying32 rfl (by decide) rfl (w.heap.size+1) wr.drew.heap.size (.slice a8 n8 c8) (fZ bB) (fZ XJ) g5 m5 c5 (n8+m5) rfl HO5.o rfl HOX.o HM5.o Ki (by rw[HN8.o]) (aeQ HI5) (by rw[<-HN8.o];omega) (by rw[<-HN8.o];omega) (by omega) ?_;intro g9 c9 w9 aS aH bq iE;have O9:=aj aS;have hR9:=(aH.block w.heap.size (a0c.1 IG).1 (λe=>by have:=(HO5.o.lt e.symm).1;omega)).trans IG;have HR9:=aj hR9;have F9:=aj (FW5.o.grown aH (λk hk=>.inr (by have:=(HO5.o.lt hk).1;omega)));have F09:=aj (Qb.o.trans F9);have b79:=HB7.o w9 F09;have pk9:=HPK.o w9 F09;have on9:=HON.o w9 F09;clear aS aH bq iE hR9)
     go_roundg (gk-1)
     case measure=>omega
     case rel=>exact⟨q+1,bB++XJ,_,by omega,by go_num,by rw[<-LA.o];exact O9,HI2,HE2,HR9,F9⟩
   have HE:Z_ (O=Uw):=by
    show _=_;rw[<-HEQ.o,a0i (by have:=HNK.o;omega)];simp[mX]
   clear hr;go_wp2;go_meet;exact⟨trivial,bB,HO,by rw[<-HE.o];exact HI,HR,F⟩
 case rest =>
  obtain⟨_,bB,ho,hi,hr,hfc⟩:=hcut;obtain⟨w5,hw5⟩:∃x,x=wc:=⟨_,rfl⟩;rw[<-hw5]at ho hr hfc |-;clear hw5;obtain⟨a8,c8,rfl⟩:=ho.shape;obtain⟨n8,Od⟩:∃n,n=(fZ bB).length:=⟨_,rfl⟩;rw[<-Od]at ho |-;have hnT:n8=Uw.length:=by rw[Od,jA,hi.1]
  have HO:=aj ho;have HI:=aj hi;have F:=aj hfc;have zc:=hfc.size
  by_cases h0:n8=0
  ·subst h0
   have hT0:Uw=[]:=a0S hnT.symm;have Cm:bB=[]:=a0S (by rw[jA]at Od;exact Od.symm);have HE:Z_ (GH H C (f+1) i=[Dw C i]):=by show _=_;rw[ame.o,a0m (by rw[<-hnT])]
   have x0:zC w5 w.heap.size 0 (zT yr):=by simp[World.cell?,hr]
   have x1:zC w5 w.heap.size 1 (.slice a3 yb.length c3):=by simp[World.cell?,hr]
   have x2:zC w5 w.heap.size 2 (zI y0):=by simp[World.cell?,hr]
   have x3:zC w5 w.heap.size 3 (zI y1):=by simp[World.cell?,hr]
   have x4:zC w5 w.heap.size 4 (zI y2):=by simp[World.cell?,hr]
   have HC0:=aj Cm;have IU:=(a0c.1 hr).1;clear ho hi hr hfc hT0 Cm Od hnT ame;go_wp2_with (at_builtin;refine qD _ rfl _ _ 32 63 _ 5 64 CV Tryz.underlying32 rfl (by decide) rfl (w.heap.size+1) (.slice a8 0 c8) (fZ bB) w5.heap.size [zT yr,.slice a3 yb.length c3,zI y0,zI y1,zI y2] rfl (HO.o.aC (S:=[]) ((aB.refl [] _).alloc _) (by simp)) rfl rfl (λj u hu=>(cell_of_row _ _ _ _ _ _ (bD w5 _)).trans (by simpa using hu)) (by intro u hu;simp at hu;rcases hu with rfl|rfl|rfl|rfl|rfl<;>rfl) (by rw[HC0.o];simp[fZ]) (by rw[HC0.o];simp[fZ]) (by simp;omega) ?_;intro g9 c9 w9 aS aH bq iE;have O9:=aj aS;have F9:=aj ((F.o.alloc _).grown aH (λk hk=>.inr (by have:=(HO.o.lt hk).1;omega)));clear aS aH bq iE)
   go_ret;rw[HE.o];refine⟨_,[aO ⟨yr,yb,y0,y1,y2⟩ (.slice a3 yb.length c3)],rfl,?_,?_,F9,λh=>by simp at h⟩
   ·have:=O9.o.base (b2:=w.heap.size) (by omega)
    rw[HC0.o]at this;simpa[fZ,aO,HC0.o] using this
   refine⟨rfl,λn cs x h1 h2=>?_⟩;have hn0:n=0:=by
    cases n with
    | zero=>rfl
    | succ n=>simp at h1
   subst hn0;simp at h1 h2;subst h1 h2;rw[<-HYE.o];exact⟨_,rfl,PZ⟩
  have HE:Z_ (GH H C (f+1) i=Uw):=by show _=_;rw[ame.o,a0n (by rw[<-hnT];exact h0)]
  have HNE:Z_ (Uw=[]->False):=λh=>h0 (by rw[hnT,h];rfl)
  clear ho hi hr hfc Od ame hnT;go_wp2;go_ret;rw[HE.o];exact⟨_,bB,rfl,HO.o.base (by omega),HI,F,λh=>(HNE.o h).elim⟩
def aeS {C:List CR} {X:List (Nat × iY × RR)}(b:WCx w0 C X L vL):∀f,WkC w0 C X L vL f
 | 0=>by intro i c w a e d hd;have:=(b.gd c (a0B d)).2;omega
 | f+1=>akV b f (aeS b f)
def ai0 {C:List CR} {X:List (Nat × iY × RR)}(cb:Nat)(vr x:Value)(g:WCx w0 C X L vL)(i:aB [] w0 w)(k:sw w0 cb vr (tC (Dk X 0)) x)(c0:CR)(d:C[0]?=some c0)(p:c0.ifs=[]) :
 zF 10 #[zP cb,vL] w λe w'=>∃v f,e=zR v/\OW 63 5 w.heap.size w' v (fZ f)/\dV Gj [] w' f ((iw (hold gQ (dH L) C) C 6 0).map (Dw C))/\aB [] w w':=by
 have h:YL C 0=lQ:=by
  unfold YL;have:par C 0=none:=by unfold par;rw[d];rfl
  rw[this]
 have c:=aeS g 6 0 c0 w none 0 d (by omega) i (by rw[h];exact⟨none,0,by simp[sc,lQ],by simp[sc,lQ],λj y=>by simp[sc,lQ]at y⟩);rw[h]at c;have s:GH (hold gQ (dH L) C) C 6 0=(iw (hold gQ (dH L) C) C 6 0).map (Dw C):=by
  unfold GH;have:hold gQ (dH L) C 0=true:=by unfold hold;rw[d];simp[p]
  rw[this,a0m rfl]
 obtain⟨R,l⟩:∃R,R=(iw (hold gQ (dH L) C) C 6 0).map (Dw C):=⟨_,rfl⟩;rw[s,<-l]at c;rw[<-l];clear l s;obtain⟨o,n,m,_⟩:=g.lr;subst m;obtain⟨t,q⟩:∃b,b=Dk X 0:=⟨_,rfl⟩;rw[<-q]at c k;have N:zF 19 #[zP t,.slice o L.length n,.agg #[.string { data:=#[] },zN,zI 30,zI 300,zI 14400]] w (WkQ w0 w R):=c;have c1:zC w cb 1 (tC t):=(k.aC i (by simp)).cell 1;unfold tC at c1;clear g k c h d p q;delta zF;go_in
 go_wp2_with fail
 refine N.mono ?_;rintro e A ⟨v,f,rfl,u,r,F2,_⟩;have z:=r.aC (i.trans F2) (by simp);obtain⟨a,cp,rfl⟩:=u.shape;clear r;go_wp2;go_ret;exact⟨_,f,rfl,u,z,F2⟩
def aog {L:List LB} {C:List CR}(h:jH t=.ok (L,C)):∃c,C[0]?=some c/\c.ifs=[]:=by
 have e:=(pI h).2.1;have f:iX C=0:=by
  unfold jH at h
  split at h
  .cases h
  split at h
  .cases h
  split at h
  .cases h
  split at h
  .cases h
  rename_i g _ _;simp only[Except.ok.injEq,Prod.mk.injEq]at h;rw[<-h.2];omega
 cases C with
 | nil=>simp at e
 | cons c C =>
   refine⟨c,rfl,?_⟩;have a:lD (c::C) 0 0=0:=f;unfold lD at a
   by_cases b:(!(if ((0:Nat)==0)=true then nW c else jN (c.d:Int) 0)||decide (16<=0))=true
   .rw[a0m b]at a;omega
   simp at b;unfold nW at b;simp at b
   simp_all
structure KN(w w':World):Prop where
 size:w.heap.size<=w'.heap.size
 cell:∀(a:Addr) (v:Value),w.cell? a=some v->v≠.pointer none->w'.cell? a=some v
 row:∀(k:Nat) (cur:Array Value) (t:TypeId) (fz:Nat × Nat),w.heap[k]?=some (.cells cur t fz)->t≠28->w'.heap[k]?=w.heap[k]?
abbrev pz:Array Value:=#[.pointer none,.pointer none,.pointer none,.string ByteArray.empty]
def aoh:(Tryz.prog.info? 28).map (·.size)=some 4:=by kernel_rfl
def aeT {g:Nat}(h:w.heap[g]?=some (.cells cs 28 (0,0)))(a:cs.size=4):(loadVar 28 (zA g)).run Tryz.prog w=.ok (.agg cs) w :=
 run_loadVar_row w g 28 28 cs (0,0) _ h Tryz.underlying28 rfl (by rw[a];exact aoh)
def arw {g:Nat}{x c:Value}(h:w.heap[g]?=some (.cells pz 28 (0,0))):KN w ((((w.setCell (zA g) x).setCell (zB g 1) c).setCell (zB g 2) (.pointer none)).setCell (zB g 3) (.string ByteArray.empty)):=by
 have f:=Nc w g x c (.pointer none) (.string ByteArray.empty);have r:=VB x c (.pointer none) (.string ByteArray.empty) h;refine⟨f.size,λa v d i=>?_,λk cur t fz e ht=>?_⟩
 .by_cases j:a.block=g
  .obtain⟨b,o,m⟩:=a
   simp only at j;subst j;cases m with
   | some m=>simp[World.cell?,h]at d
   | none =>
     rw[cell_of_row _ b o _ _ _ r];rw[cell_of_row w b o _ _ _ h]at d;rcases a2a o 4 with ho|ho
     .have:o=0\/o=1\/o=2\/o=3:=by omega
      rcases this with rfl|rfl|rfl|rfl
      .simp at d;exact absurd d.symm i
      .simp at d;exact absurd d.symm i
      .simp at d;exact absurd d.symm i
      exact d
     rw[Array.getElem?_eq_none (by simpa using ho)]at d;cases d
  exact(f.cell (p:=a) (World.block_lt_of_cell? w _ d) (by simpa using j)).trans d
 refine f.block k (a0c.1 e).1 ?_;simp;rintro rfl;rw[h]at e;simp at e;exact ht e.2.1.symm
def CdQ(Q:World->Nat->Prop)(t:LB)(w:World)(e:Ending)(w':World):Prop :=
 aB [] w w'/\(((pJ gH t).1≠0/\e=zQ #[.agg pz,.bool true]) \/
 (∃pb L C cb base X,pJ gH t=(0,0)/\jH t=.ok (L,C)/\e=zQ #[.agg #[zP pb,zP cb,.pointer none,.string ByteArray.empty],.bool true]/\Q w' pb/\CfR w w' cb base C X/\w.heap.size<=pb))
def CpQ(Q:World->Nat->Prop)(t:LB)(w:World)(e:Ending)(w':World):Prop :=
 aB [] w w'/\(((pJ gH t).1≠0/\e=zQ #[.pointer none,zI ((pJ gH t).1:Nat),zI ((pJ gH t).2:Nat)]) \/
 (∃pb,pJ gH t=(0,0)/\e=zQ #[zP pb,zI 0,zI 0]/\Q w' pb/\w.heap.size<=pb))
theorem CfR.over{base:Nat} {C:List CR} {X:List (Nat × iY × RR)}(h:CfR w0 w cb base C X) {g:Nat}(f:aB [g] w w')(L:g<w0.heap.size)(z:World)(M:z.heap.size<=w0.heap.size)(u:∃cur,w.heap[g]?=some (.cells cur 28 (0,0))):CfR z w' cb base C X:=by
 obtain⟨cur,o⟩:=u;have J:=h.lo;have s:=h.up;have ne:∀(k:Nat) (c:Array Value) (t:TypeId) (fz:Nat × Nat),w.heap[k]?=some (.cells c t fz)->t≠28->k ∉ [g]:=by intro k c t fz d ht r;simp at r;subst r;rw[o]at d;simp at d;exact ht d.2.1.symm
 refine⟨by omega,s,?_,λx i=>?_,h.rc,λx i=>?_,λx i=>?_,λj x i=>?_,h.nd,h.eq⟩
 .obtain⟨vr,D,A⟩:=h.cf
  exact⟨vr,D,A.aC f (ne _ _ _ _ A (by decide))⟩
 .exact(h.rb x i).aC f (ne _ _ _ _ (h.rb x i) (by decide))
 .exact fG (h.Im x i) f (λk d=>by simp at d;omega)
 .exact fG (h.kd x i) f (λk d=>by simp at d;omega)
 obtain⟨a,cap,I,H,v⟩:=h.ifs j x i;refine⟨a,cap,I,H,?_⟩;rcases v with v|⟨B,y,e,l,d⟩
 .exact .inl v
 refine .inr ⟨B,y,e,(f.block B (a0c.1 l).1 (ne _ _ _ _ l (by decide))).trans l,λk m r=>?_⟩;obtain⟨c0,c1,c2,q,c3,hd,hq⟩:=d k m r;refine⟨c0,c1,c2,q,c3,hd,λp u=>?_⟩;obtain⟨n,e,G,F,E⟩:=hq p u;exact⟨n,e,G,F,RN.aY (dX.aC f (λb hb c fz hh=>by simp at hb;subst hb;rw[o]at hh;simp at hh)) E⟩
def acC(Q:World->Nat->Prop)(D:∀a b p,Q a p->KN a b->Q b p)(q:∀a b p,Q a p->aB [] a b->Q b p)(t:LB)(w:World)(ht:t.length<=1048576)(hC:∀w,zF 14 #[zT t] w (CpQ Q t w)) :
 zF 5 #[zT t] w (CdQ Q t w):=by
 have G:Z_ ((w.alloc (Obj.cells pz 28)).heap[w.heap.size]?=some (.cells pz 28 (0,0))):=bD _ _;go_enter Tryz.func5,Tryz.ntmps5
 go_wp2_with fail
 refine((aj (hC (w.alloc (Obj.cells pz 28)))).o).mono ?_;rintro e z ⟨u,J⟩;have F1:=aj ((aj ((aB.refl [] w).alloc (Obj.cells pz 28))).o.trans u);have F:(z.heap[w.heap.size]?=some (.cells pz 28 (0,0))):=(u.block w.heap.size (by simp) (by simp)).trans G;have M:=u.size;simp at M;have v:=aj (akN t z ht);have s:=aj F;rcases J with⟨i,rfl⟩|⟨pb,i,rfl,E,U⟩
 .have j:=aj i
  generalize B:pJ gH t=P at *;obtain⟨n,l⟩:=P;simp only at i j |-;have:((n:Int) != 0)=true:=by rw[a1M];omega
  have:((n:Int)==0)=false:=by rw[a0j];omega
  have I:=aj B;go_wp2_with fail
  refine(v.o).mono ?_;rintro e d ⟨g,r⟩;rw[I.o]at r;have c:(d.heap[w.heap.size]?=some (.cells pz 28 (0,0))):=(g.block w.heap.size (by omega) (by simp)).trans s;have F2:=aj (F1.o.trans g);have f:=aj c;have d0:zC d w.heap.size 0 (.pointer none):=by simp[World.cell?,c]
  have d1:zC d w.heap.size 1 (.pointer none):=by simp[World.cell?,c]
  have O:zC d w.heap.size 2 (.pointer none):=by simp[World.cell?,c]
  have N:zC d w.heap.size 3 (.string ByteArray.empty):=by simp[World.cell?,c]
  have dz:∀o,d.frozen? (zB w.heap.size o)=false:=λo=>by simp[World.frozen?,c]
  rcases r with⟨_,rfl⟩|⟨_,_,_,_,_,h,_⟩
  .simp only
   go_wp2;refine bodyPost_ret (bS rfl w.heap.size pz rfl (aeT (VB _ _ _ _ f) rfl)) rfl ?_;refine⟨F2.o.above (Nc _ _ _ _ _ _) (by simp),.inl ⟨by rw[I.o];exact j,rfl⟩⟩
  exfalso
  simp only[Prod.mk.injEq]at h;exact j.o h.1
 have j:=aj i;go_wp2_with fail
 refine(v.o).mono ?_;rintro e d ⟨g,r⟩;rw[j.o]at r;have c:(d.heap[w.heap.size]?=some (.cells pz 28 (0,0))):=(g.block w.heap.size (by omega) (by simp)).trans s;have R:=aj ((aj q).o _ _ _ (aj E).o g);have f:=aj c;have:zC d w.heap.size 0 (.pointer none):=by simp[World.cell?,c]
 have:zC d w.heap.size 1 (.pointer none):=by simp[World.cell?,c]
 have:zC d w.heap.size 2 (.pointer none):=by simp[World.cell?,c]
 have:zC d w.heap.size 3 (.string ByteArray.empty):=by simp[World.cell?,c]
 have:∀o,d.frozen? (zB w.heap.size o)=false:=λo=>by simp[World.frozen?,c]
 rcases r with⟨h,_⟩|⟨L,C,cb,base,X,_,k,rfl,m⟩
 .simp at h
 unfold tC;go_wp2;refine bodyPost_ret (bS rfl w.heap.size #[zP pb,zP cb,.pointer none,.string ByteArray.empty] rfl (aeT (VB _ _ _ _ f) rfl)) rfl ?_;refine⟨(aj (F1.o.trans g)).o.above (Nc _ _ _ _ _ _) (by simp),.inr ⟨pb,L,C,cb,base,X,j,aj k,rfl,(aj D).o _ _ _ R.o (arw f),(aj m).o.over (Nc _ _ _ _ _ _) (by omega) w (by omega) ⟨_,f⟩,?_⟩⟩;simp at U;omega
def RW.kn(h:RW A k w v vs)(f:KN w w')(o:∀u∈vs,∀y∈u,y≠.pointer none):RW A k w' v vs:=by obtain⟨a,cap,rfl,n,m⟩:=h;refine⟨a,cap,rfl,n,λj d=>?_⟩;obtain⟨g,off,rfl,l,i,e⟩:=m j d;exact⟨g,off,rfl,l,a0t i f.size,λc x b=>f.cell _ _ (e c x b) (o _ (a0u d) x (a0B b))⟩
def RW.slc(h:RW A k w v vs):v≠.pointer none:=by obtain⟨a,cap,rfl,_⟩:=h;simp
def akW{L:List LB}:∀u∈sc L,∀y∈u,y≠.pointer none:=by intro u b y a;obtain⟨s,_,rfl⟩:=a0q.1 b;simp at a;subst a;simp
def avp{L:LN}:∀u∈bc L,∀y∈u,y≠.pointer none:=by intro u b y a;obtain⟨s,_,rfl⟩:=a0q.1 b;simp at a;subst a;simp
def avq{L:LN}:∀u∈ic L,∀y∈u,y≠.pointer none:=by intro u b y a;obtain⟨s,_,rfl⟩:=a0q.1 b;simp at a;subst a;simp
def avr{L:List jd}:∀u∈tc L,∀y∈u,y≠.pointer none:=by intro u b y a;obtain⟨s,_,rfl⟩:=a0q.1 b;simp[kV]at a;rcases a with rfl|rfl|rfl<;>simp
def asZ{L:List bX}:∀u∈uj L,∀y∈u,y≠.pointer none:=by intro u b y a;obtain⟨s,_,rfl⟩:=a0q.1 b;simp[jT]at a;rcases a with rfl|rfl|rfl|rfl<;>simp
def amg {α:Type} {I:TQ α} {b:List (Array Value)} {xs:List α}(h:dV I A w b xs)(g:∀cs x,I.rel A w cs x->∀y∈cs.toList,y≠.pointer none):∀u∈fZ b,∀y∈u,y≠.pointer none:=by intro u e y d;obtain⟨cs,c,rfl⟩:=a0q.1 e;obtain⟨n,a⟩:=a1T c;have f:=(a0d.1 a).1;exact g cs _ (h.2 n cs (xs[n]'(by rw[<-h.1];exact f)) a (a0a _)) y d
def PG.kn(h:PG A w V m)(f:KN w w'):PG A w' V m:=by
 obtain⟨v,u,j⟩:=h.a;obtain⟨k,s,g⟩:=h.r;refine⟨h.n.kn f (akW),h.c.kn f (akW),⟨v,u.kn f (amg j ?_),j.1,λn cs x o l=>?_⟩,h.t.kn f (avr),⟨k,s.kn f (amg g ?_),g.1,λn cs x o l=>?_⟩,h.i.kn f (asZ)⟩
 .rintro cs x ⟨q,p,rfl,b,e⟩ y d
  simp[Lv,nv]at d;rcases d with rfl|⟨_,_,rfl⟩|rfl|rfl
  .simp
  .simp
  .exact b.slc
  exact e.slc
 .obtain⟨q,p,rfl,b,e⟩:=j.2 n cs x o l
  exact⟨q,p,rfl,b.kn f (avp),e.kn f (avq)⟩
 .rintro cs x ⟨vb,rfl,b⟩ y d
  simp[aO]at d;rcases d with rfl|rfl|rfl|rfl|rfl
  .simp
  .exact b.slc
  .simp
  .simp
  simp
 obtain⟨vb,rfl,b⟩:=g.2 n cs x o l;exact⟨vb,rfl,b.kn f (akW)⟩
def PR.kn(h:PR A w pb V m)(f:KN w w'):PR A w' pb V m :=
 ⟨(f.row pb _ _ _ h.row (by decide)).trans h.row,h.pg.kn f,h.av⟩
def QC(t:LB)(w:World)(pb:Nat):Prop:=∃L C s V,jH t=.ok (L,C)/\pread gH gQ lT 0 C=.ok s/\PR [] w pb V (iZ C s)/\MOK (iZ C s)
def aoi(t:LB)(w:World)(ht:t.length<=1048576):zF 14 #[zT t] w (CpQ (QC t) t w):=by
 refine(af3 t w ht).mono ?_;rintro e w' ⟨hF,⟨a,rfl⟩|⟨L,C,s,V,pb,a,g,f,rfl,d,c,b⟩⟩
 .exact⟨hF,.inl ⟨a,rfl⟩⟩
 exact⟨hF,.inr ⟨pb,a,rfl,⟨L,C,s,V,g,f,d,c⟩,b⟩⟩
def ace(t:LB)(w:World)(ht:t.length<=1048576):zF 5 #[zT t] w (CdQ (QC t) t w) :=
 acC (QC t) (λa b p ⟨L,C,s,V,g,e,d,c⟩ f=>⟨L,C,s,V,g,e,d.kn f,c⟩) (λa b p ⟨L,C,s,V,g,e,d,c⟩ f=>⟨L,C,s,V,g,e,d.aC f (by simp),c⟩) t w ht (λw=>aoi t w ht)
def ack:∀(L P:List kW),uo P L=true->∀x∈L,x.2.length<=40
 | [],_,_,x,a=>by simp at a
 | y::r,P,h,x,a=>by
   rw[uo]at h;simp only[a0O,a0U]at h;rcases a0l.1 a with rfl|a
   .exact h.1.1.2
   exact ack r _ h.2 x a
def aoo(h:gB L=true)(n:LB):(dH L n).length<=900:=by
 unfold gB at h;rw[a0O]at h;unfold dH
 split
 .rename_i x a
  have:=ack L [] h.2 x (List.mem_of_find?_eq_some a);omega
 simp
def amm:∀(C:List CR) (i:Nat),xF gH C i=(0,0)->∀c∈C,∀m∈c.ifs,(m.2.1=2\/m.2.1=3)->gH m.2.2=0
 | [],_,_,c,d=>by simp at d
 | x::C,i,h,c,d=>by
   rw[xF]at h;have a:mF gH x.ifs=0:=by
    by_cases e:mF gH x.ifs=0
    .exact e
    have:(mF gH x.ifs==0)=false:=by simpa using e
    rw[this]at h;simp at h
   rcases a0l.1 d with rfl|d
   .have key:∀M:List CM,mF gH M=0->∀m∈M,(m.2.1=2\/m.2.1=3)->gH m.2.2=0:=by
     intro M
     induction M with
     | nil=>intro _ m a;simp at a
     | cons y M g =>
       intro h m a f;rw[mF]at h
       by_cases b:((y.2.1==2||y.2.1==3)&&!(gH y.2.2==0))=true
       .rw[a0m b]at h
        simp[h]at b
       rw[a0n b]at h;rcases a0l.1 a with rfl|a
       .have j:(m.2.1==2||m.2.1==3)=true:=by simpa using f
        rw[j]at b;simpa using b
       exact g h m a f
    exact key c.ifs a
   rw[a]at h;simp at h;exact amm C (i+1) h c d
def as5 {f:List LB} {C:List CR}{d:World}{base:Nat} {X:List (Nat × iY × RR)}(ht:t.length<=1048576)(a:jH t=.ok (f,C))(hz:pJ gH t=(0,0))(k:CfR d w cb base C X)(i:LR w vL L)(g:gB L=true):WCx w C X L vL:=by
 have h:xF gH C 0=(0,0):=by unfold pJ at hz;rw[a]at hz;exact hz
 have b:=pI a;have j:=(qT t f C ht b.1).2.2;exact⟨⟨d,cb,base,k⟩,Ur a,b.2.2.1,λc e=>⟨j c e,b.2.2.2 c e⟩,amm C 0 h,i,aoo g⟩
def uu(m:mP)(l:LN):List kN:=l.map λi=>m.routes.getD i ⟨[],[],0,0,0⟩
def ai1(m:mP)(l:LN)(i:Nat)(a:i<m.routes.length):uu m (l++[i])=uu m l++[m.routes[i]]:=by simp[uu,List.getD,a]
def akX(ok:MOK m)(V:LB->LB)(f:k<m.code.length)(n:Nat) :
 (m.code[k].op=0/\runM m V (n+1) k=[]) \/
 (m.code[k].op=1/\m.code[k].x<m.routes.length/\k<m.code[k].a/\m.code[k].a<m.code.length/\runM m V (n+1) k=m.code[k].x::runM m V n m.code[k].a) \/
 (m.code[k].op=2/\k<m.code[k].a/\m.code[k].a<m.code.length/\k<m.code[k].b/\m.code[k].b<m.code.length/\∃g:m.code[k].x<m.tests.length,Lu m.names.length m.consts.length m.pR.length m.tests[m.code[k].x] /\
   runM m V (n+1) k=runM m V n (if Jz m (V (m.names.getD m.tests[m.code[k].x].n [])) m.tests[m.code[k].x] then m.code[k].a else m.code[k].b)):=by
 have h:=ok.code.2.2 k f;have d:=h.s;have ho:=h.op;have e:m.code[k]?=some m.code[k]:=a0a f;generalize m.code[k]=c at *;obtain⟨op,x,a,b⟩:=c;simp only at ho |-
 match op,ho with
 | 0,_=>exact .inl ⟨rfl,by rw[runM,e];rfl⟩
 | 1,_=>simp[stands]at d;exact .inr (.inl ⟨rfl,d.1.1,d.1.2.1,d.1.2.2,by rw[runM,e];rfl⟩)
 | 2,_=>simp[stands]at d;refine .inr (.inr ⟨rfl,d.1.2.1,d.1.2.2,d.2.1,d.2.2,d.1.1,ok.tests.2 _ (a0u _),?_⟩);rw[runM,e];simp only[a0a d.1.1]
theorem PR.c0(h:PR A w pb V m):zC w pb 0 V.n:=by simp[World.cell?,h.row,V6.cells]
theorem PR.c1(h:PR A w pb V m):zC w pb 1 V.c:=by simp[World.cell?,h.row,V6.cells]
theorem PR.c2(h:PR A w pb V m):zC w pb 2 V.a:=by simp[World.cell?,h.row,V6.cells]
theorem PR.c3(h:PR A w pb V m):zC w pb 3 V.t:=by simp[World.cell?,h.row,V6.cells]
theorem PR.c4(h:PR A w pb V m):zC w pb 4 V.r:=by simp[World.cell?,h.row,V6.cells]
def PR.c5(h:PR A w pb V m):zC w pb 5 V.i:=by simp[World.cell?,h.row,V6.cells]
theorem PR.lt(h:PR A w pb V m):pb<w.heap.size:=(a0c.1 h.row).1
def as0 {x:gz} {g q:Nat}(h:adY.rel A w cs x)(ok:wC x)(j:g<w.heap.size)(hh:∀c u,cs[c]?=some u->zC w g (q+c) u) :
 ∃e d,AUm w g q x e d/\RW A 1 w e (bc x.acc)/\RW A 1 w d (ic x.nx):=by
 obtain⟨e,d,rfl,ra,rn⟩:=h;have a:x.cl.length=256:=ok.cl;have b:∀c u,(Lv x e d).toList[c]?=some u->zC w g (q+c) u:=λc u i=>hh c u (by rw[<-i];simp)
 refine⟨e,d,⟨j,b 0 _ (by simp[Lv]),λc k=>?_,b 257 _ ?_,b 258 _ ?_⟩,ra,rn⟩
 .have:=b (1+c) (.int .u8 (x.cl.getD c 0:Nat)) (by
   have f:c<x.cl.length:=by omega
   simp only[Lv];rw[a2w,a1m,a0s (by simp[nv];exact f)];simp[nv,f,List.getD])
  rwa [<-a2M]at this
 .simp only[Lv]
  rw[a1m,a0K (by simp[nv,a])];simp[nv,a]
 simp only[Lv];rw[a1m,a0K (by simp[nv,a])];simp[nv,a]
def ai2(w:World)(pb:Nat)(V:V6)(m:mP)(h:PR [] w pb V m)(ok:MOK m)(x:Nat)(Z:x<m.tests.length)(B:Value)(L:List kW)(hL:LR w B L)(Ux:∀n,(dH L n).length<=1048576) :
 zF 28 #[zP pb,zI x,B] w λe w'=>e=zR (.bool (Jz m (dH L (m.names.getD m.tests[x].n [])) m.tests[x]))/\aB [] w w':=by
 have Ev:=h.lt;have d:=ok.tests.2 m.tests[x] (a0u Z);obtain⟨_,_,y,hn⟩:=h.pg.n.str;obtain⟨_,_,z,M⟩:=h.pg.c.str;obtain⟨_,r,o⟩:=h.pg.a;obtain⟨_,_,A,O⟩:=sP r o;obtain⟨_,_,s,_,ht⟩:=h.pg.t;have R:(tc m.tests).length=m.tests.length:=by simp[tc]
 obtain⟨gt,D,rfl,_,_,aO⟩:=ht x (by rw[R];exact Z);have P0:=h.c0;have P1:=h.c1;have P2:=h.c2;have U:=h.c3;rw[y]at P0;rw[z]at P1;rw[A]at P2;rw[s,R]at U;have t0:zC w gt (D+x*3) (zI (m.tests[x].n:Nat)):=aO 0 _ (by simp[tc,kV]);have t1:zC w gt (D+x*3+1) (zI (m.tests[x].k:Nat)):=aO 1 _ (by simp[tc,kV]);have t2:zC w gt (D+x*3+2) (zI (m.tests[x].x:Nat)):=aO 2 _ (by simp[tc,kV]);have N:=ok.pR.2;have:=ok.consts.1;have:=ok.pR.1;generalize m.tests[x]=t at *;obtain⟨_,_,rfl,_,n0⟩:=hn t.n d.n;have Y:m.names.getD t.n []=m.names[t.n]'d.n:=by simp[List.getD,d.n]
 rw[Y];have VO:∀W,aB [] w W->zF 46 #[B,zT (m.names[t.n]'d.n)] W λe w'=>e=zR (zT (dH L (m.names[t.n]'d.n)))/\aB [] W w':=λW f=>af4 (hL.aC f (by simp))
 have Af:=Ux (m.names[t.n]'d.n);have:=d.n;have:=d.k;have j:=d.x;have:=aT;generalize UA:m.names[t.n]'d.n=nm at *;generalize E:dH L nm=v at *;have:decide ((x:Int)<0)=false:=a0f (by omega);have:decide ((t.n:Int)<0)=false:=a0f (by omega);have:decide ((t.x:Int)<0)=false:=a0f (by omega);have:t.x<256:=by split at j<;>omega
 obtain⟨tn,tk,b⟩:=t;simp only at *;delta zF;go_in
 go_wp2_with fail
 go_quiet (fail)
 go_wp2_with fail
 have P:aB [] w ((w.alloc (Obj.cells #[zI tn,zI tk,zI b] 113)).drewN nq).drew:=(((aB.refl [] w).alloc _).drewN nq).drew;go_region_with (go_at_call 46;refine(VO _ P).mono ?_;rintro e w' ⟨rfl,i⟩)
 all_goals
  have F2:=P.trans i;have S:w'.heap[w.heap.size]?=some (Obj.cells #[zI tn,zI tk,zI b] 113):=(i.block w.heap.size (by simp) (by simp)).trans (bD _ _);have:zC w' w.heap.size 1 (zI tk):=by simp[World.cell?,S]
  have:zC w' w.heap.size 2 (zI b):=by simp[World.cell?,S]
  have:=F2.at Ev P1;have:=F2.at Ev P2
  by_cases C:tk=0
  .have g:b<m.consts.length:=by rw[a0n (by omega)]at j;exact j
   obtain⟨gc,oc,rfl,Kt,k0⟩:=M b g;have J:Jz m v ⟨tn,tk,b⟩=(m.consts[b]==v):=by unfold Jz;rw[a0m C];simp[List.getD,a0a g,Option.getD_some];exact BEq.comm
   have:=F2.at Kt k0;generalize m.consts[b]=cst at *;subst C;go_wp2_with fail
   go_quiet (fail)
   go_wp2;go_ret;rw[J];exact⟨rfl,F2.drewN _⟩
  have l:tk=1:=by omega
  have g:b<m.pR.length:=by rw[a0m l]at j;exact j
  obtain⟨ga,X,_,rfl,F,_,hrel,T⟩:=O b g;have OK:=N _ (a0u g);have J:Jz m v ⟨tn,tk,b⟩=(m.pR[b].acc.getD (yC m.pR[b] 0 v) 0==1):=by unfold Jz;rw[a0n C];simp[List.getD,g]
  obtain⟨va,vn,hU,ra,rn⟩:=as0 hrel OK F T;have I:∀n,zF 47 #[.pointer (some (zB ga (X+b*259))),zT v] (w'.drewN n) λe u=>e=zR (.bool (m.pR[b].acc.getD (yC m.pR[b] 0 v) 0==1))/\∃q,u=(w'.drewN n).drewN q:=λn=>aiW [pb] (w'.drewN n) ga (X+b*259) m.pR[b] va vn v (hU.aC (F2.drewN n)) (ra.aC (F2.drewN n) (by simp)) (rn.aC (F2.drewN n) (by simp)) OK Af
  generalize (m.pR[b].acc.getD (yC m.pR[b] 0 v) 0==1)=bb at *;subst l;go_wp2_with fail
  go_quiet ((go_at_call 47;exact Calls.quiet_of (I _)))
  go_wp2;go_ret;rw[J];exact⟨rfl,F2.drewN _⟩
theorem avt{g q j:Nat}:((zB g q):Addr).add j=(zB g (q+j)):=by unfold Addr.add;split<;>simp_all
def as1(x:kN)(w:World)(e:Ending)(w':World):Prop :=
 ∃g,e=zR (.agg (aO x (zS g x.bl.length x.bl.length)))/\aB [] w w'/\w.heap.size<=g/\g<w'.heap.size/\RW [] 1 w' (zS g x.bl.length x.bl.length) (sc x.bl)
def ai3(x:kN)(f:Option Addr)(cb:Nat)(w:World)(hb:RW [] 1 w (.slice f x.bl.length cb) (sc x.bl))(hlen:x.bl.length<5) :
 zF 27 #[.agg (aO x (.slice f x.bl.length cb))] w (as1 x w):=by
 obtain⟨rc,bl,wt,ev,rp⟩:=x;simp only at hb hlen;obtain⟨h,F⟩:∃h:List Value,h=(madeCells #[.string ByteArray.empty] bl.length).toList:=⟨_,rfl⟩;have n:h.length=bl.length:=by show _=_;rw[F,a3o];exact size_madeCells _ _
 have Oh:∀u:World,(Instr.makeSlice 48 (zI bl.length) (zI bl.length)).run Tryz.prog u=.ok (zS u.heap.size bl.length bl.length) (u.alloc (.cells h.toArray 9)):=λu=>by obtain⟨U,Y,gT,fM,gD⟩:=kg uY;have:=run_make (P:=Tryz.prog) u 48 9 U (.string ByteArray.empty) Tryz.underlying48 Y gT .i64 .i64 (bl.length:Int) (bl.length:Int) (by omega) (a3n _) (by rw[gD];omega) (by omega);rw[fM,a2A,a1H]at this;rw[this,F];rfl
 obtain⟨cs,z⟩:∃cs:List Value,cs=bl.map λs=>zT s:=⟨_,rfl⟩
 have A:cs.length=bl.length:=by show _=_;rw[z];simp
 obtain⟨ab',cb',e,l⟩:=hb.str;simp only[Value.slice.injEq,a1W]at e;obtain⟨rfl,rfl⟩:=e;clear F hb;obtain⟨W,i⟩:∃W,W=((w.alloc (Obj.cells #[zT rc,.slice f bl.length cb,zI wt,zI ev,zI rp] 63)).alloc (Obj.cells hz 63)).alloc (Obj.cells h.toArray 9):=⟨_,rfl⟩;have r:aB [] w W:=by rw[i];exact(((aB.refl [] w).alloc _).alloc _).alloc _
 have V:W.heap.size=w.heap.size+3:=by rw[i];simp
 have B0:W.heap[w.heap.size]?=some (Obj.cells #[zT rc,.slice f bl.length cb,zI wt,zI ev,zI rp] 63):=by show _=_;rw[i];exact((zG.alloc _).block w.heap.size (by simp) (by simp)).trans (bD _ _)
 have B1:W.heap[w.heap.size+1]?=some (Obj.cells hz 63):=by show _=_;rw[i];have:=bD (w.alloc (Obj.cells #[zT rc,.slice f bl.length cb,zI wt,zI ev,zI rp] 63)) (Obj.cells hz 63);rw[show(w.alloc (Obj.cells #[zT rc,.slice f bl.length cb,zI wt,zI ev,zI rp] 63)).heap.size=w.heap.size+1 by simp]at this;exact(zG.block (w.heap.size+1) (by simp) (by simp)).trans this
 have T:W.heap[w.heap.size+2]?=some (Obj.cells h.toArray 9 (0,0)):=by show _=_;rw[i];have:=bD ((w.alloc (Obj.cells #[zT rc,.slice f bl.length cb,zI wt,zI ev,zI rp] 63)).alloc (Obj.cells hz 63)) (Obj.cells h.toArray 9);rw[show((w.alloc (Obj.cells #[zT rc,.slice f bl.length cb,zI wt,zI ev,zI rp] 63)).alloc (Obj.cells hz 63)).heap.size=w.heap.size+2 by simp]at this;exact this
 have HN:cs.length=Nat.min bl.length bl.length:=by show _=_;rw[A];exact(Nat.min_self _).symm
 have m:∀G:Option Addr,G=some (zA (w.heap.size+2))->0<cs.length->G=some (zA (w.heap.size+2))/\∃R,f=some R/\∀j v,cs[j]?=some v->W.cell? (R.add j)=some v:=by intro G D N;rw[A]at N;obtain⟨g,off,rfl,hg,_⟩:=l 0 N;refine⟨D,_,rfl,λj v k=>?_⟩;rw[z,a0Q,Option.map_eq_some_iff]at k;obtain⟨y,X,rfl⟩:=k;obtain⟨t,rfl⟩:=a0d.1 X;obtain⟨g',M,O,Z,E⟩:=l j t;simp only[Option.some.injEq,Addr.mk.injEq,a2u]at O;obtain⟨rfl,rfl⟩:=O;rw[avt];exact r.at (p:=(zB g (off+j))) hg E
 have H:0+cs.length<=h.length:=by show _<=_;rw[A,n];omega
 have J:∀v∈cs,v.oneCell'=true:=by
  intro v k;rw[z]at k;obtain⟨y,_,rfl⟩:=a0q.1 k
  rfl
 have S:Below (w.heap.size+2) W W:=Below.refl _ _;have I:(splice h 0 cs).toArray=cs.toArray:=by show _=_;unfold splice;rw[a3w,a0V,a0i (by rw[n,A];omega),a0R]
 simp only[aO];go_enter Tryz.func27,Tryz.ntmps27
 rw[i]at S T m;go_wp2_with (refine wpList_copy_splice rfl _ _ 48 48 rfl 9 Tryz.underlying48 VC _ _ _ _ _ _ rfl rfl (w.heap.size+2) 0 h 9 T cs HN (m _ rfl) H J (w.heap.size+2) _ S (by omega) ?_;intro a QO d;rw[<-i]at d;have C0:a.heap[w.heap.size]?=_:=(d.block w.heap.size (by omega)).trans B0;have b:a.heap[w.heap.size+1]?=_:=(d.block (w.heap.size+1) (by omega)).trans B1;have a0:zC a w.heap.size 0 (zT rc):=(by simp[World.cell?,C0]);have a1:zC a w.heap.size 1 (.slice f bl.length cb):=(by simp[World.cell?,C0]);have a2:zC a w.heap.size 2 (zI wt):=(by simp[World.cell?,C0]);have a3:zC a w.heap.size 3 (zI ev):=(by simp[World.cell?,C0]);have a4:zC a w.heap.size 4 (zI rp):=(by simp[World.cell?,C0]);have az:∀o,a.frozen? (zB w.heap.size o)=false:=(λo=>by simp[World.frozen?,C0]);have b0:zC a (w.heap.size+1) 0 (.string ByteArray.empty):=(by simp[World.cell?,b]);have b1:zC a (w.heap.size+1) 1 zN:=(by simp[World.cell?,b]);have b2:zC a (w.heap.size+1) 2 (zI 0):=(by simp[World.cell?,b]);have b3:zC a (w.heap.size+1) 3 (zI 0):=(by simp[World.cell?,b]);have b4:zC a (w.heap.size+1) 4 (zI 0):=(by simp[World.cell?,b]);have bz:∀o,a.frozen? (zB (w.heap.size+1) o)=false:=(λo=>by simp[World.frozen?,b]);clear C0)
 refine bodyPost_ret (qE rfl (w.heap.size+1) (aO ⟨rc,bl,wt,ev,rp⟩ (zS (w.heap.size+2) bl.length bl.length)) rfl (Gl (yZ _ _ _ _ _ ((((aB.refl [w.heap.size] a).setCell (p:=(zB w.heap.size 1)) (.inl (by simp)) _).block (w.heap.size+1) (by have:=d.size;omega) (by simp)).trans b)) rfl)) rfl ?_;have F4:aB [] w a:=r.TU d (by omega);have Yl:=d.size;have L:∀v,aB [w.heap.size] a (a.setCell (zB w.heap.size 1) v):=λv=>zK.setCell (p:=(zB w.heap.size 1)) (.inl (by simp)) _
 have q:=(show _=_ from QO);rw[I]at q;refine⟨w.heap.size+2,rfl,(F4.over (L _) (by simp)).over (l8 _ _ _ _ _ _ _) (by simp),by omega,?_,?_⟩
 .exact a0t (by omega:w.heap.size+2<a.heap.size) (a0h (L _).size (l8 _ _ _ _ _ _ _).size)
 have R4:RW [w.heap.size,w.heap.size+1] 1 a (zS (w.heap.size+2) bl.length bl.length) (sc bl):=by
  refine⟨_,bl.length,by rw[iC],by rw[iC];omega,λj t=>⟨w.heap.size+2,0,rfl,by simp,by omega,λc u C=>?_⟩⟩;rw[iC]at t;have B:c=0/\u=.string (bs bl[j]):=by
   cases c with
   | zero=>simp[sc]at C;exact⟨rfl,C.symm⟩
   | succ c=>simp[sc]at C
  obtain⟨rfl,rfl⟩:=B;have Lt:cs[j]?=some (.string (bs bl[j])):=by rw[z];simp[t]
  simp[World.cell?,q,Lt]
 exact((R4.aC (L _) (by simp)).aC (l8 _ _ _ _ _ _ _) (by simp)).cO (by simp)
def avu(A:LN)(m:mP)(l:LN)(w:World)(e:Ending)(w':World):Prop :=
 ∃v a,e=zR v/\aB [] w w'/\OW 63 5 w.heap.size w' v (fZ a)/\dV LD A w' a (uu m l)
def aoj(A:LN)(w:World)(hA:∀g∈A,g<w.heap.size)(pb:Nat)(V:V6)(m:mP)(h:PR [] w pb V m)(ok:MOK m)(vl:Value)(L:List kW)(hL:LR w vl L)(Ux:∀n,(dH L n).length<=1048576) :
 zF 17 #[zP pb,vl] w (avu A m (runM m (dH L) m.code.length 0) w):=by
 have hN:=ok.code.2.1;have hN1:=ok.code.1;have Ev:=h.lt;delta zF;go_in
 go_wp2_with fail
 go_loopg [5,6] m.code.length (λk v5 v6 wr=>∃(i:Nat) (l:LN) (q:List (Array Value)),v6=zI i/\i<m.code.length/\m.code.length<=i+k/\q.length<=i/\aB [] w wr/\OW 63 5 w.heap.size wr v5 (fZ q)/\(dV LD (A++v5.ownBlock.toList) wr q (uu m l))/\(l++runM m (dH L) k i=runM m (dH L) m.code.length 0))
 exact⟨0,[],[],rfl,by omega,by omega,by simp,zJ,OW.empty _ _ _ _ (a0b _),dV.nil _ _ _,rfl⟩
 .obtain⟨i,l,q,rfl,hi,Ku,hci,F,O,HI,HR⟩:=hrel;obtain⟨P,co,he⟩:=O.shape;rw[jA]at he;subst he;have Gf:=F.size;obtain⟨n,hn⟩:∃n,gk=n+1:=⟨gk-1,by omega⟩;subst hn;obtain⟨ai,ci,hVi,_,iG⟩:=h.pg.i;have jc:(uj m.code).length=m.code.length:=by simp[uj]
  obtain⟨U,T,rfl,_,YI,aO⟩:=iG i (by rw[jc];exact hi);have p5:=F.at (p:=(zB pb 5)) Ev h.c5;rw[hVi,jc]at p5;have y0:zC wr U (T+i*4) (zI (m.code[i].op:Nat)):=F.at (p:=(zB U (T+i*4+0))) YI (aO 0 _ (by simp[uj,jT]));have y1:zC wr U (T+i*4+1) (zI (m.code[i].x:Nat)):=F.at (p:=(zB U (T+i*4+1))) YI (aO 1 _ (by simp[uj,jT]));have y2:zC wr U (T+i*4+2) (zI (m.code[i].a:Nat)):=F.at (p:=(zB U (T+i*4+2))) YI (aO 2 _ (by simp[uj,jT]));have y3:zC wr U (T+i*4+3) (zI (m.code[i].b:Nat)):=F.at (p:=(zB U (T+i*4+3))) YI (aO 3 _ (by simp[uj,jT]));have af6:=akX ok (dH L) hi n;have axw:=(ok.code.2.2 i hi).x;have mI:(fZ q).length=q.length:=jA q;have gJ:decide ((i:Int)<(m.code.length:Int))=true:=a0g (by omega);have ay9:decide (i<m.code.length)=true:=a0g hi;clear iG aO jc hVi;generalize m.code[i]=c at *;obtain⟨op,x,a,b⟩:=c;simp only at y0 y1 y2 y3 af6 axw;rcases af6 with⟨rfl,wW⟩|⟨rfl,Ar,hia,Y,wW⟩|⟨rfl,hia,Y,hib,hbn,hxt,axx,R⟩
  .have HE:runM m (dH L) m.code.length 0=l:=by rw[<-HR,wW,a0R]
   clear HR wW;go_wp2;go_ret;rw[HE];exact⟨_,q,rfl,F.alloc _,O.aC zG (by simp),(HI.aC zG (by simp)).cO (λy D=>.inl (a1B _ D))⟩
  .have tV:(l++[x])++runM m (dH L) n a=runM m (dH L) m.code.length 0:=by rw[<-HR,wW];simp
   obtain⟨aza,r1,r2⟩:=h.pg.r;obtain⟨ar,cr,hVr,hrr⟩:=sP r1 r2;obtain⟨E,s,csr,rfl,Au,_,hrel,aO⟩:=hrr x Ar;have HS:uu m (l++[x])=uu m l++[m.routes[x]]:=ai1 m l x Ar;have jE:=(ok.routes.2 m.routes[x] (a0u Ar)).b1;have azb:=ok.routes.1;generalize m.routes[x]=t at *;obtain⟨vb,rfl,Be⟩:=hrel;obtain⟨ab,cb,rfl,_⟩:=Be.str;have p4:=F.at (p:=(zB pb 4)) Ev h.c4;rw[hVr]at p4;have q0:zC wr E (s+x*5) (zT t.rc):=F.at (p:=(zB E (s+x*5+0))) Au (aO 0 _ rfl);have q1:zC wr E (s+x*5+1) (.slice ab t.bl.length cb):=F.at (p:=(zB E (s+x*5+1))) Au (aO 1 _ rfl);have q2:zC wr E (s+x*5+2) (zI t.wt):=F.at (p:=(zB E (s+x*5+2))) Au (aO 2 _ rfl);have q3:zC wr E (s+x*5+3) (zI t.ev):=F.at (p:=(zB E (s+x*5+3))) Au (aO 3 _ rfl);have q4:zC wr E (s+x*5+4) (zI t.rp):=F.at (p:=(zB E (s+x*5+4))) Au (aO 4 _ rfl);have FR:∀W,aB [] w W->zF 27 #[.agg #[zT t.rc,.slice ab t.bl.length cb,zI t.wt,zI t.ev,zI t.rp]] W λe w'=>∃g,e=zR (.agg #[zT t.rc,zS g t.bl.length t.bl.length,zI t.wt,zI t.ev,zI t.rp])/\aB [] W w'/\W.heap.size<=g/\g<w'.heap.size/\RW [] 1 w' (zS g t.bl.length t.bl.length) (sc t.bl):=λW f=>(ai3 t ab cb W ((Be.aC f (by simp)).cO (by simp)) jE).mono (λe w' h=>h)
   obtain⟨M,d,J,I,H⟩:=t;simp only at q0 q1 q2 q3 q4 FR jE;have ll:decide ((x:Int)<(m.routes.length:Int))=true:=a0g (by omega);have amh:decide (x<m.routes.length)=true:=a0g Ar;have hx0:0<=x:=a1G _;have azc:pb<wr.heap.size:=by omega
   have atQ:E<wr.heap.size:=by omega
   have hd3:decide ((0:Int)<=(x:Int))=true:=a0g (by omega);clear HR wW aO hrr r1 r2 hVr Be;go_wp2_with fail
   go_quiet (fail)
   go_upto_region 10 with fail
   go_cut [9] (λv9 wc=>True/\∃(g N:Nat),v9=zP N/\N<wc.heap.size/\wc.heap[N]?=some (Obj.cells #[zT M,zS g d.length d.length,zI J,zI I,zI H] 63 (0,0))/\aB [] w wc/\OW 63 5 w.heap.size wc (.slice P q.length co) (fZ q)/\dV LD (A++(Value.ownBlock (.slice P q.length co)).toList) wc q (uu m l)/\RW (A++(Value.ownBlock (.slice P q.length co)).toList) 1 wc (zS g d.length d.length) (sc d))
   case first =>
    have FN1:aB [] w ((wr.alloc (Obj.cells #[zI 1,zI x,zI a,zI b] 78)).drewN (nq+1)):=(F.alloc _).drewN _;have FN2:aB [] w (((wr.alloc (Obj.cells #[zI 1,zI x,zI a,zI b] 78)).drewN (nq+1)).alloc (Obj.cells #[.string { data:=#[] },zN,zI 0,zI 0,zI 0] 63)):=((F.alloc _).drewN _).alloc _;go_region_with (first | (go_at_call 27;(with_reducible refine(FR _ (show aB [] _ _ from FN1)).mono ?_);rintro e z ⟨g,rfl,G,hg,iM,hR⟩)|(go_at_call 27;(with_reducible refine(FR _ (show aB [] _ _ from FN2)).mono ?_);rintro e z ⟨g,rfl,G,hg,iM,hR⟩;have C:z.heap[wr.heap.size+1]?=some (Obj.cells hz 63):=(G.block (wr.heap.size+1) (by simp) (by simp)).trans (aqt);have b0:zC z (wr.heap.size+1) 0 (.string ByteArray.empty):=(by simp[World.cell?,C]);have b1:zC z (wr.heap.size+1) 1 zN:=(by simp[World.cell?,C]);have b2:zC z (wr.heap.size+1) 2 (zI 0):=(by simp[World.cell?,C]);have b3:zC z (wr.heap.size+1) 3 (zI 0):=(by simp[World.cell?,C]);have b4:zC z (wr.heap.size+1) 4 (zI 0):=(by simp[World.cell?,C]);have bz:∀o,z.frozen? (zB (wr.heap.size+1) o)=false:=(λo=>by simp[World.frozen?,C])))
    all_goals
     have X:∀r,Value.ownBlock (.slice P q.length co)=some r->r<wr.heap.size:=λr hr=>(O.lt hr).2
     have hg3:wr.heap.size<=g:=by simp at hg;omega
     have F2:=(F.alloc (Obj.cells #[zI 1,zI x,zI a,zI b] 78)).drewN (nq+1);have hR2:RW (A++(Value.ownBlock (.slice P q.length co)).toList) 1 z (zS g d.length d.length) (sc d):=hR.afJ (λv=>by
      rcases a0e.1 v with v|v
      .have:=hA g v;omega
      simp at v;have:=X g v;omega)
     first
     | (have Z:aB [] wr (z.alloc (Obj.cells #[zT M,zS g d.length d.length,zI J,zI I,zI H] 63)):=((((aB.refl [] wr).alloc _).drewN _).trans G).alloc _
        go_wp2;go_meet;exact⟨trivial,g,z.heap.size,rfl,by simp,bD _ _,F.trans Z,O.aC Z (by simp),HI.aC Z (by simp),hR2.aC zG (by simp)⟩)
     | (have Z:aB [] wr z:=((((aB.refl [] wr).alloc _).drewN _).alloc _).trans G
        have B3:=C;have bJ:Value.ownBlock (.slice P q.length co)≠some (wr.heap.size+1):=λe=>by have:=X _ e;omega
        have hgn:g≠wr.heap.size+1:=by simp at hg;omega
        go_wp2;go_meet;refine⟨trivial,g,wr.heap.size+1,rfl,?_,yZ _ _ _ _ _ B3,?_,?_,?_,?_⟩
        .exact a0t (a0c.1 B3).1 (l8 _ _ _ _ _ _ _).size
        .exact(F.trans Z).over (l8 _ _ _ _ _ _ _) (by intro y D;simp at D;left;omega)
        .exact(O.aC Z (by simp)).far (l8 _ _ _ _ _ _ _) bJ
        .exact((((HI.cO (B:=(wr.heap.size+1)::(A++(Value.ownBlock (.slice P q.length co)).toList)) (by intro y D;rcases a0l.1 D with D|D;right;omega;left;exact D)).aC Z (by simp)).aC (l8 _ _ _ _ _ _ _) (by simp)).cO (by intro y D;left;exact a2l _ D))
        exact((hR.afJ (B:=(wr.heap.size+1)::(A++(Value.ownBlock (.slice P q.length co)).toList)) (by intro v;rcases a0l.1 v with v|v;exact hgn v;rcases a0e.1 v with v|v;have:=hA g v;omega;simp at v;have:=X g v;omega)).aC (l8 _ _ _ _ _ _ _) (by simp)).cO (by intro y D;left;exact a2l _ D))
   case rest =>
    obtain⟨_,g,N,rfl,hbh,hB,F9,O9,I9,R9⟩:=hcut;have z0:zC wc N 0 (zT M):=by simp[World.cell?,hB]
    have z1:zC wc N 1 (zS g d.length d.length):=by simp[World.cell?,hB]
    have z2:zC wc N 2 (zI J):=by simp[World.cell?,hB]
    have z3:zC wc N 3 (zI I):=by simp[World.cell?,hB]
    have z4:zC wc N 4 (zI H):=by simp[World.cell?,hB]
    have Il:=F9.size;have HCX:∀j u,(aO ⟨M,d,J,I,H⟩ (zS g d.length d.length)).toList[j]?=some u->zC (wc.alloc (Obj.cells #[zT M,zS g d.length d.length,zI J,zI I,zI H] 63)) wc.heap.size j u:=by intro j u hu;exact(cell_of_row _ _ _ _ _ _ (bD wc _)).trans (by simpa[aO] using hu)
    clear hB FR p4 q0 q1 q2 q3 q4 p5 y0 y1 y2 y3 HI O F;go_wp2_with (at_builtin;refine qD _ rfl _ _ 32 63 _ 5 64 CV Tryz.underlying32 rfl (by omega) rfl w.heap.size (.slice P q.length co) (fZ q) wc.heap.size (aO ⟨M,d,J,I,H⟩ (zS g d.length d.length)).toList rfl (O9.aC zG (by simp)) rfl rfl HCX (by intro u hu;simp[aO]at hu;rcases hu with rfl|rfl|rfl|rfl|rfl<;>rfl) (by rw[mI];omega) (by rw[mI];omega) (by simp;omega) ?_;intro gg aU w4 O4 aH bq AO;rw[mI]at O4 |-)
    have F4:aB [] w w4:=(F9.alloc _).grown aH (λr hr=>.inr (O9.lt hr).1);have I4:(dV LD (A++[gg]) w4 (q++[aO ⟨M,d,J,I,H⟩ (zS g d.length d.length)]) (uu m l++[⟨M,d,J,I,H⟩])) :=
     ((I9.aC zG (by simp)).snoc ⟨g,rfl,R9.aC zG (by simp)⟩).app aH bq
    clear aH bq I9 R9 HCX z0 z1 z2 z3 z4;go_roundg n
    .have O5:=O4;rw[Gi]at O5;refine⟨a,l++[x],q++[aO ⟨M,d,J,I,H⟩ (zS g d.length d.length)],rfl,Y,by omega,by simp;omega,F4,O5,?_,tV⟩;show dV _ _ _ _ _;rw[HS];exact I4
    omega
  have HD:∀W,aB [] w W->zF 28 #[zP pb,zI x,vl] W λe w'=>e=zR (.bool (Jz m (dH L (m.names.getD m.tests[x].n [])) m.tests[x]))/\aB [] W w':=λW f=>ai2 W pb V m (h.aC f (by simp)) ok x hxt vl L (hL.aC f (by simp)) Ux
  have FN:aB [] w (wr.alloc (Obj.cells #[zI 2,zI x,zI a,zI b] 78)):=F.alloc _;have ON:=O.aC (S:=[]) ((aB.refl [] _).alloc (Obj.cells #[zI 2,zI x,zI a,zI b] 78)) (by simp);have IN:=HI.aC (S:=[]) ((aB.refl [] _).alloc (Obj.cells #[zI 2,zI x,zI a,zI b] 78)) (by simp);clear axx;generalize X0:Jz m (dH L (m.names.getD m.tests[x].n [])) m.tests[x]=bt at *;clear X0;have N1:=HD _ FN;go_wp2_with fail
  refine N1.mono ?_;rintro e z ⟨rfl,G⟩;have B2:z.heap[wr.heap.size]?=some (Obj.cells #[zI 2,zI x,zI a,zI b] 78):=(G.block wr.heap.size (by simp) (by simp)).trans (bD _ _);have d3:zC z wr.heap.size 3 (zI b):=by simp[World.cell?,B2]
  have F2:=FN.trans G;have O2:=ON.aC G (by simp);have I2:=IN.aC G (by simp);clear N1 G B2 FN ON IN O HI HD;cases bt
  .have tV:l++runM m (dH L) n b=runM m (dH L) m.code.length 0:=by rw[<-HR,R];rfl
   clear HR R;go_wp2;go_roundg n;exact⟨b,l,q,rfl,hbn,by omega,by omega,F2,O2,I2,tV⟩;omega
  have tV:l++runM m (dH L) n a=runM m (dH L) m.code.length 0:=by rw[<-HR,R];rfl
  clear HR R;go_wp2;go_roundg n;exact⟨a,l,q,rfl,Y,by omega,by omega,F2,O2,I2,tV⟩;omega
def acf(v:Value)(L:List kW)(w:World)(h:LR w v L)(I:∀x∈L,x.1.length<=1048576/\x.2.length<=1048576)(P:∀a n c,v=.slice a n c->L.length<=c) :
 zF 16 #[v] w λe w'=>e=zR (.bool (gB L))/\aB [] w w':=by
 have E:=aj h;obtain⟨a,cap,rfl,_,N⟩:=h;have hc:=P a _ cap rfl;have H1:=aj N;have HN:=aj I;have eG:=bL
 by_cases M:12<L.length
 .have f:Z_ (gB L=false):=by show _=_;unfold gB;rw[a0f (by omega)];rfl
  have hd:decide ((12:Int)<(L.length:Int))=true:=a0g (by omega);delta zF;go_in
  go_wp2;go_ret;rw[f.o];exact⟨rfl,aB.refl _ _⟩
 have HO:Z_ (gB L=uo [] L):=by show _=_;unfold gB;rw[a0g (by omega)];rfl
 have hd:decide ((12:Int)<(L.length:Int))=false:=a0f (by omega);delta zF;go_in
 go_wp2_with fail
 go_loopg [10] L.length (λk u wr=>∃j:Nat,j+k=L.length/\u=zI j/\aB [] w wr/\Z_ (uo (L.take j) (L.drop j)=gB L))
 case atStart=>exact⟨0,by omega,rfl,aB.refl _ _,by show _=_;rw[HO.o];simp⟩
 case round =>
  obtain⟨j,_,rfl,B,r⟩:=hrel;have F:=aj B
  by_cases D:j<L.length
  .obtain⟨g,off,rfl,J,H,G⟩:=H1.o j D;have z:=HN.o L[j] (a0u D);have U:=(F.o.cell (p:=(zB g (off+j*2))) J (by simp)).trans H;have T:=(F.o.cell (p:=(zB g (off+j*2+1))) J (by simp)).trans G;have l:Z_ (gB L=(aJ L[j].1&&decide (L[j].2.length<=40)&&!((L.take j).any λy=>y.1==L[j].1)&&uo (L.take (j+1)) (L.drop (j+1)))):=by
    show _=_;rw[<-r.o];exact aeA L j D
   generalize A:L[j]=x at *;obtain⟨nm,i⟩:=x;simp only at U T z l
   by_cases R:40<i.length
   .have V:decide ((40:Int)<(i.length:Int))=true:=a0g (by omega)
    have f:Z_ (gB L=false):=by show _=_;rw[l.o,a0f (by omega)];simp
    go_wp2_with fail
    go_quiet (fail)
    go_wp2;go_ret;rw[f.o];exact⟨rfl,(F.o.alloc _).drewN _⟩
   have V:decide ((40:Int)<(i.length:Int))=false:=a0f (by omega);cases t:aJ nm
   .have f:Z_ (gB L=false):=by show _=_;rw[l.o,t];rfl
    have m:Z_ (∀W,zF 25 #[zT nm] W λe w'=>e=zR (.bool false)/\w'=W):=λW=>by have:=JR nm W z.1;rw[t]at this;exact this.mono (λe w' h=>⟨h.1,h.2.symm⟩)
    go_wp2_with fail
    go_quiet ((go_at_call 25;exact Calls.quiet_of_same (m.o _)))
    go_wp2;go_ret;rw[f.o];exact⟨rfl,(F.o.alloc _).drewN _⟩
   have m:Z_ (∀W,zF 25 #[zT nm] W λe w'=>e=zR (.bool true)/\W=w'):=λW=>by have:=JR nm W z.1;rw[t]at this;exact this
   have O:Z_ (gB L=(!((L.take j).any λy=>y.1==nm)&&uo (L.take (j+1)) (L.drop (j+1)))):=by
    show _=_;rw[l.o,t,a0g (by omega)];rfl
   have q:Z_ (∀W,aB [] w W->zF 26 #[.slice (some (zB g off)) j cap,zT nm] W λe w'=>e=zR (.bool ((L.take j).any λx=>x.1==nm))/\aB [] W w'):=λW Z=>af5 (L.take j) nm W ((E.o.aC Z (by simp)).take j (by omega))
   have Y:j<=cap:=by omega
   clear l;have s:Z_ (aB [] w (wr.alloc (Obj.cells #[zT nm,zT i] 47)).drew):=(F.o.alloc _).drew;cases d:((L.take j).any λx=>x.1==nm)
   .rw[d]at q
    have S:Z_ (uo (L.take (j+1)) (L.drop (j+1))=gB L):=by show _=_;rw[O.o,d];rfl
    go_wp2_with fail
    go_region_with (first | (go_at_call 25;refine(m.o _).mono ?_;rintro e w' ⟨rfl,rfl⟩)|(go_at_call 26;refine(q.o _ s).mono ?_;rintro e w' ⟨rfl,b⟩))
    all_goals
     have F2:=aj (s.o.trans b);clear b;go_wp2;go_roundg (gk-1)
     case measure=>omega
     case rel=>exact⟨j+1,by omega,by go_num,F2,S⟩
   rw[d]at q;have f:Z_ (gB L=false):=by show _=_;rw[O.o,d];rfl
   go_wp2_with fail
   go_region_with (first | (go_at_call 25;refine(m.o _).mono ?_;rintro e w' ⟨rfl,rfl⟩)|(go_at_call 26;refine(q.o _ s).mono ?_;rintro e w' ⟨rfl,b⟩))
   all_goals
    have F2:=aj (s.o.trans b);clear b;go_wp2;go_ret;rw[f.o];exact⟨rfl,F2⟩
  have f:Z_ (gB L=true):=by
   show _=_;rw[<-r.o,a0i (by omega)];rfl
  clear r;go_wp2;go_ret;rw[f.o];exact⟨rfl,F⟩
def LV(L:List kW):Prop:=∀x∈L,x.1.length<=1048576/\x.2.length<=1048576
def LV.val(h:LV L)(n:LB):(dH L n).length<=1048576:=by
 unfold dH;cases a:L.find? λx=>x.1==n with
 | none=>simp
 | some x=>exact(h x (List.mem_of_find?_eq_some a)).2
def amj(A:LN)(m:mP)(L:List kW)(w:World)(e:Ending)(w':World):Prop :=
 ∃v a,aB [] w w'/\((gB L=false/\e=zQ #[zN,zI 8])\/(gB L=true/\e=zQ #[v,zI 0]/\OW 63 5 w.heap.size w' v (fZ a)/\dV LD A w' a (uu m (runM m (dH L) m.code.length 0))))
def af7(A:LN)(w:World)(r:∀g∈A,g<w.heap.size)(pb:Nat)(V:V6)(m:mP)(h:PR [] w pb V m)(ok:MOK m)(a:Option Addr)(k cap:Nat)(L:List kW)(j:LR w (.slice a k cap) L)(i:LV L)(o:L.length<=cap) :
 zF 7 #[zP pb,.slice a k cap] w (amj A m L w):=by
 have n:=(acf (.slice a k cap) L w j i (λF z D e=>by cases e;exact o));delta zF;go_in
 go_wp2_with fail
 refine n.mono ?_;rintro e p ⟨rfl,F1⟩;have l:=aoj A p (λg q=>a0t (r g q) F1.size) pb V m (h.aC F1 (by simp)) ok (.slice a k cap) L (j.aC F1 (by simp)) i.val;have:=F1.size;cases d:gB L
 .have b:=d
  go_wp2;go_ret2;exact⟨zN,[],F1,.inl ⟨b,rfl⟩⟩
 have b:=d;go_wp2_with fail
 refine l.mono ?_;rintro e y ⟨v,x,rfl,f,O,I⟩;obtain⟨E,_,he⟩:=O.shape;rw[jA]at he;subst he;have F2:=F1.trans f;go_wp2;go_ret2;exact⟨_,x,F2,.inr ⟨b,rfl,⟨⟨O.1.1,O.1.2.imp id (λ⟨g,c,u,t,B,s⟩=>⟨g,c,u,t,by omega,s⟩)⟩,O.2⟩,I⟩⟩
def ai5(w:World)(pb:Nat)(V:V6)(m:mP)(h:PR [] w pb V m)(ok:MOK m)(a:Option Addr)(k cap:Nat)(L:List kW)(c:LR w (.slice a k cap) L)(b:LV L)(d:L.length<=cap) :
 zF 7 #[zP pb,.slice a k cap] w (amj [] m L w):=af7 [] w (by simp) pb V m h ok a k cap L c b d
structure HR(w:World)(g o:Nat)(x:kN)(vb:Value):Prop where
 lt:g<w.heap.size
 c0:w.cell? (zB g o)=some (zT x.rc)
 c1:w.cell? (zB g (o+1))=some vb
 c2:w.cell? (zB g (o+2))=some (zI x.wt)
 c3:w.cell? (zB g (o+3))=some (zI x.ev)
 c4:w.cell? (zB g (o+4))=some (zI x.rp)
 r:RW [] 1 w vb (sc x.bl)
theorem HR.drewN {g o:Nat} {x:kN}(h:HR w g o x vb)(n:Nat):HR (w.drewN n) g o x vb:=⟨h.lt,h.c0,h.c1,h.c2,h.c3,h.c4,h.r.aC ((aB.refl [] w).drewN n) (by simp)⟩
theorem HR.aC {g o:Nat} {x:kN}(h:HR w g o x vb)(f:aB [] w w'):HR w' g o x vb :=
 ⟨a0t h.lt f.size,f.at h.lt h.c0,f.at h.lt h.c1,f.at h.lt h.c2,f.at h.lt h.c3,f.at h.lt h.c4,h.r.aC f (by simp)⟩
def su(w:World)(v:Value)(b:List kN):Prop :=
 ∃a cap,v=.slice a b.length cap/\b.length<=cap/\∀j (h:j<b.length),∃g o vb,a=some (zB g o)/\HR w g (o+j*5) b[j] vb
theorem su.aC {b:List kN}(h:su w v b)(f:aB [] w w'):su w' v b:=by obtain⟨a,cap,e,d,h⟩:=h;refine⟨a,cap,e,d,λj c=>?_⟩;obtain⟨g,o,vb,k,i⟩:=h j c;exact⟨g,o,vb,k,i.aC f⟩
theorem su.nil(w:World):su w zN []:=⟨none,0,rfl,a0b _,λj h=>absurd h (by simp)⟩
def ary(m:mP)(L:List kW):List kN:=uu m (runM m (dH L) m.code.length 0)
def avv(C:List CR)(V:LB->LB):List kN:=(iw (hold gQ V C) C 6 0).map λi=>(fD C C.length).getD i ⟨[],[],0,0,0⟩
def ai6 {L:List LB} {C:List CR} {s:CS}(ht:t.length<=1048576)(h:jH t=.ok (L,C))(a:pread gH gQ lT 0 C=.ok s)(A:List kW):ary (iZ C s) A=avv C (dH A):=by
 unfold ary;rw[aod ab5 ht h a (dH A)]
 rfl
def aok(m:mP)(V:LB->LB):∀k i,(runM m V k i).length<=k:=by
 intro k
 induction k with
 | zero=>intro i;simp[runM]
 | succ k a =>
   intro i;rw[runM]
   repeat' split
   all_goals first | (simp;done)|(simp only[a0r];have:=a;omega)|(refine a0h (a _) (by omega))|(simp only[a0r];exact Nat.succ_le_succ (a _))
def akY(ok:MOK m){l:LN}:∀x∈uu m l,x.bl.length<=1000:=by
 intro x a;obtain⟨i,_,rfl⟩:=a0q.1 a
 by_cases h:i<m.routes.length
 .have:=(ok.routes.2 m.routes[i] (a0u h)).b1
  simp[List.getD,h];omega
 simp[List.getD,h]
end
end Go.Proofs.YtaokcijfoopcoaaGreat
namespace Go.Proofs.YtaokcijfoopcoaaGreat
variable {i:Nat}
open Go.RowKit
def acg(w:World)(b a:Value)(A B:LN)(L:List LB)(d:RW A 1 w b (sc L))(c:RW B 1 w a (sc L))(hlen:L.length<=1000) :
 zF 32 #[b,a] w λe w'=>e=zR (.bool true)/\∃q,w'=w.drewN q:=by
 obtain⟨y,c1,rfl,m⟩:=d.str;obtain⟨x,c2,rfl,l⟩:=c.str;have t:=aT;clear d c;delta zF;go_in
 go_wp2_with fail
 go_loopg [5] L.length (λk g wr=>∃j q:Nat,j+k=L.length/\g=zI j/\wr=w.drewN q)
 exact⟨0,0,by omega,rfl,rfl⟩
 .obtain⟨j,q,p,rfl,h⟩:=hrel;subst h
  by_cases f:j<L.length
  .obtain⟨v,o,rfl,z,k1⟩:=m j f
   obtain⟨u,n,rfl,r,k2⟩:=l j f;have i:decide ((j:Int)<(L.length:Int))=true:=a0g (by omega);generalize L[j]=s at *;go_wp2_with fail
   go_quiet (fail)
   go_wp2;go_roundg (gk-1);exact⟨j+1,_,by omega,by go_num,rfl⟩;omega
  have i:decide ((j:Int)<(L.length:Int))=false:=a0f (by omega);go_wp2;go_ret;exact⟨rfl,q,rfl⟩
def af8(w:World)(i g h f:Nat)(x:kN)(d c:Value)(b:HR w i g x d)(a:HR w h f x c)(hlen:x.bl.length<=1000) :
 zF 20 #[.pointer (some (zB i g)),.pointer (some (zB h f))] w λe w'=>e=zR (.bool true)/\∃q,w'=w.drewN q:=by
 have j:∀n,zF 32 #[d,c] (w.drewN n) λe w'=>e=zR (.bool true)/\∃q,w'=(w.drewN n).drewN q:=λn=>acg (w.drewN n) d c [] [] x.bl (b.drewN n).r (a.drewN n).r hlen
 obtain⟨B,c1,rfl,_⟩:=b.r.str;obtain⟨A,c2,rfl,_⟩:=a.r.str;have y:=b.c0;have v:=b.c1;have u:=b.c2;have t:=b.c3;have s:=b.c4;have p:=a.c0;have o:=a.c1;have m:=a.c2;have l:=a.c3;have k:=a.c4;have z:=aT;clear b a;delta zF;go_in
 go_wp2_with fail
 go_quiet ((go_at_call 32;exact Calls.quiet_of (j _)))
 go_wp2_with fail
 go_quiet (fail)
 go_wp2;go_ret;exact⟨rfl,_,yD⟩
def acD(w:World){v1 v2:Value}(A B:LN)(cs1 cs2:List (Array Value))(xs:List kN)(h1:RW A 5 w v1 (fZ cs1))(h2:RW B 5 w v2 (fZ cs2))(i1:dV Gj A w cs1 xs)(i2:dV Gj B w cs2 xs)(hlen:xs.length<=1048576)(hx:∀x∈xs,x.bl.length<=1000) :
 zF 12 #[v1,v2] w λe w'=>e=zR (.bool true)/\∃q,w'=w.drewN q:=by
 obtain⟨a1,c1,rfl,r1⟩:=sP h1 i1;obtain⟨a2,c2,rfl,r2⟩:=sP h2 i2;have R1:=aj r1;have R2:=aj r2;have HX:=aj hx;clear h1 h2 i1 i2 r1 r2 hx;delta zF;go_in
 go_wp2_with fail
 go_loopg [5] xs.length (λk v5 wr=>∃j q:Nat,j+k=xs.length/\v5=zI j/\wr=w.drewN q)
 case atStart=>exact⟨0,0,by omega,rfl,rfl⟩
 case round =>
  obtain⟨j,q,lU,rfl,hw⟩:=hrel;have HW:=aj hw;clear hw
  by_cases aL:j<xs.length
  ·obtain⟨g1,o1,s1,rfl,IE,_,⟨b1,rfl,rb1⟩,k1⟩:=R1.o j aL
   obtain⟨g2,o2,s2,rfl,iM,_,⟨b2,rfl,rb2⟩,k2⟩:=R2.o j aL;have gJ:decide ((j:Int)<(xs.length:Int))=true:=a0g (by omega);have yS:=HX.o _ (a0u aL);have H1:HR w g1 (o1+j*5) xs[j] b1:=⟨IE,k1 0 _ rfl,k1 1 _ rfl,k1 2 _ rfl,k1 3 _ rfl,k1 4 _ rfl,rb1.cO (by simp)⟩;have H2:HR w g2 (o2+j*5) xs[j] b2:=⟨iM,k2 0 _ rfl,k2 1 _ rfl,k2 2 _ rfl,k2 3 _ rfl,k2 4 _ rfl,rb2.cO (by simp)⟩;have K1:HR wr g1 (o1+j*5) xs[j] b1:=by rw[HW.o];exact H1.drewN q
   have K2:HR wr g2 (o2+j*5) xs[j] b2:=by rw[HW.o];exact H2.drewN q
   have N1:Z_ (∀n,zF 20 #[.pointer (some (zB g1 (o1+j*5))),.pointer (some (zB g2 (o2+j*5)))] (wr.drewN n) λe w'=>e=zR (.bool true)/\∃q',w'=(wr.drewN n).drewN q'):=λn=>af8 (wr.drewN n) g1 (o1+j*5) g2 (o2+j*5) xs[j] b1 b2 (K1.drewN n) (K2.drewN n) yS
   clear H1 H2 K1 K2 k1 k2 rb1 rb2;go_wp2_with fail
   go_quiet ((go_at_call 20;exact Calls.quiet_of (N1.o _)))
   go_wp2;go_roundg (gk-1)
   case measure=>omega
   case rel=>exact⟨j+1,_,by omega,by go_num,by rw[HW.o];exact yD⟩
  have gJ:decide ((j:Int)<(xs.length:Int))=false:=a0f (by omega);go_wp2;go_ret;exact⟨rfl,q,HW⟩
open Go.RowKit
def akZ(w:World){v:Value}(A:LN)(cs:List (Array Value))(xs:List kN)(h:RW A 5 w v (fZ cs))(b:dV LD A w cs xs)(hlen:xs.length<=1048576)(g:∀x∈xs,x.bl.length<=1000) :
 zF 11 #[v] w λe w'=>e=zR (.bool true)/\∃q,w'=w.drewN q:=by
 obtain⟨t,c1,rfl,o⟩:=sP h b;clear h b;delta zF;go_in
 go_wp2_with fail
 go_loopg [3] xs.length (λk d wr=>∃j q:Nat,j+k=xs.length/\d=zI j/\wr=w.drewN q)
 exact⟨0,0,by omega,rfl,rfl⟩
 .obtain⟨j,q,s,rfl,i⟩:=hrel;subst i
  by_cases c:j<xs.length
  .obtain⟨m,f,s1,rfl,u,_,⟨b1,rfl,a⟩,k1⟩:=o j c
   have l:decide ((j:Int)<(xs.length:Int))=true:=a0g (by omega);have p:=g _ (a0u c);have r:zC w m (f+j*5+1) (zS b1 xs[j].bl.length xs[j].bl.length):=k1 1 _ rfl;clear k1 a;generalize xs[j].bl.length=n at *;go_wp2_with fail
   go_quiet (fail)
   go_wp2;go_roundg (gk-1);exact⟨j+1,_,by omega,by go_num,rfl⟩;omega
  have l:decide ((j:Int)<(xs.length:Int))=false:=a0f (by omega);go_wp2;go_ret;exact⟨rfl,q,rfl⟩
open Go.RowKit
def EN:Nat->List kW->Nat
 | n,[]=>n
 | n,x::r=>if n<=16384 then EN (n+x.1.length+x.2.length) r else n
def Zb:∀(L:List kW) (n:Nat),n<=EN n L
 | [],n=>a0b _
 | x::r,n=>by
   unfold EN
   split
   .have:=Zb r (n+x.1.length+x.2.length)
    omega
   exact a0b _
def ai8:∀(L:List kW) (n:Nat),EN n L<=16384->∀x∈L,x.1.length<=16384/\x.2.length<=16384
 | [],n,_=>by simp
 | y::r,n,h=>by
   have b:=a0h (Zb (y::r) n) h;unfold EN at h;rw[a0m b]at h;have c:=Zb r (n+y.1.length+y.2.length);intro x a;rcases a0l.1 a with rfl|a
   .omega
   exact ai8 r _ h x a
def LQ(w:World)(a:Option Addr)(L:List kW):Prop :=
 ∀(j:Nat) (h:j<L.length),∃g off,a=some (zB g off)/\g<w.heap.size/\w.cell? (zB g (off+j*2))=some (.string (bs L[j].1))/\w.cell? (zB g (off+j*2+1))=some (.string (bs L[j].2))
def LQ.lr{w:World}{a:Option Addr}{L:List kW}(h:LQ w a L)(cap:Nat)(b:L.length<=1048576):LR w (.slice a L.length cap) L:=⟨a,cap,rfl,b,h⟩
theorem LQ.aC{w w':World}{a:Option Addr}{L:List kW}(h:LQ w a L)(f:aB [] w w'):LQ w' a L:=by intro j c;obtain⟨g,off,rfl,b,e,d⟩:=h j c;exact⟨g,off,rfl,a0t b f.size,(f.cell (p:=(zB g (off+j*2))) b (by simp)).trans e,(f.cell (p:=(zB g (off+j*2+1))) b (by simp)).trans d⟩
open Go.RowKit
def ak0{P:Program}(w:World)(m n ty elem:TypeId)(g o c f:Nat)(a:Addr)(b d k:Nat)(cur:Array Value)(t:TypeId)(cs:List Value)
 (p:P.underlying m=some (.slice elem)) (l:(P.info? elem).map (·.size)=some k)
 (u:w.heap[g]?=some (.cells cur t (0,0))) (q:cs.length=Nat.min b c*k)
 (h:∀j v,cs[j]?=some v->w.cell? (a.add j)=some v) (e:o+cs.length<=cur.size) (x:∀v∈cs,v.oneCell'=true) :
 (Builtin.copy_ #[m,n] ty #[.slice (some (zB g o)) c f,.slice (some a) b d]).run P w =
   .ok (goInt (Nat.min b c)) (w.setRow g (cur.toList.take o++cs++cur.toList.drop (o+cs.length)).toArray):=by
 have r:=run_loadCells_list (P:=P) w a cs h;have y:=run_storeCells_at P g o t cs 0 cur w u (by simpa using e) x;cases hq:P.info? elem with
 | none=>simp[hq]at l
 | some i =>
   have s:i.size=k:=by simpa[hq] using l
   simp[Builtin.copy_,run_underlying p,Builtin.lenOf,Builtin.firstCells,sizeOf,typeInfo,hq,s,<-q,r,y]
def YM{P:Program}(w:World)(g h ty elem:TypeId)(d a:Option Addr)(c f b e k:Nat)(j:P.underlying g=some (.slice elem))(l:(P.info? elem).map (·.size)=some k)(m:Nat.min b c=0) :
 (Builtin.copy_ #[g,h] ty #[.slice d c f,.slice a b e]).run P w=.ok (goInt 0) w:=by
 cases hq:P.info? elem with
 | none=>simp[hq]at l
 | some i =>
   have n:∀(x:Addr),(loadCells x 0).run P w=.ok #[] w:=λx=>by simpa using run_loadCells_list (P:=P) w x [] (by simp)
   cases d<;>cases a<;>simp[Builtin.copy_,run_underlying j,Builtin.lenOf,Builtin.firstCells,sizeOf,typeInfo,hq,m,storeCells,n]
def acE{P:Program}{w:World}{ops:Array Oper}{rest:List Oper}{o:Oper}{a:Act}{Q:Exit->Act->World->Prop}(H:o.guard=none){d s:Operand}(l q:TypeId)
 (ho:o.op=.call { callee:=.builtin .copy,args:=#[d,s],argTypes:=#[l,q] }) (elem:TypeId) (k:Nat) (A:P.underlying l=some (.slice elem)) (F:(P.info? elem).map (·.size)=some k)
 {x sp:Option Addr} {c f b e:Nat}(n:Nat) (hd:a.eval d=.slice x c f) (C:a.eval s=.slice sp b e)
 (g off:Nat) (cur:List Value) (t:TypeId) (r:w.heap[g]?=some (.cells cur.toArray t (0,0))) (cs:List Value) (I:Nat.min b c=n) (D:cs.length=n*k) (N:0<k)
 (M:0<cs.length->x=some (zB g off)/\∃m,sp=some m/\∀j v,cs[j]?=some v->w.cell? (m.add j)=some v)
 (i:off+cs.length<=cur.length) (J:∀v∈cs,v.oneCell'=true) (B:Nat) {z:World} (hb:Below B z w) (u:B<=g)
 (h:∀w',Z_ (w'.heap[g]?=some (.cells (splice cur off cs).toArray t (0,0)))->Below B z w'->wpList P ops Q rest (a.put o.dst (goInt n)) w') :
 wpList P ops Q (o::rest) a w:=by
 refine wpList_plain H λK E=>?_
 subst I
 by_cases L:cs.length=0
 .obtain rfl:cs=[]:=a0S L
  have G:Nat.min b c=0:=by
   have:Nat.min b c*k=0:=by simpa using D.symm
   rcases Nat.mul_eq_zero.1 this with h|h
   .exact h
   omega
  have p:=YM (P:=P) w l q o.type elem x sp c f b e k A F G;unfold Oper.wp;simp[execOp,ho,resolve,invoke,builtin,hd,C,p,Result.andThen];rw[G]at h;exact E _ _ (h w (show _=_ by simpa[splice] using r) hb)
 obtain⟨rfl,m,rfl,y⟩:=M (by omega);have p:=ak0 (P:=P) w l q o.type elem g off c f m b e k cur.toArray t cs A F r D y (by simpa using i) J;unfold Oper.wp;simp[execOp,ho,resolve,invoke,builtin,hd,C,p,Result.andThen];exact E _ _ (h _ (show _=_ by simpa[splice] using setRow_heap w g _ _ t _ r) (below_setRow hb u _))
open Go.RowKit
def aol(w:World)(a:Option Addr)(cap:Nat)(L:List kW)(h:LQ w a L)(E:L.length<=4398046511104)(y:∀x∈L,x.1.length<=140737488355328/\x.2.length<=140737488355328) :
 zF 13 #[.slice a L.length cap] w λe w'=>e=zR (zI (EN L.length L:Nat))/\∃q,w'=w.drewN q:=by
 have C:=aT;have hz:=bL;delta zF;go_in
 go_wp2_with fail
 go_loopg [3,4] L.length (λk p o wr=>∃j n q:Nat,j+k=L.length/\o=zI j/\p=zI n/\n<=562949953421312/\wr=w.drewN q/\(EN n (L.drop j)=EN L.length L))
 exact⟨0,L.length,0,by omega,rfl,rfl,by omega,rfl,by simp⟩
 .obtain⟨j,n,q,A,rfl,rfl,B,v,b⟩:=hrel;subst v
  by_cases c:j<L.length
  .have z:decide ((j:Int)<(L.length:Int))=true:=a0g (by omega)
   by_cases d:n<=16384
   .have s:decide ((n:Int)<=16384)=true:=a0g (by omega)
    have f:decide (n<=16384)=true:=a0g d;obtain⟨g,off,rfl,D,t,r⟩:=h j c;have u:=y L[j] (a0u c);have m:EN (n+L[j].1.length+L[j].2.length) (L.drop (j+1))=EN L.length L:=by rw[<-b,a0k c,EN,a0m d]
    clear b;generalize L[j]=x at *;obtain⟨nm,l⟩:=x;simp only at t r u m;have G:=bL nm;have F:=bL l;go_wp2_with fail
    go_quiet (fail)
    go_wp2;go_roundg (gk-1);exact⟨j+1,n+nm.length+l.length,_,by omega,by go_num,by go_num,by omega,rfl,m⟩;omega
   have s:decide ((n:Int)<=16384)=false:=a0f (by omega);have f:decide (n<=16384)=false:=a0f d;have i:EN L.length L=n:=by rw[<-b,a0k c,EN,a0n d]
   clear b;go_wp2;go_ret;rw[i];exact⟨rfl,q,rfl⟩
  have z:decide ((j:Int)<(L.length:Int))=false:=a0f (by omega);have i:EN L.length L=n:=by rw[<-b,a0i (by omega),EN]
  clear b;go_wp2;go_ret;rw[i];exact⟨rfl,q,rfl⟩
def ai9:∀(L:List kW) (n:Nat),n<=562949953421312->(∀x∈L,x.1.length<=140737488355328/\x.2.length<=140737488355328)->EN n L<=562949953421312
 | [],n,h,_=>h
 | x::r,n,h,a=>by
   unfold EN;have:=a x (by simp)
   split
   .exact ai9 r _ (by omega) (λy b=>a y (by simp[b]))
   exact h
def aom(w:World)(t:LB)(ht:t.length<=140737488355328)(a:Option Addr)(cap:Nat)(L:List kW)(h:LQ w a L)(g:L.length<=4398046511104)(b:∀x∈L,x.1.length<=140737488355328/\x.2.length<=140737488355328) :
 zF 4 #[zT t,.slice a L.length cap] w λe w'=>e=zR (.bool (decide (16384<t.length+EN L.length L)))/\∃q,w'=w.drewN q:=by
 have d:=aol w a cap L h g b;have j:=ai9 L L.length (by omega) b;have hz:=bL t;clear h b;generalize EN L.length L=S at *;cases hd:decide (16384<t.length+S)
 have c:¬ 16384<t.length+S:=of_decide_eq_false hd;have f:decide ((16384:Int)<(t.length:Int)+(S:Int))=false:=a0f (by omega)
 rotate_left
 have c:16384<t.length+S:=a2q hd;have f:decide ((16384:Int)<(t.length:Int)+(S:Int))=true:=a0g (by omega)
 all_goals
  delta zF;go_in
  go_wp2_with fail
  refine d.mono ?_;clear d;rintro e i ⟨rfl,q,rfl⟩;go_wp2;go_ret;exact⟨rfl,q,rfl⟩
open Go.RowKit
def lcs:List kW->List Value
 | []=>[]
 | x::r=>zT x.1::zT x.2::lcs r
theorem ach:∀L:List kW,(lcs L).length=L.length*2
 | []=>rfl
 | x::r=>by simp[lcs,ach r];omega
theorem ak1:∀(L:List kW) (j:Nat) (h:j<L.length),(lcs L)[j*2]?=some (.string (bs L[j].1))
 | [],j,h=>absurd h (by simp)
 | x::r,0,_=>rfl
 | x::r,j+1,h=>by have:=ak1 r j (by simpa using h);rw[show(j+1)*2=j*2+1+1 by omega];simpa[lcs] using this
theorem ak3:∀(L:List kW) (j:Nat) (h:j<L.length),(lcs L)[j*2+1]?=some (.string (bs L[j].2))
 | [],j,h=>absurd h (by simp)
 | x::r,0,_=>rfl
 | x::r,j+1,h=>by have:=ak3 r j (by simpa using h);rw[show(j+1)*2+1=j*2+1+1+1 by omega];simpa[lcs] using this
def arA(L:List kW):∀v∈lcs L,v.oneCell'=true:=by
 induction L with
 | nil=>simp[lcs]
 | cons x r b =>
   intro v a;simp only[lcs,a0l]at a;rcases a with rfl|rfl|a
   .rfl
   .rfl
   exact b v a
theorem LQ.src{w:World}{g off:Nat}{L:List kW}(h:LQ w (some ⟨g,off,none⟩) L)(j:Nat)(v:Value)(hv:(lcs L)[j]?=some v):w.cell? ⟨g,off+j,none⟩=some v:=by
 have hj:j<L.length*2:=by
  have:=(a0d.1 hv).1
  rwa [ach]at this
 obtain⟨i,hi⟩:∃i,i=j / 2:=⟨_,rfl⟩;obtain⟨g',off',e,hg,h1,h2⟩:=h i (by omega);simp only[Option.some.injEq,Addr.mk.injEq,a2u]at e;obtain⟨rfl,rfl⟩:=e;rcases Nat.mod_two_eq_zero_or_one j with hm|hm
 ·obtain rfl:j=i*2:=by omega
  rw[ak1 L i (by omega)]at hv;rw[<-hv];exact h1
 obtain rfl:j=i*2+1:=by omega
 rw[ak3 L i (by omega)]at hv;rw[<-hv,<-a2M];exact h2
def arB:(Tryz.prog.info? 47).map (λi=>(i.zero,i.size,i.bytes))=some (some (.agg #[.string ByteArray.empty,.string ByteArray.empty]),2,32):=by kernel_rfl
def aon:(Tryz.prog.info? 47).map (·.size)=some 2:=by kernel_rfl
def arC{n:Nat}(i:Nat)(h:i<n):(madeCells #[.string ByteArray.empty,.string ByteArray.empty] n).toList[i]?=some (.string ByteArray.empty):=by simp only[madeCells,Array.getElem?_toList,Array.getElem?_map];rw[Array.getElem?_range,a0m h];simp only[a1x];rcases Nat.mod_two_eq_zero_or_one i with h|h<;>simp[h]
theorem aci{α:Type}{Z cs:List α}(h:cs.length<=i):(splice Z 0 cs)[i]?=Z[i]?:=by
 unfold splice;rw[a3w,a0V,a0K h,a3u]
 congr 1
 omega
theorem acj{α:Type}{Z cs:List α}(h:i<cs.length):(splice Z 0 cs)[i]?=cs[i]?:=by unfold splice;rw[a3w,a0V,a0s h]
theorem axy{g q j:Nat}:((zB g q):Addr).add j=(zB g (q+j)):=by unfold Addr.add;split<;>simp_all
def Nu{w:World}{g:Nat}{cur:List Value}{t:TypeId}(b:w.heap[g]?=some (.cells cur.toArray t (0,0))){i:Nat}{v:Value}(a:cur[i]?=some v):zC w g i v:=by simp[World.cell?,b,a]
structure CPL(w:World)(b:Nat)(L:List kW):Prop where
 lt:b<w.heap.size
 q:LQ w (some (zA b)) L
 m0:w.cell? (zB b (L.length*2))=some (.string { data:=#[109,105,110,101] })
 m1:w.cell? (zB b (L.length*2+1))=some (.string ByteArray.empty)
theorem CPL.aC{w w':World}{b:Nat}{L:List kW}(h:CPL w b L)(f:aB [] w w'):CPL w' b L :=
 ⟨a0t h.lt f.size,h.q.aC f,(f.cell (p:=(zB b (L.length*2))) h.lt (by simp)).trans h.m0,(f.cell (p:=(zB b (L.length*2+1))) h.lt (by simp)).trans h.m1⟩
def as3{w:World}{b:Nat}{L:List kW}(d:b<w.heap.size)(hq:LQ w (some (zA b)) L){u0 u1:Value}(c0:zC w b (L.length*2) u0)(c1:zC w b (L.length*2+1) u1) :
 CPL ((w.setCell (zB b (L.length*2)) (.string { data:=#[109,105,110,101] })).setCell (zB b (L.length*2+1)) (.string ByteArray.empty)) b L:=by
 have hd:((zB b (L.length*2)):Addr)≠ (zB b (L.length*2+1)):=by simp
 have c:zC (w.setCell (zB b (L.length*2)) (.string { data:=#[109,105,110,101] })) b (L.length*2+1) u1:=(World.cell?_setCell_other _ _ _ _ hd).trans c1;have a:∀(w:World) (p:Addr) (v:Value),w.heap.size<=(w.setCell p v).heap.size:=λw p v=>((aB.refl [p.block] w).setCell (p:=p) (.inl (by simp)) v).size
 refine⟨a0t d (a0h (a _ _ _) (a _ _ _)),?_,?_,?_⟩
 .intro j f
  obtain⟨g,off,e,k,i,h⟩:=hq j f;simp only[Option.some.injEq,Addr.mk.injEq,a2u]at e;obtain⟨rfl,rfl⟩:=e;refine⟨b,0,rfl,a0t d (a0h (a _ _ _) (a _ _ _)),?_,?_⟩
  .rw[World.cell?_setCell_other _ _ _ _ (by simp<;>omega),World.cell?_setCell_other _ _ _ _ (by simp<;>omega)];exact i
  rw[World.cell?_setCell_other _ _ _ _ (by simp<;>omega),World.cell?_setCell_other _ _ _ _ (by simp<;>omega)];exact h
 .rw[World.cell?_setCell_other _ _ _ _ (by simp)]
  exact World.cell?_setCell_same _ _ _ c0
 exact World.cell?_setCell_same _ _ _ c
def aB.as4{S:LN}{B:Nat}{w W w':World}(f:aB S w W)(b:Below B W w')(d:w.heap.size<=B):aB S w w' :=
 ⟨b.os.trans f.os,b.tape.trans f.tape,b.output.trans f.output,a0h f.size b.size,λk a c=>(b.block k (by omega)).trans (f.block k a c)⟩
def aja(w:World)(a:Option Addr)(cap:Nat)(L:List kW)(h:LQ w a L)(hN:L.length<=16384) :
 zF 6 #[.slice a L.length cap] w λe w'=>e=zR (zS w.heap.size L.length (L.length+1))/\aB [] w w'/\CPL w' w.heap.size L:=by
 obtain⟨Zl,hZ⟩:∃Zl:List Value,Zl=(madeCells #[.string ByteArray.empty,.string ByteArray.empty] ((L.length+1)*2)).toList:=⟨_,rfl⟩;have HZL:Z_ (Zl.length=(L.length+1)*2):=by show _=_;rw[hZ,a3o];exact size_madeCells _ _
 have HZA:Z_ (∀i,i<(L.length+1)*2->Zl[i]?=some (.string ByteArray.empty)):=λi hi=>by rw[hZ];exact arC i hi
 have Oh:∀u:World,(Instr.makeSlice 22 (zI ((L.length:Int)+1)) (zI ((L.length:Int)+1))).run Tryz.prog u=.ok (zS u.heap.size (L.length+1) (L.length+1)) (u.alloc (.cells Zl.toArray 47)):=λu=>by
  obtain⟨i0,hi,gT,fM,gD⟩:=kg arB;have:=run_make (P:=Tryz.prog) u 22 47 i0 _ Tryz.underlying22 hi gT .i64 .i64 ((L.length:Int)+1) ((L.length:Int)+1) (by omega) (a3n _) (by rw[gD];omega) (by omega);rw[fM,show((L.length:Int)+1).toNat=L.length+1 by omega]at this;rw[this,hZ];rfl
 have Ao:Z_ ((lcs L).length=L.length*2):=ach L;obtain⟨cs,pY⟩:∃cs,cs=lcs L:=⟨_,rfl⟩;rw[<-pY]at Ao;have II:=aj pY;have H:=aj h;clear pY hZ h;obtain⟨W,hW⟩:∃W,W=w.alloc (Obj.cells Zl.toArray 47):=⟨_,rfl⟩;have FW:Z_ (aB [] w W):=by show aB _ _ _;rw[hW];exact(aB.refl [] w).alloc _
 have B2:Z_ (W.heap[w.heap.size]?=some (Obj.cells Zl.toArray 47 (0,0))):=by show _=_;rw[hW];exact bD _ _
 have HM:Z_ (Nat.min L.length (L.length+1)=L.length):=a2n (by omega);have ai4:Z_ (∀dp:Option Addr,dp=some (zA w.heap.size)->0<cs.length->dp=some (zA w.heap.size)/\∃ad,a=some ad/\∀j v,cs[j]?=some v->W.cell? (ad.add j)=some v):=by
  intro dp hdp h0;rw[Ao.o]at h0;obtain⟨g,off,rfl,hg,_⟩:=H.o 0 (by omega);refine⟨hdp,_,rfl,λj v hv=>?_⟩;rw[axy];rw[II.o]at hv;exact(FW.o.cell (p:=(zB g (off+j))) hg (by simp)).trans (H.o.src j v hv)
 have arx:Z_ (0+cs.length<=Zl.length):=by show _<=_;rw[Ao.o,HZL.o];omega
 have H1C:Z_ (∀v∈cs,v.oneCell'=true):=by rw[II.o];exact arA L
 have HB:Z_ (Below w.heap.size W W):=Below.refl _ _;rw[hW]at HB B2 ai4;go_enter Tryz.func6,Tryz.ntmps6
 go_wp2_with (refine acE rfl 22 22 rfl 47 2 Tryz.underlying22 aon L.length rfl rfl w.heap.size 0 Zl 47 B2.o cs HM.o Ao.o (by omega) (ai4.o _ rfl) arx.o H1C.o w.heap.size HB.o (a0b _) ?_;intro w4 QO Oj;rw[<-hW]at Oj;have c0:zC w4 w.heap.size (L.length*2) (.string ByteArray.empty):=Nu QO.o (by rw[aci (by rw[Ao.o];omega),HZA.o _ (by omega)]);have c1:zC w4 w.heap.size (L.length*2+1) (.string ByteArray.empty):=Nu QO.o (by rw[aci (by rw[Ao.o];omega),HZA.o _ (by omega)]);have cz:∀o,w4.frozen? (zB w.heap.size o)=false:=(λo=>by simp[World.frozen?,QO.o]);have HB4:=aj Oj;clear Oj)
 go_ret;have F4:aB [] w w4:=FW.o.as4 HB4.o (a0b _);have aL:w.heap.size<w4.heap.size:=(a0c.1 QO).1;have hq:LQ w4 (some (zA w.heap.size)) L:=by
  intro j hj;refine⟨w.heap.size,0,rfl,aL,?_,?_⟩
  ·rw[a1n]
   refine Nu QO.o ?_;rw[acj (by rw[Ao.o];omega),II.o];exact ak1 L j hj
  rw[a1n];refine Nu QO.o ?_;rw[acj (by rw[Ao.o];omega),II.o];exact ak3 L j hj
 have FS:∀(u:World) (p:Addr) (v:Value),p.block=w.heap.size->aB [w.heap.size] u (u.setCell p v):=λu p v e=>(aB.refl _ _).setCell (p:=p) (.inl (by simp[e])) _
 exact⟨rfl,(F4.over (FS _ _ _ rfl) (by simp)).over (FS _ _ _ rfl) (by simp),as3 aL hq c0 c1⟩
def ak4(w:World)(b:Nat)(a:Option Addr)(cap:Nat)(L:List kW)(h:LQ w a L)(c:CPL w b L)(B:L.length<=16384) :
 zF 8 #[zS b L.length (L.length+1),.slice a L.length cap] w λe w'=>e=zR (.bool true)/\∃q,w'=w.drewN q:=by
 have r:=c.q;have m0:=c.m0;have m1:=c.m1;have A:=aT;clear c;delta zF;go_in
 go_wp2_with fail
 go_loopg [7] L.length (λk l wr=>∃j q:Nat,j+k=L.length/\l=zI j/\wr=w.drewN q)
 exact⟨0,0,by omega,rfl,rfl⟩
 .obtain⟨j,q,y,rfl,o⟩:=hrel;subst o
  by_cases i:j<L.length
  .have p:decide ((j:Int)<(L.length:Int))=true:=a0g (by omega)
   have v:decide ((j:Int)<(L.length:Int)+1)=true:=a0g (by omega);obtain⟨D,u,rfl,E,n,m⟩:=h j i;obtain⟨C,t,g,z,f,d⟩:=r j i;simp only[Option.some.injEq,Addr.mk.injEq,a2u]at g;obtain⟨rfl,rfl⟩:=g;rw[a1n]at f d;generalize L[j]=x at *;obtain⟨nm,s⟩:=x;simp only at n m f d;go_wp2_with fail
   go_quiet (fail)
   go_wp2;go_roundg (gk-1);exact⟨j+1,_,by omega,by go_num,rfl⟩;omega
  have p:decide ((j:Int)<(L.length:Int))=false:=a0f (by omega);go_wp2;go_ret;exact⟨rfl,q,rfl⟩
open Go.RowKit
def ajc(t:LB)(w:World)(ht:t.length<=140737488355328)(a:Option Addr)(cap:Nat)(L:List kW)(h:LQ w a L)(hN:L.length<=4398046511104)(hs:∀x∈L,x.1.length<=140737488355328/\x.2.length<=140737488355328) :
 zF 3 #[zT t,.slice a L.length cap] w λe w'=>e=zR (.bool true)/\aB [] w w':=by
 have I:=aom w t ht a cap L h hN hs;cases hd:decide (16384<t.length+EN L.length L)
 .rw[hd]at I
  have hsm:¬ 16384<t.length+EN L.length L:=of_decide_eq_false hd;have hLn:=Zb L L.length;have HS:=ai8 L L.length (by omega);have E:LV L:=λx M=>by have:=HS x M;omega
  clear hd hs;delta zF;go_in
  go_wp2_with fail
  refine I.mono ?_;clear I;rintro e w1 ⟨rfl,q,rfl⟩;have N2:=ace t (w.drewN q) (by omega);go_wp2_with fail
  refine N2.mono ?_;clear N2;rintro e d ⟨og,h2⟩;have F2:=((aB.refl [] w).drewN q).trans og;clear og;rcases h2 with⟨_,rfl⟩|⟨pb,Ln,C,cb,base,X,HZ,m,rfl,hq,P,_⟩
  .go_wp2
   go_ret;exact⟨rfl,F2.alloc _⟩
  obtain⟨Ln',C',s,V,y,N,hP,HM⟩:=hq;rw[m]at y;simp only[Except.ok.injEq,Prod.mk.injEq]at y;obtain⟨rfl,rfl⟩:=y;obtain⟨H,k⟩:∃x,x=d.alloc (Obj.cells #[zP pb,zP cb,.pointer none,.string ByteArray.empty] 28):=⟨_,rfl⟩;have FA:aB [] d H:=by rw[k];exact zG
  have G:H.heap[d.heap.size]?=some (.cells #[zP pb,zP cb,.pointer none,.string ByteArray.empty] 28 (0,0)):=by rw[k];exact bD _ _
  have F3:=F2.trans FA;have Q3:=h.aC F3;have N3:zF 6 #[.slice a L.length cap] H λe w'=>∃b,e=zR (zS b L.length (L.length+1))/\aB [] H w'/\CPL w' b L:=(aja H a cap L Q3 (by omega)).mono (λe w' h=>⟨_,h⟩);have P3:=hP.aC FA (by simp);have CF3:=P.aC FA;have M:uu (iZ C s) (runM (iZ C s) (dH L) (iZ C s).code.length 0)=(iw (hold gQ (dH L) C) C 6 0).map (Dw C):=ai6 (by omega) m N L;have B:∀x∈uu (iZ C s) (runM (iZ C s) (dH L) (iZ C s).code.length 0),x.bl.length<=1000:=akY HM;have yS:(uu (iZ C s) (runM (iZ C s) (dH L) (iZ C s).code.length 0)).length<=1048576:=by have h1:=aok (iZ C s) (dH L) (iZ C s).code.length 0;have h2:=HM.code.2.1;simp only[uu,a0y];omega
  obtain⟨R,D⟩:∃R,R=(iw (hold gQ (dH L) C) C 6 0).map (Dw C):=⟨_,rfl⟩;rw[M,<-D]at B yS;have HX:uu (iZ C s) (runM (iZ C s) (dH L) (iZ C s).code.length 0)=R:=by rw[M,D]
  have S:d.heap.size<H.heap.size:=(a0c.1 G).1;clear P hP FA N M;rw[k]at N3;go_wp2_with fail
  refine N3.mono ?_;clear N3;rw[<-k];rintro e w4 ⟨b,rfl,g,C4⟩;have n:w4.heap[d.heap.size]?=_:=(g.block d.heap.size S (by simp)).trans G;have d0:zC w4 d.heap.size 0 (zP pb):=by simp[World.cell?,n]
  have P4:=P3.aC g (by simp);have Q4:=Q3.aC g;have F4:=F3.trans g;have Z:=CF3.aC g;have Aq:d.heap.size<w4.heap.size:=(a0c.1 n).1;have N4:=ai5 w4 pb V _ P4 HM (some (zA b)) L.length (L.length+1) L (C4.q.lr (L.length+1) (by omega)) E (by omega);clear g P3 Q3 G F3 CF3 S;go_wp2_with fail
  refine N4.mono ?_;clear N4;rintro e o ⟨v,bB,f,T⟩;rw[HX]at T;have F:o.heap[d.heap.size]?=_:=(f.block d.heap.size Aq (by simp)).trans n;have U:=Q4.aC f;have C5:=C4.aC f;have F5:=F4.trans f;have Y:=Z.aC f;have hb5:d.heap.size<o.heap.size:=(a0c.1 F).1;have N5:=ak4 o b a cap L U C5 (by omega);clear f P4 Q4 C4 F4 Z Aq n d0 HX;rcases T with⟨Xw,rfl⟩|⟨Xw,rfl,hO,I5⟩
  .go_wp2_with fail
   refine N5.mono ?_;clear N5;rintro e w6 ⟨rfl,p,rfl⟩;have F6:=F5.drewN p;have z:=(Uo nH (.slice a L.length cap) L (o.drewN p) ((U.aC ((aB.refl [] _).drewN p)).lr cap (by omega)) (λx h=>by have:=E x h;omega));rw[Xw]at z;go_wp2_with fail
   refine z.mono ?_;clear z;rintro e J ⟨rfl,j⟩;have F7:=F6.trans j;have IA:∀u:World,(binOp BinOp.eql 32 zN zN).run Tryz.prog u=.ok (.bool true) u:=λu=>(run_eql_nil_slice u 32 63 none 0 0 0 0 Tryz.underlying32).trans (by simp)
   clear j;go_wp2;go_ret;exact⟨rfl,F7⟩
  obtain⟨ao,co,he⟩:=hO.shape;rw[jA]at he;subst he;have O5:=hO.rw (A:=[]) (by simp);clear hO;go_wp2_with fail
  refine N5.mono ?_;clear N5;rintro e w6 ⟨rfl,p,rfl⟩;have z:=(Uo nH (.slice a L.length cap) L (o.drewN p) ((U.aC ((aB.refl [] _).drewN p)).lr cap (by omega)) (λx h=>by have:=E x h;omega));rw[Xw]at z;go_wp2_with fail
  refine z.mono ?_;clear z;rintro e J ⟨rfl,j⟩;have c:aB [] o J:=((aB.refl [] o).drewN p).trans j;have F7:=F5.trans c;have O7:=O5.aC c (by simp);have I7:=I5.aC c (by simp);have Q7:=U.aC c;have W:=Y.aC c;have B7:J.heap[d.heap.size]?=_:=(c.block d.heap.size hb5 (by simp)).trans F;have d1:zC J d.heap.size 1 (zP cb):=by simp[World.cell?,B7]
  obtain⟨vr,vl,kG⟩:=W.cf;obtain⟨c0,Cm,yf⟩:=aog m;have N8:=ai0 cb vr vl (as5 (by omega) m HZ W (Q7.lr cap (by omega)) Xw) (aB.refl [] J) kG c0 Cm yf;rw[<-D]at N8;clear j c B7 O5 I5 U F F5 C5 Y kG Cm;go_wp2_with fail
  refine N8.mono ?_;clear N8;rintro e w8 ⟨v8,axz,rfl,r,IX,l⟩;obtain⟨a8,c8,O⟩:=r.shape;rw[jA]at O;subst O;have O8:=O7.aC l (by simp);have I8:=I7.aC l (by simp);have F8:=F7.trans l;have OX:=r.rw (A:=[]) (by simp);have N9:=akZ w8 [] bB _ O8 I8 yS B;clear l r O7 I7 Q7 F7;go_wp2_with fail
  refine N9.mono ?_;clear N9;rintro e w9 ⟨rfl,q9,rfl⟩;have i:aB [] w8 (w8.drewN q9):=(aB.refl [] _).drewN q9;have NS:=acD (w8.drewN q9) [] [] bB axz _ (O8.aC i (by simp)) (OX.aC i (by simp)) (I8.aC i (by simp)).plain (IX.aC i (by simp)) yS B;have F9:=F8.trans i;clear i O8 I8 OX IX F9;go_wp2_with fail
  refine NS.mono ?_;clear NS;rintro e wA ⟨rfl,qA,rfl⟩;go_wp2;go_ret;exact⟨rfl,F8.drewN _⟩
 rw[hd]at I;clear hd hs;delta zF;go_in
 go_wp2_with fail
 refine I.mono ?_;clear I;rintro e w1 ⟨rfl,q,rfl⟩;go_wp2;go_ret;exact⟨rfl,(aB.refl [] w).drewN q⟩
open Go.ChangeShapes Go.WideShapes Go.ChangeAt Go.RowKit
open Go.ChangeMaps (open_string shut_string)
def ajd:Value->LB
 | .string s=>s.data.toList
 | _=>[]
def JD{H:Type}{P:Program}{e:TypeId}{d:DataW H}{n:Nat}:∀{l:List (DataW H)},d∈l->n∈d.weights P e->n∈DataW.weightsAll P e l
 | [],hd,_=>by simp at hd
 | x::r,hd,a=>by
   simp only[DataW.weightsAll,a0e];rcases a0l.1 hd with rfl|hd
   .exact .inl a
   exact .inr (JD hd a)
def aop:Tryz.prog.cellsOf 47=2:=by kernel_rfl
def aeU:Tryz.prog.cellsOf 9=1:=by kernel_rfl
theorem aoq:Tryz.prog.bytesOf 47=32:=by kernel_rfl
def af9{H:Type}{enc:TypeId × Value->H}{W:World}{a:Option Addr}{len cap:Nat}{d:DataW H}{F:List MemPlace}(h:DataW.Trod enc Tryz.prog W 0 (λ_=>true) true 22 (.slice a len cap) d F)
 (y:∀n∈d.weights Tryz.prog 22,n<=reachBytes) :
 ∃L:List kW,L.length=len/\LQ W a L/\L.length<=4398046511104/\∀x∈L,x.1.length<=140737488355328/\x.2.length<=140737488355328:=by
 obtain⟨fuel,h⟩:=h;have G:(Value.slice a len cap).cells.toList=[.slice a len cap]:=rfl;rw[G]at h;rcases Deep.open_slice_pairs Tryz.underlying22 Tryz.underlying47 aop rfl rfl aeU aeU h with⟨l,_⟩|⟨M,w,N,m,n,E,D,D0,v,T,S,l,_,R,P,C,o,t⟩
 .simp only[List.cons.injEq,a2u,Value.slice.injEq]at l
  obtain⟨rfl,rfl,rfl⟩:=l;exact⟨[],rfl,λj s=>absurd s (by simp),by simp,by simp⟩
 simp only[List.cons.injEq,a2u,Value.slice.injEq]at l;obtain⟨rfl,rfl,rfl⟩:=l;simp only[a0G]at C;subst C;simp only[Prod.mk.injEq]at o;obtain⟨rfl,rfl⟩:=o;have O:reachBytes<=140737488355328:=a3t reachBytes_lt;have z:∀i,i<m->∃c s1:ByteArray,E i=.string c/\D i=.string s1/\D0 i=.lit (.string c.data.toList)/\v i=.lit (.string s1.data.toList):=by intro i p;obtain⟨_,_,B,A⟩:=t i p;obtain⟨c,f,r,_⟩:=DataW.trod_string Tryz.underlying9 B;obtain⟨s1,e,q,_⟩:=DataW.trod_string Tryz.underlying9 A;simp only[List.cons.injEq,a2u]at f e;simp only[Prod.mk.injEq]at r q;exact⟨c,s1,f,e,r.1,q.1⟩
 have hlen:len*32<=reachBytes:=by have:=y ((len+(m-len))*32) (by simp[DataW.weights,Tryz.underlying22,aoq]);omega
 refine⟨(List.range len).map λi=>(ajd (E i),ajd (D i)),by simp,?_,by simp;omega,?_⟩
 .intro j s
  simp only[a0y,List.length_range]at s;obtain⟨b,off,spot⟩:=M;obtain⟨c0,c1,_,_⟩:=t j (by omega);obtain⟨c,s1,f,e,_,_⟩:=z j (by omega);have u:spot=none:=by have:=World.cell?_spot (t 0 (by omega)).1;simpa[Addr.add] using this
  subst u;rw[add_plain]at c0 c1;refine⟨b,off,rfl,World.block_lt_of_cell? W _ c0,?_,?_⟩
  .rw[c0,f];simp[ajd,f,aje]
  rw[<-a2M]at c1;rw[c1,e];simp[ajd,e,aje]
 intro x o;obtain⟨i,p,rfl⟩:=a0q.1 o;rw[a2b]at p;obtain⟨c,s1,f,e,r,q⟩:=z i (by omega);have g:∀k,k=c.data.toList.length\/k=s1.data.toList.length->k<=reachBytes:=by
  intro k J;apply y;have I:k∈DataW.weightsAll Tryz.prog 47 ((List.range len).map λi=>DataW.agg [D0 i,v i]):=by refine JD (d:=.agg [D0 i,v i]) (a0q.2 ⟨i,a2b.2 p,rfl⟩) ?_;rw[r,q];simp only[DataW.weights,Tryz.underlying47];rcases J with rfl|rfl<;>simp[DataW.weightsEach,DataW.weights]
  simp only[DataW.weights,Tryz.underlying22,a0l,a0e];exact .inr (.inl I)
 have B:=g _ (.inl rfl);have A:=g _ (.inr rfl);simp only[f,e,ajd];omega
end Go.Proofs.YtaokcijfoopcoaaGreat
namespace Go.Proofs.YtaokcijfoopcoaaGreat.aeV
open Go.ChangeShapes Go.WideShapes Go.ChangeAt Go.RowKit
open Go.ChangeMaps (open_string shut_string)
def own:ownKnob Tryz.prog.godebug=none:=by kernel_rfl
def laidOut:laidOutB Tryz.prog=true:=by kernel_rfl
theorem lifted(os:Os)(started:os.Started)(H:Type)(enc:TypeId × Value->H) :
 ReturnsInHanded {} Tryz.checked os 3 .any (Rows.routesSpec.pre6 enc Tryz.prog Tryz.f3 Rows.routesRow.domain false) (Rows.routesSpec.post enc Tryz.prog Tryz.f3 false true false false):=by
 refine returnsInHanded_of_change_sized (C:=Tryz.checked) own started (by kernel_rfl) Tryz.func3
  (ChangeSpec.witness6 (enc:=enc) (C:=Tryz.checked) false ⟨#[],#[.string ByteArray.empty,.slice none 0 0],[]⟩ 8 (by kernel_rfl) (by kernel_rfl) (by kernel_rfl) (by kernel_rfl)) ?_
 intro W base args ds gs before arE hW aze aup _;have Ux:∀(j:Nat) t v,Tryz.f3.params[j]?=some t->args[j]?=some v->Value.okWide Tryz.prog W .any base t v:=arE;have hW':=hW;obtain⟨p,q,hA0,hV,rfl,Sv,qH⟩:=hW;have hA:DataW.TrodAll enc Tryz.prog W 0 (λ_=>true) true Tryz.f3.params.toList args.toList ds p:=hA0;have eG:(DataW.weightsEach Tryz.prog (Tryz.f3.params.toList++Rows.routesSpec.plain.varTypes Tryz.prog) (ds++gs)).all (·<=reachBytes)=true:=aup;rw[Tryz.params3]at hA Ux eG;obtain⟨v0,v1,d0,d1,p0,p1,rfl,rfl,rfl,h0,h1⟩:=trodAll_two hA;obtain⟨rfl,rfl⟩:=trodVars_none hV;have h0k:=h0;obtain⟨s,rfl,rfl,rfl,hs⟩:=open_string Tryz.underlying9 (Ux 0 9 v0 rfl rfl) h0;obtain⟨a1,azf,ag0,rfl⟩:=okWide_slice Tryz.underlying22 (Ux 1 22 v1 rfl rfl);clear hA0 arE aup;simp only[a0R]at hW';have aL:∀x∈([]:List MemPlace)++p1,x.block<W.heap.size:=λx hx=>by simpa using hW'.lt x hx
 have rJ:s.data.toList.length<=140737488355328:=a0h (sized_string (j:=0) eG rfl rfl) (a3t reachBytes_lt);obtain⟨L,rfl,hQ,hN,hLs⟩:=af9 h1 (λn hn=>by
  have:=a1d.1 eG _ (DataW.weights_mem_each (j:=1) (t:=22) (d:=d1) rfl rfl n hn);simpa using this)
 have hb:Value.string s=.string (bs s.data.toList):=by rw[aje]
 rw[hb];refine(ajc s.data.toList W rJ a1 ag0 L hQ hN hLs).mono λe W' ⟨he,hf⟩=>?_
 rw[<-hb];subst he;refine⟨_,rfl,[.lit (.string s.data.toList),d1],[],_,[],[]++p1,[],hW',trodAll_cons_mk (shut_bool Tryz.underlying4 _) trodAll_mk0,trodAll_mk2 (shut_string Tryz.underlying9 hs) (Below.trod laidOut (by kernel_rfl) (a2q (by kernel_rfl)) h1 hf.below (λx hx=>aL x (by simpa using hx))),rfl,hf.below.frame _,λh=>by cases h⟩
theorem over:Rows.routesRow.holds Tryz.pinned (OpenSpec.ofChange Rows.routesSpec) :=
 OpenClaim.holds_of_wide 3 Tryz.f3 rfl rfl rfl rfl rfl rfl rfl ⟨rfl,rfl,rfl,rfl,rfl⟩ rfl rfl rfl rfl rfl (by kernel_rfl) Tryz.func3 (by kernel_rfl)
  (a2q (by kernel_rfl)) (by unfold Func.isWrapper;first | (rw[a0m (by decide +kernel)];kernel_rfl)|(rw[a0n (by decide +kernel)];exact⟨rfl,rfl⟩))
  (λos started H enc _=>lifted os started H enc)
end Go.Proofs.YtaokcijfoopcoaaGreat.aeV
namespace Go.Proofs.YtaokcijfoopcoaaGreat
theorem routes_said:Rows.RoutesSaid:=aeV.over
end Go.Proofs.YtaokcijfoopcoaaGreat
