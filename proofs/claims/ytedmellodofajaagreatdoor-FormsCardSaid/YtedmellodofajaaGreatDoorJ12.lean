import Derived.Test.YtedmellodofajaaGreatDoorJ11
import Derived.Test.YtedmellodofajaaGreatDoorJ6
import Derived.Test.YtedmellodofajaaGreatDoorJ1
import Derived.Test.YtedmellodofajaaGreatDoorJ4
import Derived.Deep.WholeRow
import Derived.Great.BuildSlice
import Derived.Laws.CopyOwn
set_option linter.unusedVariables false
set_option linter.unusedSimpArgs false
set_option linter.unnecessarySimpa false
set_option linter.defProp false
set_option maxRecDepth 100000
set_option maxHeartbeats 8000000
namespace Go.Proofs.YtedmellodofajaaGreatDoor
open Go.RowKit
section
variable {ops:Array Oper} {rest:List Oper} {a:Act} {w w':World} {x y:Value} {b n:Nat} {α:Type}
def alX:(Tryz.prog.info? 116).map (λi=>(i.zero,i.size,i.bytes))=some (some (.pointer none),1,8):=by kernel_rfl
def abH {o:Oper} {Q:Exit->Act->World->Prop}(w:World)(f:o.guard=none)(s x:Operand)
 (ho:o.op=.call { callee:=.builtin .append,args:=#[s,x],argTypes:=#[117,117] })
 (base:Nat) (v:Value) (B:LN) (b b1:Nat) (k:a.eval s=v) (y:LP base w v B) (c:a.eval x=zS b1 1 1)
 (m:zC w b1 0 (tC b)) (hlen:B.length<=1048576) (e:base<=w.heap.size)
 (h:∀g cap w',LP base w' (zS g (B.length+1) cap) (B++[b])->w.grownBy w' v.ownBlock->(v.ownBlock=some g\/g=w.heap.size)->wpList Tryz.prog ops Q rest (a.put o.dst (zS g (B.length+1) cap)) w') :
 wpList Tryz.prog ops Q (o::rest) a w:=by
 obtain⟨i,l,gT,t,r⟩:=info_parts alX;refine wpList_append_lies w f s x 117 ho base 116 i (.pointer none) 1 8 Tryz.underlying117 l gT t r rfl (by decide) v B.length (B.map tC) k y (zA b1) 1 1 [tC b] c rfl ?_ (λx c=>by simp at c;subst c;rfl) (by decide) (by unfold maxLen;omega) (by omega) e w.heap.size rfl ?_
 .intro j u d
  have:j=0:=by
   cases j with
   | zero=>rfl
   | succ j=>simp at d
  subst this;rw[add0];simp at d;rw[<-d];exact m
 intro g cap w' q p n z;exact h g cap w' (by unfold LP;simpa using q) p n
def grE(cb:Nat)(f:Nat × Nat):Ending:=zQ #[if f.1=0 then tC cb else .pointer none,zI f.1,zI f.2]
def aeg(L:List LB)(R:List RR)(n:Nat)(h:uJ R=n)(a:n≠0):xh L R=(3,n):=by unfold xh;rw[h,a0m a]
def aqR(L:List LB)(R:List RR)(h:uJ R=0)(hd:mq [] L=true):xh L R=(4,1):=by unfold xh;rw[h,a0n (by simp),a0m hd]
def anM(L:List LB)(R:List RR)(n:Nat)(h:uJ R=0)(hd:mq [] L=false)(a:lN L R 0=n)(b:n≠0):xh L R=(4,n):=by unfold xh;rw[h,a0n (by simp),hd,a,a0m b];rfl
def asI(L:List LB)(R:List RR)(h:uJ R=0)(hd:mq [] L=false)(a:lN L R 0=0):xh L R=(0,0):=by unfold xh;rw[h,a0n (by simp),hd,a];rfl
theorem abI(R:List RR)(h:0<R.length):uJ R=pX R 0 0:=by
 unfold uJ;cases R with
 | nil=>simp at h
 | cons=>rfl
theorem Xt {X:List (Nat × iY × RR)} {j:Nat} {x:Nat × iY × RR}(h:X[j]?=some x):sD (xd (X.take (j+1)))=IM (sD (xd (X.take j))) (x.1,x.2.2.d):=by unfold sD xd;rw[a1c,h];simp
def GP(w:World)(cb:Nat)(vr a:Value)(L:List LB)(X:List (Nat × iY × RR))(e:Ending)(w':World):Prop :=
 e=grE cb (xh L (X.map (·.2.2)))/\aB (cb::X.map (·.1)) w w'/\((xh L (X.map (·.2.2))).1=0->∃K:Nat->Value,sw w' cb vr (tC ((X.map (·.1)).getD 0 0)) a/\(∀x∈X,qz w' x.1 { x.2.1 with vk:=K x.1 })/\∀x∈X,LP w.heap.size w' (K x.1) ((sD (xd X)).2 x.1))
def GP.bad {cb:Nat} {vr b:Value} {L:List LB} {X:List (Nat × iY × RR)} {e:Ending}{l:Nat}(h:xh L (X.map (·.2.2))=(n+1,l))(he:e=grE cb (n+1,l))(c:aB (cb::X.map (·.1)) w w'):GP w cb vr b L X e w' :=
 ⟨by rw[h];exact he,c,λa=>by rw[h]at a;simp at a⟩
theorem afR:∀(L:List LB) (x:LB) (j:Nat),(∃k,L.findIdx? (·==x)=some k/\k<j)↔x∈L.take j
 | [],x,j=>by simp
 | y::L,x,0=>by simp
 | y::L,x,j+1=>by
   rw[List.findIdx?_cons,a2J]
   by_cases h:(y==x)=true
   .rw[a0m h]
    have:y=x:=by simpa using h
    subst this;simp
   rw[a0n h];have c:x≠y:=λe=>h (by simp[e])
   rw[a0l,<-afR L x j]
   constructor
   .rintro⟨k,a,d⟩
    cases hh:L.findIdx? (·==x) with
    | none=>simp[hh]at a
    | some b=>simp[hh]at a;exact .inr ⟨b,rfl,by omega⟩
   rintro(e|⟨k,a,d⟩)
   .exact(c e).elim
   exact⟨k+1,by simp[a],by omega⟩
theorem anN(L:List LB)(j:Nat)(x:LB)(a:x∈L):decide (oI L x<(j:Int))=(L.take j).contains x:=by
 have h:=afR L x j;rw[a0T,a1E,List.contains_iff_mem,<-h];unfold oI;cases hh:L.findIdx? (·==x) with
 | none=>have:=a2C.1 hh x a;simp at this
 | some k=>simp
theorem anO(L:List LB)(x:LB):decide (oI L x<0)=!(L.contains x):=by
 have h:=afR L x L.length;rw[a2h]at h;unfold oI;cases hh:L.findIdx? (·==x) with
 | none =>
   have:x∉L:=λb=>by obtain⟨k,a,_⟩:=h.2 b;rw[hh]at a;simp at a
   simp[this]
 | some k =>
   have a:k<L.length:=by have:=(List.findIdx?_eq_some_iff_findIdx_eq.1 hh).1;exact this
   have:x∈L:=h.1 ⟨k,hh,a⟩;simp[this]
def aqS {o:Oper} {Q:Exit->Act->World->Prop}(w:World)(f:o.guard=none)(s x:Operand)
 (ho:o.op=.call { callee:=.builtin .append,args:=#[s,x],argTypes:=#[117,117] })
 (base:Nat) (v:Value) (n:Nat) (xs:List Value) (b b1:Nat) (k:a.eval s=v) (z:w.ownsRow base 116 1 v n xs) (c:a.eval x=zS b1 1 1)
 (m:zC w b1 0 (tC b)) (hlen:n<=1048576) (e:base<=w.heap.size)
 (h:∀g cap w',w'.ownsRow base 116 1 (zS g (n+1) cap) (n+1) (xs++[tC b])->w.grownBy w' v.ownBlock->(v.ownBlock=some g\/g=w.heap.size)->wpList Tryz.prog ops Q rest (a.put o.dst (zS g (n+1) cap)) w') :
 wpList Tryz.prog ops Q (o::rest) a w:=by
 obtain⟨i,l,gT,y,t⟩:=info_parts alX;refine wpList_append_lies w f s x 117 ho base 116 i (.pointer none) 1 8 Tryz.underlying117 l gT y t rfl (by decide) v n xs k z (zA b1) 1 1 [tC b] c rfl ?_ (λx c=>by simp at c;subst c;rfl) (by decide) (by unfold maxLen;omega) (by omega) e w.heap.size rfl ?_
 .intro j u d
  have:j=0:=by
   cases j with
   | zero=>rfl
   | succ j=>simp at d
  subst this;rw[add0];simp at d;rw[<-d];exact m
 intro g cap w' r q p A;exact h g cap w' r q p
def Ja(w:World)(v:Value)(t:TypeId)(n:Nat)(h:w.heap.size=n):zC (w.alloc (.cells #[v] t)) n 0 v:=by subst h;simp
theorem uN(w:World)(a:Addr)(v:Value):(w.setCell a v).heap.size=w.heap.size:=by simp[World.setCell]
def sw.set1{z:Value}(h:sw w b x y z)(v:Value):sw (w.setCell (zB b 1) v) b x v z:=by unfold sw at *;simp[World.setCell,a0v,h]
def LP.some {base:Nat} {a:Option Addr}{cap:Nat} {B:LN}(h:LP base w (.slice a n cap) B)(d:0<B.length):∃g,a=some (zA g)/\n=B.length/\B.length<=cap:=by
 rcases h.2 with⟨_,e⟩|⟨g,c,cur,e,_,_,b,_⟩
 .omega
 simp at e;obtain⟨rfl,rfl,rfl⟩:=e;exact⟨g,rfl,rfl,b⟩
def aky(cb base:Nat)(vr vl:Value)(L:List LB)(X:List (Nat × iY × RR))(w:World)(hc:sw w cb vr (.pointer none) vl)
 (hs:∀w',aB (cb::X.map (·.1)) w w'->RS 0 w' vr L/\LP base w' vl (X.map (·.1)))
 (hx:∀x∈X,Dq base w x.1 x.2.1 x.2.2/\x.2.1.vk=zN) (iG:∀(i:Nat) x,X[i]?=some x->x.2.1.row=(i:Int)+2) (hcx:∀x∈X,x.1≠cb) (qH:(X.map (·.1)).Nodup) (hL:L.length<=9000) (hX:X.length<=9000) (qd:∀x∈X,x.2.2.d<=9000) :
 zF 41 #[tC cb] w (GP w cb vr vl L X):=by
 have Bh:=aT;have k45:({ data:=#[45] }:ByteArray).toList=[45]:=aT _;have Hc:=aj hc;have Hs:=aj hs;have Hx:=aj hx;have alR:=aj iG;have Hcx:=aj hcx;have Hdd:=aj qd;have uA:=hc.lt;have G0:GI w w cb X (λ_=>zN) (λ_=>[]) [] zN 0:=by
  refine⟨λx hx=>(Hx.o x hx).1.at_.lt,λx hx=>?_,λx hx=>⟨a0b _,World.ownsRow_nil _ _ _ _⟩,by simp[Value.ownBlock],by simp[Value.ownBlock],World.ownsRow_nil _ _ _ _,by simp,aB.refl _ _⟩;have h1:=(Hx.o x hx).1.at_;have h2:=(Hx.o x hx).2;rw[show({ x.2.1 with vk:=zN }:iY)=x.2.1 by rw[<-h2]];exact h1
 have HG0:=aj G0;obtain⟨b0,kM⟩:∃b0,(X.map (·.1)).getD 0 0=b0:=⟨_,rfl⟩;have uh:=aj kM;clear kM;obtain⟨⟨ar,cr,hvr,-,rP,-⟩,Vz⟩:=hs w (aB.refl _ _);obtain⟨al,cl,Af⟩:=aW Vz;rw[a0y]at Af;subst hvr Af;clear hc hs hx iG hcx qd G0 Vz qH;show zF 41 #[zP cb] w _;delta zF;go_in
 go_wp2_with fail
 go_loopg [5,6] X.length (λk vw vi wr=>∃(j:Nat) (K:Nat->Value) (C:Nat->LN) (B:LN) (vt:Value),j+k=X.length/\vi=zI j/\(∃aw cw,vw=.slice aw B.length cw)/\GI w wr cb X K C B vw j/\sD (xd (X.take j))=(B,C)/\sw wr cb (.slice ar L.length cr) vt (.slice al X.length cl)/\(j=0->vt=.pointer none/\vw=zN)/\(0<j->vt=zP b0)/\pX ((X.map (·.2.2)).drop j) j B.length=pX (X.map (·.2.2)) 0 0)
 case atStart=>exact⟨0,_,_,[],_,by omega,rfl,⟨_,_,rfl⟩,HG0,rfl,Hc,λ_=>⟨rfl,rfl⟩,λh=>by omega,by simp⟩
 case round =>
 obtain⟨j,K,C,B,vt,lU,Io,⟨aw,cw,hvw⟩,YI,XL,kG,h0,h1,iD⟩:=hrel;subst Io hvw;clear HG0 Hc;have Da:=aj YI;have HBC:=aj XL;clear XL;have Hcb:=aj kG;have H0:=aj h0;have H1:=aj h1;have Gu:=aj iD;have hzr:=YI.aC.size;have hcw:=kG.lt;have Yv:=(Hs.o _ YI.aC).2;have c0:zC wr cb 0 (.slice ar L.length cr):=kG.cell 0;have c1:zC wr cb 1 vt:=kG.cell 1;have c2:zC wr cb 2 (.slice al X.length cl):=kG.cell 2;have f1:=kG.fz 1
 by_cases aL:j<X.length
 ·obtain⟨m,rfl⟩:∃m,gk=m+1:=⟨gk-1,by omega⟩
  have gJ:decide ((j:Int)<(X.length:Int))=true:=a0g (by omega);obtain⟨gl,ja,-,hlc⟩:=Yv.some (by simp;omega);subst ja;rw[a0y]at hlc;have cj:zC wr gl j (tC X[j].1):=by
   have:=Yv.cell j (by simpa using aL);simpa using this
  have Dr:X[j]∈X:=a0u aL;have hq:=(Hx.o _ Dr).1;have iG:=alR.o j _ (a0a aL);have jW:=YI.rb _ Dr;have jP:=Hdd.o _ Dr;have dw:Z_ (pX (X.map (·.2.2)) 0 0=if (!(uX j X[j].2.2)&&!(qY j B.length X[j].2.2))||decide (5<X[j].2.2.d)||decide (16<=j) then j+2 else pX ((X.map (·.2.2)).drop (j+1)) (j+1) (X[j].2.2.d+1)):=by
   show _=_;have e:(X.map (·.2.2)).drop j=X[j].2.2::(X.map (·.2.2)).drop (j+1):=by
    rw[a0k (by simpa using aL)];simp
   rw[<-Gu.o,e]
   conv=>lhs;unfold pX
  have hTF:Z_ (uJ (X.map (·.2.2))=pX (X.map (·.2.2)) 0 0):=abI _ (by simp;omega);generalize hXj:X[j]=x at *;have HXj:=aj hXj;clear YI kG h0 h1 iD Yv hXj;obtain⟨b,⟨Ma,ek,vt0,vt1,vt2,iJ,YJ,vk,vd,alY⟩,⟨rc,told,names,t0,t1,t2,ifs,on,dn⟩⟩:=x;obtain⟨-,e1,-,-,-,-,jc,e2,e3⟩:=hq;simp only at e1 e2 e3 iG jW jc jP;subst e1 e2 e3 iG;obtain⟨ai,ci,aw9⟩:=aW jc;subst aw9;clear jc;have uW:=aj jW;have jE:b<w.heap.size:=Da.o.lt _ Dr;have d0:zC wr b 0 (zT Ma):=jW.cell 0;have d5:zC wr b 5 (.slice ai ifs.length ci):=jW.cell 5;have d6:zC wr b 6 (.bool YJ):=jW.cell 6;have d8:zC wr b 8 (zI (dn:Int)):=jW.cell 8;have d9:zC wr b 9 (zI ((j:Int)+2)):=jW.cell 9;unfold tC at cj;clear jW;have HF:Z_ ((((!(uX j ⟨Ma,told,names,t0,t1,t2,ifs,YJ,dn⟩)&&!(qY j B.length ⟨Ma,told,names,t0,t1,t2,ifs,YJ,dn⟩))||decide (5<dn)||decide (16<=j))=true)->xh L (X.map (·.2.2))=(3,j+2)):=by
   intro hh;refine aeg _ _ _ ?_ (by omega);rw[hTF.o,dw.o];exact a0m hh
  have HN:Z_ ((((!(uX j ⟨Ma,told,names,t0,t1,t2,ifs,YJ,dn⟩)&&!(qY j B.length ⟨Ma,told,names,t0,t1,t2,ifs,YJ,dn⟩))||decide (5<dn)||decide (16<=j))=false)->pX ((X.map (·.2.2)).drop (j+1)) (j+1) (dn+1)=pX (X.map (·.2.2)) 0 0):=by
   intro hh;rw[dw.o];exact(a0n (by simp only[hh];simp)).symm
  clear dw hTF
  by_cases rC:j=0
  ·have j1:((j:Int)==0)=true:=by simp[rC]
   have j2:decide ((0:Int)<(j:Int))=false:=a0f (by omega);have j3:decide ((16:Int)<=(j:Int))=false:=a0f (by omega);have Hj0:=aj rC;have j4:j<=0:=by omega
   clear rC;cases g1:((dn:Int)==0)
   ·have n1:(dn==0)=false:=a0j.2 (by intro e;subst e;simp at g1)
    have Hn1:=aj n1;clear n1;go_wp2_with fail
    go_quiet (fail)
    go_wp2;go_ret3
    exact GP.bad (HF.o (by simp[uX,qY,Hj0.o,Hn1.o])) (by simp[grE]) (Da.o.aC.drewN _)
   have dn0:dn=0:=by simpa using g1
   subst dn0;clear g1;cases g2:((ifs.length:Int)==0)
   ·have n1:Z_ (ifs.isEmpty=false):=by
     show _=_;cases ifs with
     | nil=>simp at g2
     | cons=>rfl
    go_wp2_with fail
    go_quiet (fail)
    go_wp2;go_ret3
    exact GP.bad (HF.o (by simp[uX,qY,Hj0.o,n1.o])) (by simp[grE]) (Da.o.aC.drewN _)
   have n2:Z_ (ifs.isEmpty=true):=by
    show _=_;cases ifs with
    | nil=>rfl
    | cons=>simp at g2;omega
   cases YJ
   case true =>
    go_wp2_with fail
    go_quiet (fail)
    go_wp2;go_ret3
    exact GP.bad (HF.o (by simp[uX,qY,Hj0.o])) (by simp[grE]) (Da.o.aC.drewN _)
   cases g4:(Ma == [45])
   case true =>
    go_wp2_with fail
    go_quiet (fail)
    go_wp2;go_ret3
    exact GP.bad (HF.o (by simp[uX,qY,Hj0.o,g4])) (by simp[grE]) (Da.o.aC.drewN _)
   obtain⟨hvt,hvw⟩:=H0.o Hj0;simp only[Value.slice.injEq]at hvw;obtain⟨haw,Av,axa⟩:=hvw;subst haw axa hvt;have hBn:B=[]:=a0S Av;subst hBn;have jV:=HN.o (by simp[uX,Hj0.o,n2.o,g4]);have HX2:=aj jV;clear jV;have aqT:Z_ (sD (xd (X.take (j+1)))=([b],C)):=by
    show _=_;rw[Xt (a0a aL),HXj.o,HBC.o];rfl
   have HBb:Z_ (b0=b):=by
    show _=_;have h1:=HXj.o;have h2:=Hj0.o;subst h2;rw[<-uh.o,a0x,a0Q,a0a aL,h1];rfl
   have PH:b<wr.heap.size:=by omega
   have bJ:cb≠b:=λe=>(Hcx.o _ Dr) e.symm
   go_wp2_with (first | (at_builtin;refine abH _ rfl _ _ rfl w.heap.size zN [] b wr.heap.size rfl (World.ownsRow_nil _ _ _ _) rfl (Ja _ _ _ _ (uN _ _ _)) (by simp) (by simp;omega) ?_;intro g2 aU w2 qj iM jR))
   go_roundg m
   case measure=>omega
   case rel =>
    have G1:=((Da.o.root uA Hcx.o (zP b)).TF ((aB.refl _ _).alloc (Obj.cells #[zP b] 116))).ahS ⟨_,Dr,rfl⟩ iM qj jR;exact⟨j+1,K,C,[b],zP b,by omega,by go_num,⟨_,_,rfl⟩,G1.up,aqT,((Hcb.o.set1 _).aC (S:=[]) ((aB.refl _ _).alloc _) (by simp)).aC (S:=[]) (aB.fo iM) (by simp),λh=>by omega,λ_=>by rw[HBb.o],HX2⟩
  have j1:((j:Int)==0)=false:=a0j.2 (by omega);have j2:decide ((0:Int)<(j:Int))=true:=a0g (by omega)
  by_cases g1:0<dn
  case neg =>
   have g1':decide ((0:Int)<(dn:Int))=false:=a0f (by omega);go_wp2_with fail
   go_quiet (fail)
   go_wp2;go_ret3
   exact GP.bad (HF.o (by simp[uX,qY,rC,g1])) (by simp[grE]) (Da.o.aC.drewN _)
  have g1':decide ((0:Int)<(dn:Int))=true:=a0g (by omega)
  by_cases g2:dn<=B.length
  case neg =>
   have g2':decide ((dn:Int)<=(B.length:Int))=false:=a0f (by omega);go_wp2_with fail
   go_quiet (fail)
   go_wp2;go_ret3
   exact GP.bad (HF.o (by simp[uX,qY,rC,g2])) (by simp[grE]) (Da.o.aC.drewN _)
  have g2':decide ((dn:Int)<=(B.length:Int))=true:=a0g (by omega)
  by_cases g3:5<dn
  case pos =>
   have g3':decide ((5:Int)<(dn:Int))=true:=a0g (by omega);go_wp2_with fail
   go_quiet (fail)
   go_wp2;go_ret3
   exact GP.bad (HF.o (by simp[g3])) (by simp[grE]) (Da.o.aC.drewN _)
  have g3':decide ((5:Int)<(dn:Int))=false:=a0f (by omega)
  by_cases g4:16<=j
  case pos =>
   have g4':decide ((16:Int)<=(j:Int))=true:=a0g (by omega);go_wp2_with fail
   go_quiet (fail)
   go_wp2;go_ret3
   exact GP.bad (HF.o (by simp[g4])) (by simp[grE]) (Da.o.aC.drewN _)
  have g4':decide ((16:Int)<=(j:Int))=false:=a0f (by omega);obtain⟨gw,haw,-,hBc⟩:=Da.o.way.some (by omega);subst haw;obtain⟨d1,axb⟩:∃d1,dn=d1+1:=⟨dn-1,by omega⟩;subst axb;have hB1:d1<B.length:=by omega
  have cu:zC wr gw d1 (tC B[d1]):=LP.cell Da.o.way d1 hB1;obtain⟨⟨bu,vu,ru⟩,Zc,hyb⟩:=Da.o.abp _ (a0u hB1);simp only at hyb;have aqT:Z_ (sD (xd (X.take (j+1)))=(B.take (d1+1)++[b],λk=>if k=bu then C k++[b] else C k)):=by
   show _=_;have iE:(B.take (d1+1)).getLast?=some bu:=by
    rw[List.getLast?_eq_getElem?,a1k,a2n (by omega),List.getElem?_take];simp[a0a hB1,hyb]
   rw[Xt (a0a aL),HXj.o,HBC.o];simp only[IM,iE]
  generalize B[d1]=bu' at *;subst hyb;have HGc:=aj (Da.o.cut (d1+1) g2);have hB':(B.take (d1+1)).length=d1+1:=by rw[a1k];omega
  obtain⟨hnk,jk⟩:=Da.o.Oe _ Zc;simp only at jk hnk;unfold LP at jk;obtain⟨nk,alZ⟩:∃nk,nk=(C bu).length:=⟨_,rfl⟩;obtain⟨xk,aqU⟩:∃xk,xk=(C bu).map tC:=⟨_,rfl⟩;rw[<-alZ,<-aqU]at jk;rw[<-alZ]at hnk;have axc:=aj alZ;have axd:=aj aqU;clear alZ aqU;obtain⟨ak,ck,Uc⟩:=aW jk;have hru:=Da.o.rb _ Zc;have e7:zC wr bu 7 (.slice ak nk ck):=(hru.cell 7).trans (by rw[<-Uc];rfl);have z7:wr.frozen? (zB bu 7)=false:=hru.fz 7;have hbu:bu<w.heap.size:=Da.o.lt _ Zc;have Hok:Z_ (wr.ownsRow w.heap.size 116 1 (.slice ak nk ck) nk xk):=by
   show World.ownsRow _ _ _ _ _ _ _;rw[<-Uc];exact jk
  have Hvk:=aj Uc;have hdm:((d1+1:Nat):Int)-1=(d1:Int):=by omega
  have Hgw:Z_ (w.heap.size<=gw):=(Da.o.way.lt gw rfl).1;have PH:b<wr.heap.size:=by omega
  have Hne:Z_ (cb≠bu):=λe=>(Hcx.o _ Zc) e.symm
  have jV:=HN.o (by simp[uX,qY,rC,g2,g3,g4,j2];omega);have HX2:=aj jV;clear jV Uc hru jk;generalize B.take (d1+1)=B' at *;unfold tC at cu;have ag:Value.ownBlock (.slice ak nk ck)≠some bu:=λe=>by have:=Hok.o.lt _ e;omega
  go_wp2_with (first | (at_builtin;refine aqS _ rfl _ _ rfl w.heap.size (.slice ak nk ck) nk xk b wr.heap.size rfl (Hok.o.alloc _) rfl (Ja _ _ _ _ rfl) (by omega) (by simp;omega) ?_;intro gg aU w4 bT aH bq;have e8:zC w4 bu 7 (.slice ak nk ck):=(aH.cell_far (zB bu 7) (by simp;omega) (Ne.symm ag)).trans ((((aB.refl [] wr).alloc _).cell (p:=(zB bu 7)) (by simp;omega) (by simp)).trans e7);have z8:=(aH.frozen_far (zB bu 7) (by simp;omega) (Ne.symm ag)).trans (((aB.refl [] wr).alloc _).frozen (p:=(zB bu 7)) (by simp;omega) (by simp));rw[z7]at z8;have HO:=aj aH;have HO4:=aj bT;have Hat:=aj bq;have Yl:=aH.size;simp at Yl;have QO:=aj ((HGc.o.TF ((aB.refl _ _).alloc _)).aqk Zc hnk axc.o (b:=b) (by rw[axd.o];simp[tC]) (by rw[Hvk.o];exact aH) bT (by rw[Hvk.o];exact bq));clear aH bT bq)|(at_builtin;refine abH _ rfl _ _ rfl w.heap.size (zS gw (d1+1) cw) B' b w4.heap.size rfl ((QO.o.TF ((aB.refl _ _).alloc _)).way) rfl (Ja _ _ _ _ (uN _ _ _)) (by omega) (by simp;omega) ?_;intro g2 ac9 w5 hs5 Vy hb5))
  go_roundg m
  case measure=>omega
  case rel =>
   have G1:=(QO.o.TF ((aB.refl _ _).alloc (Obj.cells #[zP b] 116))).ahS ⟨_,Dr,rfl⟩ Vy hs5 hb5;have hp:=H1.o (by omega);refine⟨j+1,_,_,B'++[b],vt,by omega,by go_num,⟨some (zA g2),ac9,by simp[hB']⟩,by rw[hB']at G1;exact G1,aqT,?_,λh=>by omega,λ_=>hp,?_⟩
   ·have C4:sw w4 cb (.slice ar L.length cr) vt (zS gl X.length cl):=(Hcb.o.aC (S:=[]) ((aB.refl _ _).alloc _) (by simp)).aC (aB.fo HO) (by rw[a0H];intro e;have:=Hok.o.lt _ e;omega)
    have C5:=C4.aC (S:=[bu]) (((aB.refl _ _).setCell (p:=(zB bu 7)) (by simp) (zS gg (nk+1) aU)).alloc (Obj.cells #[zP b] 116)) (by simpa using Hne.o);exact C5.aC (aB.fo Vy) (by simp[Value.ownBlock];have:=Hgw.o;omega)
   rw[a0p,hB'];exact HX2
 have gJ:decide ((j:Int)<(X.length:Int))=false:=a0f (by omega);have hjX:j=X.length:=by omega
 have IU:pX (X.map (·.2.2)) 0 0=0:=by
  rw[<-Gu.o,a0i (by simp;omega)];rfl
 clear Yv Gu
 by_cases hX0:X.length=0
 ·have rC:j=0:=by omega
  obtain⟨hvt,hvw⟩:=H0.o rC;subst hvt;have HF:Z_ (xh L (X.map (·.2.2))=(3,2)):=by
   refine aeg _ _ _ ?_ (by omega);have:X=[]:=a0S hX0;rw[this];rfl
  clear hX0 rC hjX hvw IU YI kG h0 h1 iD;go_wp2;go_ret3
  exact GP.bad (HF.o) (by simp[grE]) (Da.o.aC)
 have hp:=H1.o (by omega);subst hp;have HBX:Z_ ((sD (xd X)).2=C):=by
  show _=_;have:=HBC.o;rw[a0C (by omega)]at this;rw[this]
 have HT:Z_ (uJ (X.map (·.2.2))=0):=by
  show _=_;rw[abI _ (by simp;omega)];exact IU
 clear IU YI kG h0 h1 iD H0 H1;obtain⟨wl,JW⟩:∃wl,wl=wr:=⟨_,rfl⟩;subst JW;go_wp2_with fail
 go_loopg [13] L.length (λk vi wq=>∃(i:Nat),i+k=L.length/\vi=zI i/\mq (L.take i) (L.drop i)=mq [] L/\aB [] wl wq)
 case atStart=>exact⟨0,by omega,rfl,by simp,aB.refl _ _⟩
 case round =>
 obtain⟨i,Ku,Io,iD,bH⟩:=hrel;subst Io;have Gu:=aj iD;have NJ:=aj bH;have Pd:=aj (Hcb.o.aC bH (by simp));have c0':zC wr cb 0 (.slice ar L.length cr):=Pd.o.cell 0;have su:=aj (Hs.o _ (Da.o.aC.trans bH.nil)).1;clear iD bH
 by_cases jc:i<L.length
 ·obtain⟨m,rfl⟩:∃m,gk=m+1:=⟨gk-1,by omega⟩
  have ll:decide ((i:Int)<(L.length:Int))=true:=a0g (by omega);obtain⟨ga,oa,har,-,-,-,aO⟩:=su.o.Ay (by omega);subst har;have ci:zC wr ga (oa+i) (.string (bs L[i])):=by
   have:=aO i jc;rwa [a0x,a0a jc]at this
  have dw:Z_ (mq [] L=if decide (oI L L[i]<(i:Int)) then true else mq (L.take (i+1)) (L.drop (i+1))):=by
   show _=_;rw[<-Gu.o,a0k jc,anN _ _ _ (a0u jc)]
   conv=>lhs;unfold mq
   rw[a0F jc]
  clear aO Gu;generalize L[i]=n at *
  by_cases hk:oI L n<(i:Int)
  ·have HF:Z_ (xh L (X.map (·.2.2))=(4,1)):=aqR _ _ HT.o (by rw[dw.o,a0g hk];rfl)
   clear dw;go_wp2_with fail
   go_region_with (go_at_call 71;refine(wh _ L n wr.drew (by exact su)).mono ?_;rintro e w' ⟨rfl,rfl⟩)
   all_goals
    go_wp2_with fail
    go_ret3
    exact GP.bad HF.o (by simp[grE]) (Da.o.aC.trans (NJ.o.drew).nil)
  have Hn:Z_ (mq (L.take (i+1)) (L.drop (i+1))=mq [] L):=by show _=_;rw[dw.o,a0f hk];rfl
  clear dw;go_wp2_with fail
  go_region_with (go_at_call 71;refine(wh _ L n wr.drew (by exact su)).mono ?_;rintro e w' ⟨rfl,rfl⟩)
  all_goals
   go_wp2_with fail
   go_roundg m
   case measure=>omega
   case rel=>exact⟨i+1,by omega,by go_num,Hn,NJ.o.drew⟩
 have ll:decide ((i:Int)<(L.length:Int))=false:=a0f (by omega);have HD:Z_ (mq [] L=false):=by
  show _=_;rw[<-Gu.o,a0i (by omega)];unfold mq;rfl
 have abK:=Pd;have axe:=aj (Da.o.TF NJ);clear Gu Pd su Hcb Da NJ;obtain⟨wm,hwm⟩:∃wm,wm=wr:=⟨_,rfl⟩;subst hwm;go_wp2_with fail
 go_loopg [15] X.length (λk vi wq=>∃(i:Nat),i+k=X.length/\vi=zI i/\lN L ((X.map (·.2.2)).drop i) i=lN L (X.map (·.2.2)) 0/\aB [] wm wq)
 case atStart=>exact⟨0,by omega,rfl,by simp,aB.refl _ _⟩
 case round =>
 obtain⟨i3,ayM,Io,iD,bH⟩:=hrel;subst Io;have Gu:=aj iD;have NJ:=aj bH;have Pd:=aj (abK.o.aC bH (by simp));have abL:=aj (axe.o.TF bH);have c2':zC wr cb 2 (.slice al X.length cl):=Pd.o.cell 2;have c3':zC wr cb 0 (.slice ar L.length cr):=Pd.o.cell 0;have su:=aj (Hs.o _ abL.o.aC).1;have Yv:=(Hs.o _ abL.o.aC).2;clear iD bH
 by_cases adM:i3<X.length
 ·obtain⟨m,rfl⟩:∃m,gk=m+1:=⟨gk-1,by omega⟩
  have hd3:decide ((i3:Int)<(X.length:Int))=true:=a0g (by omega);obtain⟨gl,ja,-,hlc⟩:=Yv.some (by simp;omega);subst ja;rw[a0y]at hlc;have cj:zC wr gl i3 (tC X[i3].1):=by
   have:=Yv.cell i3 (by simpa using adM);simpa using this
  have Dr:X[i3]∈X:=a0u adM;have hq:=(Hx.o _ Dr).1;have iG:=alR.o i3 _ (a0a adM);have jW:=abL.o.rb _ Dr;have dw:Z_ (lN L (X.map (·.2.2)) 0=if !(X[i3].2.2.rc == [45])&&!(L.contains X[i3].2.2.rc) then i3+2 else lN L ((X.map (·.2.2)).drop (i3+1)) (i3+1)):=by
   show _=_;have e:(X.map (·.2.2)).drop i3=X[i3].2.2::(X.map (·.2.2)).drop (i3+1):=by
    rw[a0k (by simpa using adM)];simp
   rw[<-Gu.o,e]
   conv=>lhs;unfold lN
  generalize hXj:X[i3]=x at *;clear hXj Gu Yv;obtain⟨b,⟨Ma,ek,vt0,vt1,vt2,iJ,YJ,vk,vd,alY⟩,⟨rc,told,names,t0,t1,t2,ifs,on,dn⟩⟩:=x;obtain⟨-,e1,-,-,-,-,axf,e2,e3⟩:=hq;simp only at e1 e2 e3 iG jW;subst e1 e2 e3 iG;simp only at dw;clear axf;have d0:zC wr b 0 (zT Ma):=jW.cell 0;have d9:zC wr b 9 (zI ((i3:Int)+2)):=jW.cell 9;unfold tC at cj;clear jW;rw[<-anO]at dw;cases g45:(Ma == [45])
  ·by_cases hk:oI L Ma<0
   ·have HF:Z_ (xh L (X.map (·.2.2))=(4,i3+2)):=anM _ _ _ HT.o HD.o (by rw[dw.o,g45,a0g hk];rfl) (by omega)
    clear dw;go_wp2_with fail
    go_region_with (go_at_call 71;refine(wh _ L Ma wr.drew (by exact su)).mono ?_;rintro e w' ⟨rfl,rfl⟩)
    all_goals
     go_wp2_with fail
     go_quiet (fail)
     go_wp2;go_ret3
     exact GP.bad HF.o (by simp[grE]) (abL.o.aC.drew.drewN _)
   have Hn:Z_ (lN L ((X.map (·.2.2)).drop (i3+1)) (i3+1)=lN L (X.map (·.2.2)) 0):=by show _=_;rw[dw.o,a0f hk];simp
   clear dw;go_wp2_with fail
   go_region_with (go_at_call 71;refine(wh _ L Ma wr.drew (by exact su)).mono ?_;rintro e w' ⟨rfl,rfl⟩)
   all_goals
    go_wp2_with fail
    go_roundg m
    case measure=>omega
    case rel=>exact⟨i3+1,by omega,by go_num,Hn,NJ.o.drew⟩
  have Hn:Z_ (lN L ((X.map (·.2.2)).drop (i3+1)) (i3+1)=lN L (X.map (·.2.2)) 0):=by show _=_;rw[dw.o,g45];simp
  clear dw;go_wp2_with fail
  go_region_with (go_at_call 71;refine(wh _ L Ma wr.drew (by exact su)).mono ?_;rintro e w' ⟨rfl,rfl⟩)
  all_goals
   go_wp2_with fail
   go_roundg m
   case measure=>omega
   case rel=>exact⟨i3+1,by omega,by go_num,Hn,NJ.o.drew⟩
 have hd3:decide ((i3:Int)<(X.length:Int))=false:=a0f (by omega);have HF:Z_ (xh L (X.map (·.2.2))=(0,0)):=asI _ _ HT.o HD.o (by rw[<-Gu.o,a0i (by simp;omega)];rfl);clear Gu Yv su;go_wp2;go_ret3
 refine⟨?_,abL.o.aC,λ_=>⟨K,by rw[uh.o];exact Pd,abL.o.rb,λx hx=>?_⟩⟩
 ·rw[HF.o];simp[grE,tC]
 have h2:=(abL.o.Oe x hx).2;rw[HBX.o];exact h2
def au8(l:LB)(r:RR)(h:yY l=some r):r.d<=l.length:=by
 have hd:=Kr l;unfold yY rtW at h
 split at h
 .cases h
 split at h
 .cases h
 split at h
 .cases h
 split at h
 .cases h
 split at h
 .simp at h;subst h;exact hd
 cases h
def sw.set0{z:Value}(h:sw w b x y z)(v:Value):sw (w.setCell (zA b) v) b v y z:=by unfold sw at *;simp[World.setCell,a0v,h]
def sw.set2{z:Value}(h:sw w b x y z)(v:Value):sw (w.setCell (zB b 2) v) b x y v:=by unfold sw at *;simp[World.setCell,a0v,h]
def akz(t:LB)(n:Nat)(a:¬ 1200<t.length)(h:sO (dU false 10 t) 0 [] []=.error n):sF t=.error (2,n):=by unfold sF;rw[a0n a,h]
def anP(t:LB)(L:List LB)(R:List RR)(a:¬ 1200<t.length)(h:sO (dU false 10 t) 0 [] []=.ok (L,R)):sF t=if (xh L R).1=0 then .ok (L,R) else .error (xh L R):=by unfold sF;rw[a0n a,h]
def aqV(L:List LB)(R:List RR)(h:(xh L R).1=0):xh L R=(0,0):=by
 unfold xh at *
 by_cases c:uJ R≠0
 .rw[a0m c]at h;simp at h
 rw[a0n c]at h |-
 by_cases b:mq [] L=true
 .rw[a0m b]at h;simp at h
 rw[a0n b]at h |-
 by_cases a:lN L R 0≠0
 .rw[a0m a]at h;simp at h
 rw[a0n a]
def anQ(t:LB)(w:World)(ht:t.length<=1048576) :
 zF 21 #[zT t] w λe w'=>IQ w e w' (sF t)/\aB [] w w':=by
 have eG:=bL;have Bh:=aT;have k0:({ data:=#[] }:ByteArray).toList=[]:=aT _;have kR:({ data:=#[114,101,99,101,105,118,101,114,115] }:ByteArray).toList=mU:=aT _;delta zF;go_in
 by_cases hl:1200<t.length
 ·have Hp:Z_ (sF t=.error (1,0)):=by show _=_;unfold sF;rw[a0m hl]
  go_wp2;go_ret3
  rw[Hp.o];exact⟨rfl,aB.refl _ _⟩
 have hl':t.length<=1200:=by omega
 have Hl:=aj hl;clear hl;go_wp2_with fail
 refine(Lj t 10 false w (by omega)).mono ?_;rintro e w1 ⟨v,rfl,hs,hf⟩;obtain⟨hWx,hWl,hW1⟩:=Lr false 10 t;have HE:Z_ (∀n,sO (dU false 10 t) 0 [] []=.error n->sF t=.error (2,n)):=λn h=>akz t n Hl.o h
 have HK:Z_ (∀L R,sO (dU false 10 t) 0 [] []=.ok (L,R)->sF t=if (xh L R).1=0 then .ok (L,R) else .error (xh L R)):=λL R h=>anP t L R Hl.o h
 generalize dU false 10 t=W at *;generalize OJ:sO W 0 [] []=RES at *;have alS:=aj OJ;clear OJ;obtain⟨aw,cw,rfl⟩:=hs.shape;obtain⟨n,hWn⟩:∃n,W.length=n+1:=⟨W.length-1,by omega⟩;obtain⟨gw,haw,hgw,ayN,zx⟩:∃g,aw=some (zA g)/\w.heap.size<=g/\g<w1.heap.size/\W.length<=cw:=by
  rcases hs.2 with⟨_,e⟩|⟨g,c,cur,e,hb,hh,h3,_⟩
  ·omega
  simp at e;obtain⟨rfl,rfl⟩:=e;exact⟨g,rfl,hb,(a0c.1 hh).1,h3⟩
 subst haw;have JO:Z_ (∀x∈W,x.length<=9000):=λx hx=>by have:=hWx x hx;omega
 have Hs:=aj hs;have Hf:=aj hf;have fM:=hf.size;have uD:n<=1200:=by omega
 have UA:((n:Int)+1)-1=(n:Int):=by omega
 clear hs hf hWx hWl hW1;have Hc0:Z_ (sw (w1.alloc (.cells #[zN,.pointer none,zN] 119)) w1.heap.size zN (.pointer none) zN):=bD _ _;go_wp2_with fail
 go_loopg [8] n (λk vi wr=>∃(i:Nat) (vr vl:Value) (L:List LB) (X:List (Nat × iY × RR)),i+k=n/\vi=zI i/\QI wr w1.heap.size vr vl L X/\sw wr w1.heap.size vr (.pointer none) vl/\(i=0->vr=zN/\vl=zN/\X=[])/\(0<i->X.length+1=i)/\L.length<=9000/\(∀x∈X,x.2.2.d<=9000)/\sO (W.drop i) i L (X.map (·.2.2))=RES/\aB [] w1 wr)
 case atStart=>exact⟨0,_,_,[],[],by omega,rfl,QI.nil _ _,Hc0,λ_=>⟨rfl,rfl,rfl⟩,λh=>by omega,by simp,by simp,alS,(aB.refl _ _).alloc _⟩
 case round =>
 obtain⟨i,vr,vl,L,X,Ku,Io,hqi,kG,h0,h1,hL,hXd,iD,bH⟩:=hrel;subst Io;have Dv:=aj hqi;have Hcb:=aj kG;have H0:=aj h0;have H1:=aj h1;have HXd:=aj hXd;have Gu:=aj iD;have NJ:=aj bH;have Hfw:=aj (Hf.o.trans bH);have hzr:=bH.size;have hcw:=kG.lt;have rJ:SL w.heap.size wr (zS gw W.length cw) W:=Hs.o.aC bH (by simp);have L9:=aj rJ
 by_cases aL:i<n
 ·obtain⟨m,rfl⟩:∃m,gk=m+1:=⟨gk-1,by omega⟩
  have gJ:decide ((i:Int)<(n:Int))=true:=a0g (by omega);have ci:zC wr gw i (zT (W.getD i [])):=rJ.cell i (by omega);have Dr:W.getD i []∈W:=by
   rw[a0x,a0a (by omega)];exact a0u _
  have hx:=JO.o _ Dr;have JM:Z_ (W.drop i=W.getD i []::W.getD (i+1) []::W.drop (i+2)):=by
   show _=_;rw[a0k (by omega:i<W.length),a0k (by omega:i+1<W.length)];simp[a0x,a0a (by omega:i<W.length),a0a (by omega:i+1<W.length)]
  have al1:Z_ (W.drop (i+1)=W.getD (i+1) []::W.drop (i+2)):=by
   show _=_;rw[a0k (by omega:i+1<W.length)];simp[a0x,a0a (by omega:i+1<W.length)]
  generalize W.getD i []=x at *;clear hqi kG h0 h1 hXd iD bH rJ Dr
  by_cases yf:i=0
  ·
   obtain⟨hvr,Af,hXe⟩:=H0.o yf;subst hvr Af hXe;have e0:((i:Int)==0)=true:=by simp[yf]
   have hL0:L=[]:=by
    obtain⟨a,c,e,_⟩:=Dv.o.rs;simp at e;exact a0S e.2.1.symm
   subst hL0;have dw:Z_ (RES=match abq x with | none=>.error 1|some L'=>sO (W.drop 1) 1 L' []):=by
    show _=_;rw[<-Gu.o,JM.o,show(1:Nat)=i+1 by omega,al1.o]
    conv=>lhs;unfold sO
    rw[yf];rfl
   have Hi0:=aj yf;have hic:(i:Int)=0:=by omega
   have c0i:zC wr gw 0 (zT x):=by rw[<-yf];exact ci
   clear Gu JM al1 yf ci;go_wp2_with fail
   refine(Lj x 32 false wr (by omega)).mono ?_;rintro e w3 ⟨v0,rfl,Sk,bW⟩;obtain⟨-,hVl,hV1⟩:=Lr false 32 x;have akA:Z_ (((((dU false 32 x).getD 0 []==mU)&&decide (1<(dU false 32 x).length)&&decide ((dU false 32 x).length<=9))&&((dU false 32 x).drop 1).all aJ)=false->RES=.error 1):=by
    intro h;rw[dw.o];unfold abq;rw[h];rfl
   have au9:Z_ (((((dU false 32 x).getD 0 []==mU)&&decide (1<(dU false 32 x).length)&&decide ((dU false 32 x).length<=9))&&((dU false 32 x).drop 1).all aJ)=true->sO (W.drop 1) 1 ((dU false 32 x).drop 1) []=RES):=by
    intro h;rw[dw.o];unfold abq;rw[h];rfl
   clear dw;have HVn:Z_ (∀y∈dU false 32 x,y.length<=9000):=λy hy=>by have:=(Lr false 32 x).1 y hy;omega
   generalize dU false 32 x=V at *;obtain⟨av,cap,rfl⟩:=Sk.shape;obtain⟨g,hav,hg,IE,Fz⟩:∃g,av=some (zA g)/\wr.heap.size<=g/\g<w3.heap.size/\V.length<=cap:=by
    rcases Sk.2 with⟨_,e⟩|⟨g,c,cur,e,hb,hh,h3,_⟩
    ·omega
    simp at e;obtain⟨rfl,rfl⟩:=e;exact⟨g,rfl,hb,(a0c.1 hh).1,h3⟩
   subst hav;have su:=aj (Sk.rs (by omega));have cv0:zC w3 g 0 (zT (V.getD 0 [])):=Sk.cell 0 (by omega);have abK:=aj (Hcb.o.aC bW (by simp));have c0:zC w3 w1.heap.size 0 zN:=abK.o.cell 0;have f0:=abK.o.fz 0;have Yg:=aj bW;have xg:=bW.size;have Kt:g≠w1.heap.size:=by omega
   have ayO:w1.heap.size≠g:=by omega
   obtain⟨q,hq⟩:∃q,V.length=q+1:=⟨V.length-1,by omega⟩;have NZ:(V.drop 1).length=q:=by rw[a2F];omega
   have HVd:Z_ (∀y∈V.drop 1,y.length<=9000):=λy hy=>HVn.o y (a1f hy)
   have HRd:Z_ (RS (wr.heap.size) w3 (.slice (some (zB g 1)) q (cap-1)) (V.drop 1)):=by
    have:=su.o.drop2 1 (by omega);rw[hq]at this;exact this
   clear Sk bW HVn;generalize V.drop 1=V1 at *;generalize V.getD 0 []=v00 at *
   by_cases kL:cap=1
   ·subst kL
    have EC:q=0:=by omega
    subst EC;have Hn:Z_ (sF t=.error (2,1)):=HE.o _ (akA.o (by rw[a0f (by omega:¬ 1<V.length)];simp));cases b1:(v00==mU)
    all_goals
     have IG:Z_ (RS wr.heap.size ((w3.setCell (zA w1.heap.size) (zS g 1 1)).setCell (zA w1.heap.size) (zS g 0 0)) (zS g 0 0) V1):=by
      have f5:aB [w1.heap.size] w3 ((w3.setCell (zA w1.heap.size) (zS g 1 1)).setCell (zA w1.heap.size) (zS g 0 0)):=((aB.refl _ _).setCell (by simp) _).setCell (by simp) _;exact RS.aC (⟨some (zA g),0,by simp;omega,by omega,by omega,λj hj=>by omega⟩) f5 (by simp;omega)
     have Hc5:Z_ (sw ((w3.setCell (zA w1.heap.size) (zS g 1 1)).setCell (zA w1.heap.size) (zS g 0 0)) w1.heap.size (zS g 0 0) (.pointer none) zN):=(abK.o.set0 _).set0 _;have F5:Z_ (aB [] w1 ((w3.setCell (zA w1.heap.size) (zS g 1 1)).setCell (zA w1.heap.size) (zS g 0 0))):=((NJ.o.trans Yg).setCell (.inr (a0b _)) _).setCell (.inr (a0b _)) _;have Fu:g<((w3.setCell (zA w1.heap.size) (zS g 1 1)).setCell (zA w1.heap.size) (zS g 0 0)).heap.size:=by rw[uN,uN];exact IE
     go_wp2_with fail
     generalize ((w3.setCell (zA w1.heap.size) (zS g 1 1)).setCell (zA w1.heap.size) (zS g 0 0))=w5 at *;go_loopg [9,10] 0 (λk vok vk wq=>∃(j:Nat),j+k=0/\vk=zI j/\vok=.bool (false&&(V1.take j).all aJ)/\aB [] w5 wq)
     case atStart=>exact⟨0,by omega,rfl,by first | rfl|(simp;done)|(simp;omega),aB.refl _ _⟩
     case round =>
     obtain⟨j,lU,Uc,aif,Ud⟩:=hrel;subst Uc aif;have Hfq:=aj Ud;have Hcq:=aj (Hc5.o.aC Ud (by simp));have HRq:=aj (IG.o.aC Ud (by simp));have cq:zC wr w1.heap.size 0 (zS g 0 0):=Hcq.o.cell 0;clear Ud
     by_cases hj:j<0
     ·omega
     have hjq:j=0:=by omega
     have hdj:decide ((j:Int)<(0:Int))=false:=a0f (by omega);have Htk:Z_ ((V1.take j).all aJ=V1.all aJ):=by
      show _=_;rw[a0C (by omega)]
     go_wp2;go_ret3
     rw[Hn.o];exact⟨by simp[IQ],Hf.o.trans (F5.o.trans Hfq)⟩
   have oN:2<=cap:=by omega
   by_cases jk:(v00==mU)=true/\0<q/\q+1<=9
   ·obtain⟨b1,pQ,hq9⟩:=jk
    have b2:decide ((1:Int)<(V.length:Int))=true:=a0g (by omega);have IG:Z_ (RS wr.heap.size ((w3.setCell (zA w1.heap.size) (zS g (q+1) cap)).setCell (zA w1.heap.size) (.slice (some (zB g 1)) q (cap-1))) (.slice (some (zB g 1)) q (cap-1)) V1):=by
     have f5:aB [w1.heap.size] w3 ((w3.setCell (zA w1.heap.size) (zS g (q+1) cap)).setCell (zA w1.heap.size) (.slice (some (zB g 1)) q (cap-1))):=((aB.refl _ _).setCell (by simp) _).setCell (by simp) _;exact RS.aC (HRd.o) f5 (by simp;omega)
    have Hc5:Z_ (sw ((w3.setCell (zA w1.heap.size) (zS g (q+1) cap)).setCell (zA w1.heap.size) (.slice (some (zB g 1)) q (cap-1))) w1.heap.size (.slice (some (zB g 1)) q (cap-1)) (.pointer none) zN):=(abK.o.set0 _).set0 _;have F5:Z_ (aB [] w1 ((w3.setCell (zA w1.heap.size) (zS g (q+1) cap)).setCell (zA w1.heap.size) (.slice (some (zB g 1)) q (cap-1)))):=((NJ.o.trans Yg).setCell (.inr (a0b _)) _).setCell (.inr (a0b _)) _;have Fu:g<((w3.setCell (zA w1.heap.size) (zS g (q+1) cap)).setCell (zA w1.heap.size) (.slice (some (zB g 1)) q (cap-1))).heap.size:=by rw[uN,uN];exact IE
    go_wp2_with fail
    generalize ((w3.setCell (zA w1.heap.size) (zS g (q+1) cap)).setCell (zA w1.heap.size) (.slice (some (zB g 1)) q (cap-1)))=w5 at *;go_loopg [9,10] q (λk vok vk wq=>∃(j:Nat),j+k=q/\vk=zI j/\vok=.bool (true&&(V1.take j).all aJ)/\aB [] w5 wq)
    case atStart=>exact⟨0,by omega,rfl,by first | rfl|(simp;done)|(simp;omega),aB.refl _ _⟩
    case round =>
    obtain⟨j,lU,Uc,aif,Ud⟩:=hrel;subst Uc aif;have Hfq:=aj Ud;have Hcq:=aj (Hc5.o.aC Ud (by simp));have HRq:=aj (IG.o.aC Ud (by simp));have cq:zC wr w1.heap.size 0 (.slice (some (zB g 1)) q (cap-1)):=Hcq.o.cell 0;clear Ud
    by_cases hj:j<q
    ·obtain⟨m2,rfl⟩:∃m2,gk=m2+1:=⟨gk-1,by omega⟩
     have hdj:decide ((j:Int)<(q:Int))=true:=a0g (by omega);obtain⟨g',o',Ty,-,-,-,aO⟩:=HRq.o.Ay (by omega);simp only[Option.some.injEq,Addr.mk.injEq,a2u]at Ty;obtain⟨rfl,rfl⟩:=Ty;have cj:=aO j (by omega);have hnm':(V1.getD j []).length<=9000:=HVd.o _ (by rw[a0x,a0a (by omega)];exact a0u _);have Htk:Z_ ((V1.take (j+1)).all aJ=((V1.take j).all aJ&&aJ (V1.getD j []))):=by
      show _=_;rw[a0F (by omega:j<V1.length),a2c,a0x,a0a (by omega:j<V1.length)];simp
     clear aO;generalize V1.getD j []=nn at *;generalize (V1.take j).all aJ=okb at *;cases okb
     all_goals
      go_wp2_with (first | (go_at_call 39;refine(nH nn _ (by omega)).mono ?_;rintro e w' ⟨rfl,rfl⟩))
      go_roundg m2
      case measure=>omega
      case rel=>exact⟨j+1,by omega,by go_num,by rw[Htk.o];simp,Hfq⟩
    have hjq:j=q:=by omega
    have hdj:decide ((j:Int)<(q:Int))=false:=a0f (by omega);have Htk:Z_ ((V1.take j).all aJ=V1.all aJ):=by
     show _=_;rw[a0C (by omega)]
    rw[Htk.o];clear Htk;cases fI:V1.all aJ
    ·have Hn:Z_ (sF t=.error (2,1)):=HE.o _ (akA.o (by simp[fI]))
     go_wp2;go_ret3
     rw[Hn.o];exact⟨by simp[IQ],Hf.o.trans (F5.o.trans Hfq)⟩
    have Hn:Z_ (sO (W.drop 1) 1 V1 []=RES):=au9.o (by rw[b1,a0g (by omega:1<V.length),a0g (by omega:V.length<=9),fI];rfl);go_wp2;go_roundg m
    case measure=>omega
    case rel =>
     refine⟨1,_,_,V1,[],by have:=Hi0.o;omega,by go_num,?_,Hcq,λh=>by omega,λ_=>rfl,by omega,by simp,Hn,F5.o.trans Hfq⟩;have hzq:=Hfq.o.size;exact⟨HRq.o.base (by omega),World.ownsRow_nil _ _ _ _,by simp,by simp,by simp,by simp,by simp,by simp,by simp[Value.ownBlock];omega,by simp[Value.ownBlock],by simp,by simp[Value.ownBlock];omega⟩
   have Hn:Z_ (sF t=.error (2,1)):=HE.o _ (akA.o (by
    rw[a2p];intro h;simp only[a0O,a0U]at h;exact jk ⟨h.1.1.1,by omega,by omega⟩))
   rcases(show(v00==mU)=false\/((v00==mU)=true/\q<1)\/((v00==mU)=true/\0<q/\9<q+1) by
    by_cases h1:(v00==mU)=true
    ·by_cases h2:q<1
     ·exact .inr (.inl ⟨h1,h2⟩)
     exact .inr (.inr ⟨h1,by omega,by have:¬ q+1<=9:=λh=>jk ⟨h1,by omega,h⟩
                                      omega⟩)
    exact .inl (by simpa using h1)) with b1|⟨b1,EC⟩|⟨b1,pQ,hq9⟩
   all_goals
    clear jk;have IG:Z_ (RS wr.heap.size ((w3.setCell (zA w1.heap.size) (zS g (q+1) cap)).setCell (zA w1.heap.size) (.slice (some (zB g 1)) q (cap-1))) (.slice (some (zB g 1)) q (cap-1)) V1):=by
     have f5:aB [w1.heap.size] w3 ((w3.setCell (zA w1.heap.size) (zS g (q+1) cap)).setCell (zA w1.heap.size) (.slice (some (zB g 1)) q (cap-1))):=((aB.refl _ _).setCell (by simp) _).setCell (by simp) _;exact RS.aC (HRd.o) f5 (by simp;omega)
    have Hc5:Z_ (sw ((w3.setCell (zA w1.heap.size) (zS g (q+1) cap)).setCell (zA w1.heap.size) (.slice (some (zB g 1)) q (cap-1))) w1.heap.size (.slice (some (zB g 1)) q (cap-1)) (.pointer none) zN):=(abK.o.set0 _).set0 _;have F5:Z_ (aB [] w1 ((w3.setCell (zA w1.heap.size) (zS g (q+1) cap)).setCell (zA w1.heap.size) (.slice (some (zB g 1)) q (cap-1)))):=((NJ.o.trans Yg).setCell (.inr (a0b _)) _).setCell (.inr (a0b _)) _;have Fu:g<((w3.setCell (zA w1.heap.size) (zS g (q+1) cap)).setCell (zA w1.heap.size) (.slice (some (zB g 1)) q (cap-1))).heap.size:=by rw[uN,uN];exact IE
    go_wp2_with fail
    generalize ((w3.setCell (zA w1.heap.size) (zS g (q+1) cap)).setCell (zA w1.heap.size) (.slice (some (zB g 1)) q (cap-1)))=w5 at *;go_loopg [9,10] q (λk vok vk wq=>∃(j:Nat),j+k=q/\vk=zI j/\vok=.bool (false&&(V1.take j).all aJ)/\aB [] w5 wq)
    case atStart=>exact⟨0,by omega,rfl,by first | rfl|(simp;done)|(simp;omega),aB.refl _ _⟩
    case round =>
    obtain⟨j,lU,Uc,aif,Ud⟩:=hrel;subst Uc aif;have Hfq:=aj Ud;have Hcq:=aj (Hc5.o.aC Ud (by simp));have HRq:=aj (IG.o.aC Ud (by simp));have cq:zC wr w1.heap.size 0 (.slice (some (zB g 1)) q (cap-1)):=Hcq.o.cell 0;clear Ud
    by_cases hj:j<q
    ·first
     | omega
     | obtain⟨m2,rfl⟩:∃m2,gk=m2+1:=⟨gk-1,by omega⟩
       have hdj:decide ((j:Int)<(q:Int))=true:=a0g (by omega);obtain⟨g',o',Ty,-,-,-,aO⟩:=HRq.o.Ay (by omega);simp only[Option.some.injEq,Addr.mk.injEq,a2u]at Ty;obtain⟨rfl,rfl⟩:=Ty;have cj:=aO j (by omega);have hnm':(V1.getD j []).length<=9000:=HVd.o _ (by rw[a0x,a0a (by omega)];exact a0u _);have Htk:Z_ ((V1.take (j+1)).all aJ=((V1.take j).all aJ&&aJ (V1.getD j []))):=by
        show _=_;rw[a0F (by omega:j<V1.length),a2c,a0x,a0a (by omega:j<V1.length)];simp
       clear aO;generalize V1.getD j []=nn at *;generalize (V1.take j).all aJ=okb at *;cases okb
       all_goals
        go_wp2_with (first | (go_at_call 39;refine(nH nn _ (by omega)).mono ?_;rintro e w' ⟨rfl,rfl⟩))
        go_roundg m2
        case measure=>omega
        case rel=>exact⟨j+1,by omega,by go_num,by rw[Htk.o];simp,Hfq⟩
    have hjq:j=q:=by omega
    have hdj:decide ((j:Int)<(q:Int))=false:=a0f (by omega);have Htk:Z_ ((V1.take j).all aJ=V1.all aJ):=by
     show _=_;rw[a0C (by omega)]
    go_wp2;go_ret3
    rw[Hn.o];exact⟨by simp[IQ],Hf.o.trans (F5.o.trans Hfq)⟩
  -- a route
  have IJ:((i:Int)==0)=false:=a0j.2 (by omega);have Ic:(i==0)=false:=a0j.2 yf;have hX:X.length+1=i:=H1.o (by omega);have dw:Z_ (RES=match yY x with | none=>.error (i+1)|some r=>sO (W.drop (i+1)) (i+1) L (X.map (·.2.2)++[r])):=by
   show _=_;rw[<-Gu.o,JM.o,al1.o]
   conv=>lhs;unfold sO
   rw[Ic];rfl
  clear Gu JM al1;obtain⟨al,cl,Af⟩:=aW Dv.o.lp;rw[a0y]at Af;subst Af;rcases hr:yY x with _|r
  ·have Hn:Z_ (sF t=.error (2,i+1)):=HE.o _ (by rw[dw.o,hr])
   have Hr:=aj hr;clear dw hr Ic;go_wp2_with fail
   refine(Xq x wr (by omega)).mono ?_;rintro e w2 ⟨hp,aR⟩;rw[Hr.o]at hp;obtain⟨p,rfl⟩:=hp;have oF:=aj aR;clear aR;go_wp2;go_ret3
   rw[Hn.o];exact⟨by simp[IQ],Hfw.o.trans oF⟩
  have Hn:Z_ (sO (W.drop (i+1)) (i+1) L (X.map (·.2.2)++[r])=RES):=by show _=_;rw[dw.o,hr]
  have Hr:=aj hr;clear dw hr Ic;go_wp2_with fail
  refine(Xq x wr (by omega)).mono ?_;rintro e w2 ⟨hp,aR⟩;rw[Hr.o]at hp;obtain⟨b,⟨Ma,ek,vt0,vt1,vt2,iJ,YJ,vk,vd,alY⟩,hbz,rfl,lZ⟩:=hp;have aqX:=aj lZ;have oF:=aj aR;have gD:=aR.size;have jR:=lZ.at_.lt;have d9:zC w2 b 9 (zI alY):=lZ.at_.cell 9;have z9:=lZ.at_.fz 9;have Pd:=aj (Hcb.o.aC aR (by simp));have c2:zC w2 w1.heap.size 2 (.slice al X.length cl):=Pd.o.cell 2;have f2:=Pd.o.fz 2;have bJ:b≠w1.heap.size:=by omega
  have hne':w1.heap.size≠b:=by omega
  have ag:Value.ownBlock (.slice al X.length cl)≠some w1.heap.size:=λe=>by have:=Dv.o.lp.lt _ e;omega
  have rH:∀u o,Z_ (aB [] wr ((w2.setCell (zB b 9) u).alloc o)):=λu o=>(oF.o.setCell (.inr hbz) _).alloc _
  have g2:∀u o,zC ((w2.setCell (zB b 9) u).alloc o) w1.heap.size 2 (.slice al X.length cl):=λu o=>((((aB.refl [b] w2).setCell (p:=(zB b 9)) (by simp) u).alloc o).cell (p:=(zB w1.heap.size 2)) (by simp;omega) (by simp;omega)).trans c2
  have g3:∀u o,((w2.setCell (zB b 9) u).alloc o).frozen? (zB w1.heap.size 2)=false:=λu o=>((((aB.refl [b] w2).setCell (p:=(zB b 9)) (by simp) u).alloc o).frozen (p:=(zB w1.heap.size 2)) (by simp;omega) (by simp;omega)).trans f2
  clear lZ aR;go_wp2_with (first | (at_builtin;refine abH _ rfl _ _ rfl (w1.heap.size+1) (.slice al X.length cl) (X.map (·.1)) b w2.heap.size rfl ((Dv.o.TF (rH _ _).o).lp) rfl (Ja _ _ _ _ (uN _ _ _)) (by simp;omega) (by simp;omega) ?_;intro g4 Kq w4 XK Sl GH;have c4:=(Sl.cell_far (zB w1.heap.size 2) (by simp;omega) (Ne.symm ag)).trans (g2 _ _);have z4:=(Sl.frozen_far (zB w1.heap.size 2) (by simp;omega) (Ne.symm ag)).trans (g3 _ _);have Hs4:=aj XK;have Hg4:=aj Sl;have Hb4:=aj GH;clear XK Sl GH))
  go_roundg m
  case measure=>omega
  case rel =>
   have hRB:qz (w2.setCell (zB b 9) (zI ((i:Int)+1))) b ⟨Ma,ek,vt0,vt1,vt2,iJ,YJ,vk,vd,(i:Int)+1⟩:=aqX.o.at_.set 9 _ _ rfl;have at7:aB [b] w2 (w2.setCell (zB b 9) (zI ((i:Int)+1))):=(aB.refl _ _).setCell (by simp) _;have hRQ:Dq (w1.heap.size+1) ((w2.setCell (zB b 9) (zI ((i:Int)+1))).alloc (.cells #[zP b] 116)) b ⟨Ma,ek,vt0,vt1,vt2,iJ,YJ,vk,vd,(i:Int)+1⟩ r:=by
    have q:=aqX.o;refine Dq.aC (S:=[]) (Dq.base (base:=wr.heap.size) ⟨hRB,q.rc,jJ q.Im at7 ?_,q.t0,q.t1,q.t2,jJ q.ifs at7 ?_,q.on,q.d⟩ (by omega)) ((aB.refl _ _).alloc _) (by simp) (by simp)
    ·intro k hk;simp at hk;subst hk;exact .inr ⟨_,_,_,q.at_,by decide⟩
    intro k hk;simp at hk;subst hk;exact .inr ⟨_,_,_,q.at_,by decide⟩
   have Q4:=QI.snoc (Dv.o.TF (rH (zI ((i:Int)+1)) (.cells #[zP b] 116)).o) (x:=(b,⟨Ma,ek,vt0,vt1,vt2,iJ,YJ,vk,vd,(i:Int)+1⟩,r)) hRQ aqX.o.vk (by simp;omega) (λy hy=>by have:=Dv.o.lt y hy;simp;omega) (by simp;omega) (λe=>by have:=Dv.o.vrt _ e;simp at this;omega) (λe=>by have:=Dv.o.lp.lt _ e;simp at this;omega) Hg4.o Hs4.o Hb4;rw[a0y,hX]at Q4;refine⟨i+1,vr,zS g4 i Kq,L,_,by omega,by go_num,Q4.awR 2 _,?_,λh=>by omega,λ_=>by simp;omega,hL,?_,?_,?_⟩
   ·exact sw.set2 ((Hcb.o.aC (rH _ _).o (by simp)).aC (aB.fo Hg4) (by rw[a0H];exact ag)) _
   ·intro y hy
    rw[a0e,a0w]at hy;rcases hy with hy|rfl
    ·exact HXd.o y hy
    have:=au8 _ _ Hr;simp;omega
   ·rw[a0P];exact Hn
   exact((NJ.o.trans (rH _ _).o).grown Hg4.o (λk hk=>.inr (by have:=Dv.o.lp.lt _ hk;omega))).setCell (.inr (a0b _)) _
 -- the end
 have EF:i=n:=by omega
 subst EF;have gJ:decide ((i:Int)<(i:Int))=false:=a0f (by omega);have ci:zC wr gw i (zT (W.getD i [])):=rJ.cell i (by omega);have dw:Z_ (RES=if !((W.getD i []).isEmpty)||i==0 then .error (i+1) else .ok (L,X.map (·.2.2))):=by
  show _=_;rw[<-Gu.o,a0k (by omega:i<W.length),a0i (by omega),a0x,a0a (by omega:i<W.length)];unfold sO;rfl
 generalize W.getD i []=x at *;obtain⟨ar,cr,hvr⟩:∃a c,vr=.slice a L.length c:=by
  obtain⟨a,c,e,_⟩:=hqi.rs;exact⟨a,c,e⟩
 obtain⟨al,cl,Af⟩:=aW hqi.lp;rw[a0y]at Af;subst hvr Af;clear hqi kG h0 h1 hXd iD bH rJ Gu;cases hx:(x == [])
 ·have Hn:Z_ (sF t=.error (2,i+1)):=HE.o _ (by
   rw[dw.o];have:x.isEmpty=false:=by
    cases x with
    | nil=>simp at hx
    | cons=>rfl
   rw[this];rfl)
  clear dw;go_wp2;go_ret3
  rw[Hn.o];exact⟨by simp[IQ],Hfw⟩
 by_cases yf:i=0
 ·have e0:((i:Int)==0)=true:=by simp[yf]
  have Hn:Z_ (sF t=.error (2,i+1)):=HE.o _ (by rw[dw.o,yf];simp);have ayP:i<=0:=by omega
  clear dw yf;go_wp2;go_ret3
  rw[Hn.o];exact⟨by simp[IQ],Hfw⟩
 have e0:((i:Int)==0)=false:=a0j.2 (by omega);have hxe:x=[]:=by simpa using hx
 have Hn:Z_ (sF t=if (xh L (X.map (·.2.2))).1=0 then .ok (L,X.map (·.2.2)) else .error (xh L (X.map (·.2.2)))):=HK.o _ _ (by rw[dw.o,hxe];simp[yf]);have hX:X.length+1=i:=H1.o (by omega);clear dw hxe;go_wp2_with fail
 refine(aky w1.heap.size (w1.heap.size+1) (.slice ar L.length cr) (.slice al X.length cl) L X wr Hcb.o (λw' f=>Dv.o.kept f) (λx hx=>⟨Dv.o.rq x hx,Dv.o.vk x hx⟩) Dv.o.row (λx hx=>by have:=Dv.o.gt x hx;omega) Dv.o.nd hL (by omega) HXd).mono ?_;rintro e w2 ⟨rfl,aR,aua⟩;have axg:=aj aua;have oF:=aj aR;have Gf:=aR.size;clear aua aR;have aub:Z_ (aB [] w w2):=by
  refine Hf.o.trans ((NJ.o.nil (S:=w1.heap.size::X.map (·.1))).trans oF.o |>.mono ?_);intro k hk hm;rw[a0l,a0q]at hm;rcases hm with rfl|⟨x,hx,rfl⟩
  ·omega
  have:=Dv.o.gt x hx;omega
 unfold grE;generalize hg:xh L (X.map (·.2.2))=f at *;have Hg:=aj hg;clear hg;obtain⟨f1,f2⟩:=f
 by_cases aZ:f1=0
 ·subst aZ
  have e2:=aqV _ _ (by rw[Hg.o]);rw[Hg.o]at e2;simp at e2;subst e2;go_wp2;go_ret3
  rw[Hn.o];obtain⟨K,oN,hK,axh⟩:=axg.o (by first | trivial|rfl|simp);have hxd:xd (X.map (λx=>(x.1,{ x.2.1 with vk:=K x.1 },x.2.2)))=xd X:=by simp[xd,Function.comp_def]
  refine⟨⟨w1.heap.size,w1.heap.size+1,_,_,_,X.map (λx=>(x.1,{ x.2.1 with vk:=K x.1 },x.2.2)),rfl,oN,(Dv.o.kept oF).1,?_,?_,?_,⟨fM,by omega,?_,?_,?_,?_,?_⟩⟩,aub⟩
  ·have:=(Dv.o.kept oF).2
   simpa[Function.comp_def] using this
  ·intro y hy
   rw[a0q]at hy;obtain⟨x,hx,rfl⟩:=hy;exact Dv.o.rqs oF.o hK x hx
  ·simp[Function.comp_def]
  ·intro i y hy
   rw[a0Q]at hy;cases hxi:X[i]? with
   | none=>rw[hxi]at hy;simp at hy
   | some x =>
     rw[hxi]at hy;simp at hy;subst hy;exact Dv.o.row i x hxi
  ·have:=Dv.o.nd
   simpa[Function.comp_def] using this
  ·intro y hy
   rw[a0q]at hy;obtain⟨x,hx,rfl⟩:=hy;have:=Dv.o.gt x hx;exact this
  ·simp[Function.comp_def]
  intro y hy;rw[a0q]at hy;obtain⟨x,hx,rfl⟩:=hy;rw[hxd];exact wQ (axh x hx) (by omega)
 simp only[aZ,a0I];go_wp2;go_ret3
 rw[Hn.o];simp only[aZ,a0I];exact⟨rfl,aub⟩
theorem abM(n:LB):∀(L a:List LB),lJ n L (a,true)=(a++L,true)
 | [],a=>by simp[lJ]
 | x::L,a=>by unfold lJ;simp only[a2O,Bool.false_and];rw[a0n (by simp),abM n L];simp
theorem Xu(n:LB):∀(L a:List LB),(if (lJ n L (a,false)).2 then (lJ n L (a,false)).1 else (lJ n L (a,false)).1++[n])=a++ins n L
 | [],a=>by simp[lJ,ins]
 | x::L,a=>by
   have e:lJ n (x::L) (a,false)=lJ n L (if n<x then (a++[n]++[x],true) else (a++[x],false)):=by
    conv=>lhs;unfold lJ
    rw[aqh];simp
   rw[e];unfold ins
   by_cases h:n<x
   .grind [abM]
   simp only[a0n h];have:=Xu n L (a++[x]);rw[this];simp
theorem akB(L:List LB)(n:LB):uf L n=ins n L:=by simp[Xu,uf]
def ad9:∀(L acc:List LB),Asc acc->Asc (L.foldl oH acc)
 | [],acc,h=>h
 | n::L,acc,h=>by
   simp only[a1R];refine ad9 L _ ?_;unfold oH
   by_cases a:acc.contains n=true
   .rw[a0m a];exact h
   grind [akB,ahQ]
def glue(p:LB):List LB->List LB
 | []=>[p]
 | h::r=>(p++h)::r
theorem ze(p q:LB)(W:List LB):glue p (glue q W)=glue (p++q) W:=by cases W<;>simp[glue]
def oD(q:Bool)(c:UInt8):LB->Bool->Bool->List LB
 | [],_,_=>[[]]
 | x::r,i,true=>glue [x] (oD q c r i false)
 | x::r,i,false =>
   if (if q&&x==34 then !i else i)&&x==92 then glue [x] (oD q c r (if q&&x==34 then !i else i) true)
   else if x==c&&!(if q&&x==34 then !i else i) then []::oD q c r (if q&&x==34 then !i else i) false
   else glue [x] (oD q c r (if q&&x==34 then !i else i) false)
theorem abN(p:LB)(W:List LB):glue p W≠[]:=by cases W<;>simp[glue]
theorem Db(q:Bool)(c:UInt8)(l:LB)(i e:Bool):oD q c l i e≠[]:=by
 cases l with
 | nil=>cases e<;>simp[oD]
 | cons x r =>
   cases e with
   | true=>unfold oD;exact abN _ _
   | false =>
     unfold oD;generalize (if (q&&x==34)=true then !i else i)=i1
     by_cases a:(i1&&x==92)=true
     .grind [abN]
     grind [abN]
theorem Gv(q:Bool)(c:UInt8):∀(k:Nat) (l:LB) (i:Bool) (t:LB) (out:List LB),l.length<k->jy q c k l i t out=out++glue t (oD q c l i false)
 | 0,l,i,t,out,h=>by omega
 | k+1,[],i,t,out,h=>by unfold jy oD;simp[glue]
 | k+1,x::r,i,t,out,h=>by
   simp only[a0r]at h;unfold jy oD;dsimp only;generalize (if (q&&x==34)=true then !i else i)=i1
   by_cases a:(i1&&x==92)=true
   .rw[a0m a]
    cases r with
    | nil =>
      have j:i1=true:=by simp at a;exact a.1
      subst j;rw[a0n (by simp),a0n (by simp),Gv q c k [] _ _ _ (by simp at h |-;omega)];simp[oD,glue]
    | cons d f=>rw[a0m (by simp[a])];rw[List.drop_succ_cons,a2j,Gv q c k f _ _ _ (by simp at h |-;omega)];simp only[oD,ze,a2J,a3w]
   rw[a0n a,a0n (by intro e;apply a;simp only[a0O]at e |-;exact e.1)]
   by_cases b:(x==c&&!i1)=true
   .rw[a0m b,a0m b,Gv q c k r _ _ _ (by omega)]
    have:glue [] (oD q c r i1 false)=oD q c r i1 false:=by
     cases g:oD q c r i1 false with
     | nil=>exact(Db q c r i1 false g).elim
     | cons=>rfl
    rw[this];simp[glue]
   rw[a0n b,a0n b,Gv q c k r _ _ _ (by omega),ze]
theorem Ue(q:Bool)(c:UInt8)(l:LB):dU q c l=oD q c l false false:=by
 unfold dU;rw[Gv q c _ _ _ _ _ (a3j _),a0V];cases h:oD q c l false false with
 | nil=>exact(Db q c l false false h).elim
 | cons=>rfl
def oo:LB->Bool->Bool->LB × LB
 | [],_,_=>([],[])
 | x::r,i,true=>(x::(oo r i false).1,(oo r i false).2)
 | x::r,i,false =>
   if (if x==34 then !i else i)&&x==92 then (x::(oo r (if x==34 then !i else i) true).1,(oo r (if x==34 then !i else i) true).2)
   else if x==32&&!(if x==34 then !i else i) then ([],x::r)
   else (x::(oo r (if x==34 then !i else i) false).1,(oo r (if x==34 then !i else i) false).2)
def W0(l:LB):List LB:=oD true 32 l false false
def tw:LB->List LB
 | []=>[]
 | _::r=>W0 r
theorem Ad(x:UInt8)(r:LB):tw (x::r)=W0 r:=rfl
theorem al2:tw []=[]:=rfl
def bd(l:LB):Bool:=match l with | []=>true|x::_=>x==32
theorem Uf:∀(l:LB) (i e:Bool),oD true 32 l i e=(oo l i e).1::tw (oo l i e).2
 | [],i,e=>by cases e<;>rfl
 | x::r,i,true=>by unfold oD oo;rw[Uf r i false];rfl
 | x::r,i,false=>by
   unfold oD oo;simp only[a3k];generalize d:(if (x==34)=true then !i else i)=i1
   by_cases b:(i1&&x==92)=true
   .rw[a0m b,a0m b,Uf r i1 true];rfl
   rw[a0n b,a0n b]
   by_cases a:(x==32&&!i1)=true
   .rw[a0m a,a0m a]
    have c:i1=false:=by simp at a;exact a.2
    subst c;rfl
   rw[a0n a,a0n a,Uf r i1 false];rfl
def Mb:∀(l:LB) (i e:Bool),l=(oo l i e).1++(oo l i e).2/\bd (oo l i e).2=true
 | [],i,e=>by cases e<;>simp[oo,bd]
 | x::r,i,true=>by unfold oo;have:=Mb r i false;exact⟨by simp;exact this.1,this.2⟩
 | x::r,i,false=>by
   unfold oo;generalize c:(if (x==34)=true then !i else i)=i1
   by_cases a:(i1&&x==92)=true
   .rw[a0m a]
    have:=Mb r i1 true;exact⟨by simp;exact this.1,this.2⟩
   rw[a0n a]
   by_cases b:(x==32&&!i1)=true
   .grind [bd]
   rw[a0n b];have:=Mb r i1 false;exact⟨by simp;exact this.1,this.2⟩
def fw(l:LB):LB:=(oo l false false).1
def wG(l:LB):LB:=(oo l false false).2
theorem EM(l:LB):W0 l=fw l::tw (wG l):=Uf l false false
theorem Nj(l:LB):l=fw l++wG l:=(Mb l false false).1
theorem afS(l:LB):bd (wG l)=true:=(Mb l false false).2
theorem yj(l:LB)(h:bd l=true):fw l=[]/\wG l=l:=by
 cases l with
 | nil=>exact⟨rfl,rfl⟩
 | cons x r =>
   have:x=32:=by simpa[bd] using h
   subst this;exact⟨rfl,rfl⟩
def clean(p:LB):Bool:=p.all λx=>!(x==32)&&!(x==34)
def ma:∀(p s:LB),clean p=true->fw (p++s)=p++fw s/\wG (p++s)=wG s
 | [],s,_=>⟨rfl,rfl⟩
 | x::p,s,h=>by
   unfold clean at h;simp only[a1P,a0O,a1j]at h;have a:=ma p s h.2;have c:=h.1.1;have b:=h.1.2;have:oo (x::(p++s)) false false=(x::(oo (p++s) false false).1,(oo (p++s) false false).2):=by
    conv=>lhs;unfold oo
    rw[b,c];rfl
   unfold fw wG at *;rw[a0L,this];exact⟨by simp[a.1],a.2⟩
def QQ(p:LB)(W:List LB):Bool:=decide (1<W.length)&&(W.getD 0 []==p)
def asJ(l:LB):(tw l).length=0↔l=[]:=by
 cases l with
 | nil=>simp[tw]
 | cons x r=>rw[Ad,EM];simp
def aih {l:LB}(h:bd l=true)(a:l≠[]):∃r,l=32::r:=by
 cases l with
 | nil=>exact(a rfl).elim
 | cons x r=>simp[bd]at h;subst h;exact⟨r,rfl⟩
def fC(p l:LB)(h:aQ p l=true):l=p++aK p l:=by unfold aQ at h;unfold aK;rw[a0m h];have:=a2y.1 h;obtain⟨t,rfl⟩:=this;simp
theorem qF(p s:LB):aQ p (p++s)=true/\aK p (p++s)=s:=by simp[aQ,aK]
theorem akC(p l:LB)(b:clean p=true)(c:bd l=true):QQ p (tw l)=aQ (32::(p++[32])) l:=by
 cases l with
 | nil=>simp[QQ,tw,aQ]
 | cons x r =>
   have:x=32:=by simpa[bd] using c
   subst this;rw[a0T]
   constructor
   .intro h
    unfold QQ at h;rw[Ad,EM]at h;simp only[a0r,a0O,a0U,a0W]at h;have g:wG r≠[]:=λe=>by rw[e,al2]at h;simp at h
    obtain⟨a,i⟩:=aih (afS r) g;have f:fw r=p:=by simpa using h.2
    have:=Nj r;rw[f,i]at this;rw[this];have d:=(qF (32::(p++[32])) a).1;simpa using d
   intro h;have e:=fC _ _ h;generalize aK (32::(p++[32])) (32::r)=a at e;have j:r=p++32::a:=by simpa using e
   subst j;unfold QQ;have:=ma p (32::a) b;have hb:=yj (32::a) rfl;rw[Ad,EM,this.1,this.2,hb.1,hb.2,Ad,EM];simp
def abO(p l:LB)(b:clean p=true)(h:aQ (32::(p++[32])) l=true):(tw l).getD 1 []=fw (aK (32::(p++[32])) l)/\(tw l).drop 2=tw (wG (aK (32::(p++[32])) l)):=by
 have e:=fC _ _ h;generalize aK (32::(p++[32])) l=a at e;subst e;have c:tw (32::(p++[32])++a)=p::W0 a:=by
  have d:(32::(p++[32])++a)=32::(p++32::a):=by simp
  rw[d];show W0 (p++32::a)=_;have:=ma p (32::a) b;have hb:=yj (32::a) rfl;rw[EM,this.1,this.2,hb.1,hb.2,Ad];simp
 rw[c,EM];simp
theorem Ug(p l:LB)(h:bd l=false):aQ (32::p) l=false:=by
 cases l with
 | nil=>simp[bd]at h
 | cons x r =>
   unfold bd at h;have:(32==x)=false:=by grind
   simp[aQ,List.isPrefixOf,this]
theorem aqY(p l:LB)(h:bd l=false):aK (32::p) l=l:=by have:=Ug p l h;unfold aQ at this;unfold aK;rw[a0n (by simp[this])]
theorem anR(c:UInt8):(!(bK c)||(!(c==32)&&!(c==34)&&!(c==44)&&!(c==45)))=true:=vO (p:=λc=>!(bK c)||(!(c==32)&&!(c==34)&&!(c==44)&&!(c==45))) (by decide +kernel) c
theorem anS(c:UInt8):(!(nG c)||(!(c==32)&&!(c==34)&&decide (48<=c.toNat)&&decide (c.toNat<=57)))=true:=vO (p:=λc=>!(nG c)||(!(c==32)&&!(c==34)&&decide (48<=c.toNat)&&decide (c.toNat<=57))) (by decide +kernel) c
def Mc {c:UInt8}(h:bK c=true):c≠32/\c≠34/\c≠44/\c≠45:=by grind [anR]
def abP {c:UInt8}(h:nG c=true):c≠32/\c≠34/\48<=c.toNat/\c.toNat<=57:=by grind [anS]
def nS(p:α->Bool):∀(l:List α),(l.takeWhile p).all p=true
 | []=>rfl
 | x::r=>by simp_all
def vJ(p:α->Bool):∀(l:List α) (x:α) (r:List α),l.dropWhile p=x::r->p x=false
 | [],x,r,h=>by simp at h
 | y::l,x,r,h=>by
   rw[List.dropWhile_cons]at h;cases a:p y
   .grind
   rw[a]at h;simp at h;exact vJ p l x r h
def Nk {p:UInt8->Bool}(a:∀c,p c=true->c≠32/\c≠34)(l:LB)(h:l.all p=true):clean l=true:=by grind [clean]
def Md(x:UInt8)(s:LB)(h:bd (x::s)=false):∃h,fw (x::s)=x::h:=by grind [bd,fw,oo]
theorem Dc {s:LB}(h:bd s=false):∃x r,s=x::r/\x≠32:=by
 cases s with
 | nil=>simp[bd]at h
 | cons x r=>exact⟨x,r,rfl,by simpa[bd] using h⟩
theorem Gw(a:LB)(x:UInt8)(b:LB)(h:bK x=false):aJ (a++x::b)=false:=by grind [aJ,bK]
theorem aqZ(r:LB):aJ (fw r)=(aJ (r.takeWhile bK)&&bd (r.dropWhile bK))/\(bd (r.dropWhile bK)=true->fw r=r.takeWhile bK/\wG r=r.dropWhile bK):=by
 have a:clean (r.takeWhile bK)=true:=Nk (p:=bK) (λc h=>⟨(Mc h).1,(Mc h).2.1⟩) _ (nS _ _);have e:r.takeWhile bK++r.dropWhile bK=r:=a1J;have h:=ma (r.takeWhile bK) (r.dropWhile bK) a;rw[e]at h;have hd:=vJ bK r;generalize r.takeWhile bK=n at *;generalize r.dropWhile bK=s at *;cases hb:bd s
 .obtain⟨x,s',rfl,d⟩:=Dc hb
  obtain⟨f,b⟩:=Md x s' hb;refine⟨?_,by simp⟩;rw[h.1,b,Gw _ _ _ (hd x s' rfl)];simp
 simp_all[yj,hb]
def aq0(r:LB):(aJ (fw r)||fw r == [45])=((eZ r).2.1&&bd (eZ r).2.2)/\((eZ r).2.1=true->bd (eZ r).2.2=true->fw r=(eZ r).1/\wG r=(eZ r).2.2):=by
 unfold eZ
 by_cases ht:aQ [45] r=true
 .rw[a0m ht]
  have e:=fC _ _ ht;generalize aK [45] r=r' at *;subst e;have h:=ma [45] r' (by decide);rw[h.1,h.2];cases hb:bd r'
  .obtain⟨x,s',rfl,c⟩:=Dc hb
   obtain⟨a,b⟩:=Md x s' hb;rw[b];have:aJ ([45]++x::a)=false:=by have:=Gw [] 45 (x::a) (by decide);simpa using this
   rw[this];simp
  simp[yj,hb]
 grind [fw,Nj,qF,aqZ]
def yl(D:LB)(n:Nat):Nat:=D.foldl (λn c=>n*10+(c.toNat-48)) n
def abQ:∀(D:LB) (n:Nat),n*10 ^ D.length<=yl D n
 | [],n=>by simp[yl]
 | c::D,n=>by have:=abQ D (n*10+(c.toNat-48));unfold yl at *;simp only[a1R,a0r,Nat.pow_succ];refine a0h ?_ this;rw[a1b (10 ^ D.length) 10,<-a0Z];exact a0z _ (by omega)
def aii:∀(D:LB) (n:Nat),D.all nG=true->yl D n<(n+1)*10 ^ D.length
 | [],n,_=>by simp[yl]
 | c::D,n,h=>by simp only[a1P,a0O]at h;have a:=abP h.1;have:=aii D (n*10+(c.toNat-48)) h.2;unfold yl at *;simp only[a1R,a0r,Nat.pow_succ];refine a0t this ?_;rw[a1b (10 ^ D.length) 10,<-a0Z];exact a0z _ (by omega)
theorem abR:∀(D:LB) (n:Nat),D.all nG=true->Ap D (n:Int)=(yl D n:Int)
 | [],n,_=>rfl
 | c::D,n,h=>by
   simp only[a1P,a0O]at h;have b:=abP h.1;have a:lW c.toNat=true:=h.1;unfold Ap;rw[a0m a];have:(10*(n:Int)+c.toNat-48)=((n*10+(c.toNat-48):Nat):Int):=by omega
   rw[this,abR D _ h.2]
   rfl
def aeh:∀(D s:LB) (n:Nat),D.all nG=true->(∀x r,s=x::r->nG x=false)->n<=99999->(if yl D n<=99999 then uP (D++s) n=(yl D n,true,s) else (uP (D++s) n).2.1=false)
 | [],s,n,_,b,d=>by
   have a:yl [] n=n:=rfl;rw[a0V,a,a0m d];cases s with
   | nil=>rfl
   | cons x r=>unfold uP;rw[a0n (by rw[b x r rfl];simp)]
 | c::D,s,n,h,b,d=>by
   simp only[a1P,a0O]at h;rw[a0L];unfold uP;rw[a0m h.1];have a:yl (c::D) n=yl D (n*10+(c.toNat-48)):=rfl
   by_cases hb:99999<n*10+(c.toNat-48)
   .rw[a0m hb]
    have:=abQ D (n*10+(c.toNat-48));have e:1<=10 ^ D.length:=a2P (by simp);have f:n*10+(c.toNat-48)<=(n*10+(c.toNat-48))*10 ^ D.length:=a2r _ e;rw[a0n (by rw[a];omega)]
   rw[a0n hb,a];exact aeh D s _ h.2 b (by omega)
def asK(r:LB):decide (0<=iR (fw r))=((lI r).2.1&&bd (lI r).2.2)/\((lI r).2.1=true->bd (lI r).2.2=true->iR (fw r)=((lI r).1:Int)/\wG r=(lI r).2.2):=by
 unfold lI
 by_cases ht:aQ [48] r=true
 .rw[a0m ht]
  have e:=fC _ _ ht;generalize aK [48] r=r' at *;subst e;have h:=ma [48] r' (by decide);rw[h.1,h.2];cases hb:bd r'
  .obtain⟨x,s',rfl,j⟩:=Dc hb
   obtain⟨k,i⟩:=Md x s' hb;rw[i];refine⟨?_,by simp⟩;have:iR ([48]++x::k)=-1:=by simp[iR,hd]
   rw[this];simp
  simp[yj,hb,iR,Ap,hd,nG,lW]
 rw[a0n ht];have w:clean (r.takeWhile nG)=true:=Nk (p:=nG) (λc h=>⟨(abP h).1,(abP h).2.1⟩) _ (nS _ _);have e:r.takeWhile nG++r.dropWhile nG=r:=a1J;have h:=ma (r.takeWhile nG) (r.dropWhile nG) w;rw[e]at h;have o:=vJ nG r;have d:=nS nG r
 by_cases f:lW (hd r)=true
 .rw[a0n (by simp[f])]
  have y:∃c D,r.takeWhile nG=c::D/\c≠48:=by
   cases r with
   | nil=>simp[hd,lW]at f
   | cons c r'=>have q:nG c=true:=f;refine⟨c,r'.takeWhile nG,by rw[List.takeWhile_cons,q];rfl,λe=>?_⟩;subst e;exact ht (qF [48] r').1
  have t:=aeh (r.takeWhile nG) (r.dropWhile nG) 0 d (λx r' h=>o x r' h) (by omega);rw[e]at t;generalize r.takeWhile nG=D at *;generalize r.dropWhile nG=s at *;obtain⟨c,a,rfl,g⟩:=y;have G:=aii (c::a) 0 d;have u:10 ^ a.length<=yl (c::a) 0:=by
   have F:=abQ a (0*10+(c.toNat-48));have E:yl (c::a) 0=yl a (0*10+(c.toNat-48)):=rfl;simp only[a1P,a0O]at d;have C:=abP d.1;have B:c.toNat≠48:=λe=>g (a1w.1 (by simpa using e))
   have b:1<=0*10+(c.toNat-48):=by omega
   have m:1*10 ^ a.length<=(0*10+(c.toNat-48))*10 ^ a.length:=a0z _ b;omega
  have l:∀z,iR ((c::a)++z)=if z=[] then (if (c::a).length<=5 then (yl (c::a) 0:Int) else -1) else iR ((c::a)++z):=by
   intro z
   by_cases hz:z=[]
   .subst hz
    rw[a0m rfl,a0R];unfold iR;have A:(hd (c::a)==48)=false:=by rw[a0j];intro e;apply g;apply a1w.1;have:(c.toNat:Int)=48:=e;show c.toNat=48;omega
    rw[A,d]
    by_cases b:(c::a).length<=5
    .rw[a0m b,a0f (by omega)]
     have:=abR (c::a) 0 d;simpa using this
    rw[a0n b,a0g (by omega)];simp
   rw[a0n hz]
  have b:(c::a).length<=5↔yl (c::a) 0<=99999:=by
   constructor
   .intro b
    have:(0+1)*10 ^ (c::a).length<=(0+1)*10 ^ 5:=a0o _ (a1r (by omega) b);omega
   intro b;apply Classical.byContradiction;intro m;have:10 ^ 5<=10 ^ a.length:=a1r (by omega) (by simp at m;omega);omega
  cases hb:bd s
  .obtain⟨x,s',rfl,j⟩:=Dc hb
   obtain⟨k,i⟩:=Md x s' hb;have:iR (fw r)=-1:=by grind [iR,nG]
   rw[this]
   by_cases v:yl (c::a) 0<=99999
   .grind
   grind
  have n:=yj s hb;rw[h.1,h.2,n.1,n.2,l [],a0m rfl]
  by_cases v:yl (c::a) 0<=99999
  .grind
  grind
 rw[a0m (by simp[f])];refine⟨?_,by simp⟩;have:iR (fw r)=-1:=by
  cases r with
  | nil=>rfl
  | cons x r' =>
    have j:nG x=false:=by
     have:lW (hd (x::r'))=false:=by simpa using f
     exact this
    cases hb:bd (x::r')
    .obtain⟨k,i⟩:=Md x r' hb
     rw[i];unfold iR;simp[j]
    rw[(yj _ hb).1];rfl
 rw[this];simp
def aei:∀(L acc:List LB),Asc acc->L.foldl oH acc=L.foldl lM acc
 | [],acc,_=>rfl
 | n::L,acc,h=>by
   simp only[a1R];have e:oH acc n=lM acc n/\Asc (oH acc n):=by grind [oH,lM,akB,ahQ,adT]
   rw[<-e.1];exact aei L _ e.2
theorem aq1(L:List LB):DV L=Ed L:=aei L [] (by simp[Asc])
def C0(l:LB):List LB:=oD false 44 l false false
theorem al3:C0 []=[[]]:=rfl
theorem aej(r:LB):C0 (44::r)=[]::C0 r:=by
 unfold C0;conv=>lhs;unfold oD
 rfl
theorem aij(x:UInt8)(r:LB)(h:x≠44):C0 (x::r)=glue [x] (C0 r):=by
 unfold C0;conv=>lhs;unfold oD
 simp[h]
theorem afT:∀(p s:LB),(∀x∈p,x≠44)->C0 (p++s)=glue p (C0 s)
 | [],s,_=>by
   cases h:C0 s with
   | nil=>exact(Db _ _ _ _ _ h).elim
   | cons=>simp[h,glue]
 | x::p,s,h=>by simp_all[aij,afT,ze]
def asL(l:LB):1<=(C0 l).length:=by grind [C0,Db]
theorem VI(r:LB):fw (44::r)=44::fw r/\wG (44::r)=wG r:=by have:=ma [44] r (by decide);simpa using this
def al4(s:LB)(h:aQ [44] s=false)(hb:bd s=false):∃x s',s=x::s'/\x≠32/\x≠44:=by obtain⟨x,s',rfl,a⟩:=Dc hb;refine⟨x,s',rfl,a,λe=>?_⟩;subst e;have:=(qF [44] s').1;simp at this;rw[this]at h;cases h
def Xv(k:Nat)(acc:List LB)(a:LB):List LB × Bool × LB :=
 if !(aJ (a.takeWhile bK))||decide (4<=acc.length) then ([],false,a.dropWhile bK) else uQ k (acc++[a.takeWhile bK]) (a.dropWhile bK)
def aq2:∀(k:Nat) (acc:List LB) (l:LB),5<=k+acc.length->acc.length<=4 ->
 (if (C0 (fw l)).all aJ&&decide (acc.length+(C0 (fw l)).length<=4) then Xv k acc l=(acc++C0 (fw l),true,wG l) else ((Xv k acc l).2.1&&bd (Xv k acc l).2.2)=false):=by
 intro k
 induction k with
 | zero=>intro acc l B A;omega
 | succ k t =>
 intro acc l B A;have w:clean (l.takeWhile bK)=true:=Nk (p:=bK) (λc h=>⟨(Mc h).1,(Mc h).2.1⟩) _ (nS _ _);have I:∀x∈l.takeWhile bK,x≠44:=λx u=>(Mc (a1d.1 (nS bK l) x u)).2.2.1
 have e:l.takeWhile bK++l.dropWhile bK=l:=a1J;have h:=ma (l.takeWhile bK) (l.dropWhile bK) w;rw[e]at h;have r:=vJ bK l;unfold Xv;generalize l.takeWhile bK=n at *;generalize l.dropWhile bK=s at *;rw[h.1,h.2,afT n _ I];have f:∀x s',s=x::s'->x≠44->x≠32->(glue n (C0 (fw s))).all aJ=false:=by
  intro x s' es b a;subst es;obtain⟨C,G⟩:=Md x s' (by simpa[bd] using a);rw[G,aij x _ b,ze];cases hz:C0 C with
  | nil=>exact(Db _ _ _ _ _ hz).elim
  | cons y Y=>simp only[glue,a1P];rw[a0M,a1h,Gw n x y (r x s' rfl)];rfl
 by_cases d:(!(aJ n)||decide (4<=acc.length))=true
 .rw[a0m d,a0n]
  .simp
  rw[a1a]at d;intro hh;rw[a0O]at hh;rcases d with g|z
  ·
   have i:aJ n=false:=by simpa using g
   cases hb:bd s
   .by_cases ht:aQ [44] s=true
    .have es:=fC _ _ ht
     rw[a1h]at es;rw[es,(VI _).1,aej]at hh;simp[glue,i]at hh
    obtain⟨x,s',es,a,b⟩:=al4 s (by simpa using ht) hb;rw[f x s' es b a]at hh;simp at hh
   simp_all[yj,hb,al3,hh,glue]
  have:4<=acc.length:=by simpa using z
  have m:=asL (fw s);have v:(glue n (C0 (fw s))).length=(C0 (fw s)).length:=by
   cases hz:C0 (fw s) with
   | nil=>rw[hz]at m;simp at m
   | cons=>rfl
  have:=hh.2;rw[v]at this;simp at this;omega
 rw[a0n d];simp only[a1a,not_or,a1j,a0U]at d;have g:aJ n=true:=by simpa using d.1
 have H:acc.length<4:=by omega
 have o:(acc++[n]).isEmpty=false:=by cases acc<;>rfl
 by_cases ht:aQ [44] s=true
 ·
  have es:=fC _ _ ht;rw[a1h]at es;have j:uQ (k+1) (acc++[n]) s=Xv k (acc++[n]) (aK [44] s):=by
   conv=>lhs;unfold uQ
   unfold Xv;rw[o,ht]
   rfl
  rw[j];generalize aK [44] s=s' at *;have:=t (acc++[n]) s' (by simp;omega) (by simp;omega);rw[es,(VI s').1,(VI s').2,aej];have F:acc.length+(C0 (fw s')).length+1=(acc++[n]).length+(C0 (fw s')).length:=by simp;omega
  have E:glue n ([]::C0 (fw s'))=n::C0 (fw s'):=by simp[glue]
  have D:acc++n::C0 (fw s')=(acc++[n])++C0 (fw s'):=by simp
  rw[E,a1P,g,a3k,a0r,<-a2M,F,D];exact this
 have q:aQ [44] s=false:=by simpa using ht
 have j:uQ (k+1) (acc++[n]) s=(acc++[n],true,s):=by
  conv=>lhs;unfold uQ
  rw[o,q]
  rfl
 rw[j];cases hb:bd s
 .obtain⟨x,s',es,a,b⟩:=al4 s q hb
  rw[f x s' es b a];simp
 rw[(yj s hb).1,(yj s hb).2,al3];have:glue n [[]]=[n]:=by simp[glue]
 rw[this,a0m (by simp[g];omega)]
def aq3(r:LB):((C0 (fw r)).all aJ&&decide ((C0 (fw r)).length<=4))=((gL r).2.1&&bd (gL r).2.2)/\((gL r).2.1=true->bd (gL r).2.2=true->C0 (fw r)=(gL r).1/\wG r=(gL r).2.2):=by
 have h:=aq2 5 [] r (by simp) (by simp);have e:gL r=Xv 5 [] r:=by unfold gL uQ Xv;simp
 rw[e];simp only[a1e,a1n,a0V]at h
 by_cases a:((C0 (fw r)).all aJ&&decide ((C0 (fw r)).length<=4))=true
 .grind [afS]
 grind
end
section
variable {α:Type} {A B L S:LN} {b g k pb:Nat} {W w w':World} {o0 o1 o2 o3 o4 v:Value} {vs:List (List Value)} {e t:TypeId} {ops:Array Oper} {rest:List Oper} {a:Act} {E:Prop} {cs:Array Value}
theorem anT(c:UInt8):(if nG c then ((c-48:UInt8),true) else if 97<=c/\c<=102 then (c-97+10,true) else (0,false))=(if 0<=lL c then (UInt8.ofNat (lL c).toNat,true) else (0,false)):=by have:=vO (p:=λc=>decide ((if nG c then ((c-48:UInt8),true) else if 97<=c/\c<=102 then (c-97+10,true) else (0,false))=(if 0<=lL c then (UInt8.ofNat (lL c).toNat,true) else (0,false)))) (by decide +kernel) c;exact a2q this
theorem Ej(c:UInt8)(r:LB):gK (c::r)=if 0<=lL c then (UInt8.ofNat (lL c).toNat,true,r) else (0,false,c::r):=by grind [anT,gK,nG,lL]
theorem aek(a b:Int)(c:0<=a)(hb:0<=b):UInt8.ofNat a.toNat*16+UInt8.ofNat b.toNat=UInt8.ofNat (16*a+b).toNat:=by
 have:(16*a+b).toNat=a.toNat*16+b.toNat:=by omega
 rw[this,UInt8.ofNat_add,UInt8.ofNat_mul]
 rfl
theorem afU(x:UInt8)(t:LB)(h:x≠34)(a:x≠92):oo (x::t) true false=(x::(oo t true false).1,(oo t true false).2):=by
 conv=>lhs;unfold oo
 have c:(x==34)=false:=by simpa using h
 have b:(x==92)=false:=by simpa using a
 rw[c,b];simp
def abS(x:UInt8)(t:LB):oo (92::x::t) true false=(92::x::(oo t true false).1,(oo t true false).2):=by
 conv=>lhs;unfold oo
 simp only[show((92:UInt8)==34)=false from rfl];rw[a0m (by rfl)]
 conv=>lhs;unfold oo
 rfl
def akD(t:LB):oo (34::t) true false=(34::(oo t false false).1,(oo t false false).2):=by
 conv=>lhs;unfold oo
 rfl
theorem anU(t:LB):oo (34::t) false false=(34::(oo t true false).1,(oo t true false).2):=by
 conv=>lhs;unfold oo
 rfl
theorem Nl(a b x y:UInt8)(t:LB):aQ [a,b] (x::y::t)=(a==x&&b==y):=by simp[aQ,List.isPrefixOf]
theorem take1(a x:UInt8)(t:LB):aQ [a] (x::t)=(a==x):=by simp[aQ,List.isPrefixOf]
theorem anV(a b x:UInt8)(t:LB)(h:a≠x):aQ [a,b] (x::t)=false:=by grind [aQ]
theorem rest_of {p l s:LB}(h:l=p++s):aK p l=s:=by subst h;exact(qF p s).2
def anW(l:LB)(a:(pF l).2.1=true)(o:aQ [34] l=false):∃e,l=e++(pF l).2.2/\1<=e.length/\(∀j m acc,dR (j+1) (e++m) acc=dR j m (acc++[(pF l).1]))/\(∀t,oo (e++t) true false=(e++(oo t true false).1,(oo t true false).2)):=by
 unfold pF at *
 by_cases k:aQ [92,34] l=true
 .rw[a0m k]
  have e:=fC _ _ k
  exact⟨[92,34],e,by simp,λj m acc=>by conv=>lhs;unfold dR
                                       rfl,λt=>by have:=abS 34 t;simpa using this⟩
 rw[a0n k]at a |-
 by_cases i:aQ [92,92] l=true
 .rw[a0m i]
  have e:=fC _ _ i
  exact⟨[92,92],e,by simp,λj m acc=>by conv=>lhs;unfold dR
                                       rfl,λt=>by have:=abS 92 t;simpa using this⟩
 rw[a0n i]at a |-
 by_cases h:aQ [92,120] l=true
 .rw[a0m h]at a |-
  have e:=fC _ _ h;generalize aK [92,120] l=r at *;subst e;unfold Ex at *;dsimp only at *;cases r with
  | nil=>simp[gK]at a
  | cons x r =>
    rw[Ej]at a |-
    by_cases d:0<=lL x
    .rw[a0m d]at a |-
     dsimp only at *;cases r with
     | nil=>simp[gK]at a
     | cons y r =>
       rw[Ej]at a |-
       by_cases b:0<=lL y
       .rw[a0m b]at a |-
        dsimp only;refine⟨[92,120,x,y],by simp,by simp,λj m acc=>?_,λt=>?_⟩
        .rw[aek _ _ d b]
         conv=>lhs;unfold dR
         have d1:decide (lL x<0)=false:=a0f (by omega);have u:decide (lL y<0)=false:=a0f (by omega);simp[d1,u,mR]
        have g:∀z:UInt8,0<=lL z->z≠34/\z≠92:=by intro z hz;have:=vO (p:=λc=>!(decide (0<=lL c))||(!(c==34)&&!(c==92))) (by decide +kernel) z;simp[hz]at this;exact this
        have:=abS 120 (x::y::t);rw[afU x _ (g x d).1 (g x d).2,afU y _ (g y b).1 (g y b).2]at this;simpa using this
       grind
    grind
 rw[a0n h]at a |-;cases l with
 | nil=>simp at a
 | cons c r =>
   dsimp only at *
   by_cases f:(!(mR c.toNat)||c==92)=true
   .grind
   rw[a0n f];simp only[a1a,not_or,a1j,a2X,a0W]at f;have n:c≠34:=λe=>by subst e;rw[take1]at o;simp at o
   refine⟨[c],rfl,by simp,λj m acc=>?_,λt=>?_⟩
   .conv=>lhs;unfold dR
    simp only[a1h];have s:(c==34)=false:=by simpa using n
    have q:(c==92)=false:=by simpa using f.2
    rw[s,q,f.1];rfl
   grind [afU]
def abT:∀(k:Nat) (acc l v s:LB),acc.length<=40->tZ k acc l=(v,true,s)->∃m,l=m++34::s/\(∀j,m.length<j->dR j m acc=some v)/\(∀t,oo (m++34::t) true false=(m++34::(oo t false false).1,(oo t false false).2))/\v.length<=40
 | 0,acc,l,v,s,_,h=>by simp[tZ]at h
 | k+1,acc,l,v,s,p,h=>by
   unfold tZ at h
   by_cases a:aQ [34] l=true
   .rw[a0m a]at h
    simp at h;obtain⟨rfl,rfl⟩:=h;have e:=fC _ _ a;refine⟨[],by simpa using e,λj c=>?_,λt=>by simpa using akD t,p⟩;obtain⟨j,rfl⟩:∃b,j=b+1:=⟨j-1,by simp at c;omega⟩
    rfl
   rw[a0n a]at h
   by_cases d:(!(pF l).2.1||decide (40<=acc.length))=true
   .grind
   rw[a0n d]at h;simp only[a1a,not_or,a1j,a2X,a0U]at d;obtain⟨e,he,o,i,r⟩:=anW l d.1 (by simpa using a);obtain⟨m,n,c,q,g⟩:=abT k _ _ v s (by simp;omega) h;refine⟨e++m,by rw[a0M,<-n];exact he,λj f=>?_,λt=>?_,g⟩
   .obtain⟨j,rfl⟩:∃b,j=b+1:=⟨j-1,by omega⟩
    rw[i,c j (by simp at f;omega)]
   grind
def akE(m v:LB)(h:dR (m.length+2) m []=some v)(a:v.length<=40):gV (34::(m++[34]))=(v,true):=by
 unfold gV;have f:decide ((34::(m++[34])).length<2)=false:=a0f (by simp);have e:(hd (34::(m++[34]))==34)=true:=rfl;have d:((34::(m++[34])).getLast?==some 34)=true:=by grind
 have c:((34::(m++[34])).take ((34::(m++[34])).length-1)).drop 1=m:=by simp
 have b:(34::(m++[34])).length=m.length+2:=by simp
 rw[f,e,d,c,b,h];simp[a]
def akF(l v s:LB)(h:qm l=(v,true,s)):∃q,l=34::q++s/\gV (34::q)=(v,true)/\(∀t,fw (34::q++t)=34::q++fw t/\wG (34::q++t)=wG t):=by
 unfold qm at h
 by_cases ht:aQ [34] l=true
 .rw[a0m ht]at h
  have e:=fC _ _ ht;obtain⟨m,d,c,a,b⟩:=abT _ _ _ v s (by simp) h;refine⟨m++[34],by rw[e,d];simp,akE m v (c _ (by omega)) b,λt=>?_⟩;have f:(34::(m++[34])++t)=34::(m++34::t):=by simp
  unfold fw wG;rw[f,anU,a];simp
 grind
def ael(j:Nat)(c:UInt8)(r acc v:LB)(h:dR (j+1) (c::r) acc=some v):∃e n m,c::r=e++m/\1<=e.length/\dR j m (acc++[n])=some v/\∀t,pF (e++t)=(n,true,t)/\aQ [34] (e++t)=false:=by
 unfold dR at h
 by_cases l:(c==34||!(mR c.toNat))=true
 .grind
 rw[a0n l]at h;simp only[a1a,not_or,a1j,a2X,a0W]at l
 by_cases b:(c==92)=true
 .rw[a0m b]at h
  have:c=92:=by simpa using b
  subst this;cases r with
  | nil=>simp at h
  | cons d g =>
    dsimp only at h
    by_cases f:(d==120)=true
    .rw[a0m f]at h
     have:d=120:=by simpa using f
     subst this
     match g,h with
     | [],h=>simp at h
     | [x],h=>simp at h
     | x::y::o,h =>
       dsimp only at h
       by_cases a:(decide (lL x<0)||decide (lL y<0))=true
       .grind
       rw[a0n a]at h;simp only[a1a,not_or,a0U]at a;have k:0<=lL x:=by omega
       have i:0<=lL y:=by omega
       refine⟨[92,120,x,y],_,o,by simp,by simp,h,λt=>⟨?_,by simp[take1]⟩⟩;unfold pF;simp only[a0L,a0V];rw[Nl,Nl,Nl];have q:aK [92,120] (92::120::x::y::t)=x::y::t:=rest_of rfl;rw[q,a0n (by decide),a0n (by decide),a0m (by decide)];unfold Ex;dsimp only;rw[Ej,a0m k];dsimp only;rw[Ej,a0m i,aek _ _ k i]
       rfl
    rw[a0n f]at h
    by_cases a:(!(d==34)&&!(d==92))=true
    .grind
    rw[a0n a]at h;refine⟨[92,d],d,g,by simp,by simp,h,λt=>⟨?_,by simp[take1]⟩⟩;unfold pF;simp only[a0L,a0V];rw[Nl,Nl]
    by_cases hd:d=34
    .subst hd
     rw[a0m (by decide)];exact congrArg _ (congrArg _ (rest_of rfl))
    have p:d=92:=by simp at a;exact a hd
    subst p;rw[a0n (by decide),a0m (by decide)];exact congrArg _ (congrArg _ (rest_of rfl))
 rw[a0n b]at h;have s:c≠92:=by simpa using b
 refine⟨[c],c,r,rfl,by simp,h,λt=>⟨?_,?_⟩⟩
 .grind [pF,anV]
 grind [take1]
def ail:∀(j:Nat) (m acc v:LB),dR j m acc=some v->acc.length<=v.length
 | 0,m,acc,v,h=>by simp[dR]at h
 | j+1,[],acc,v,h=>by simp[dR]at h;subst h;omega
 | j+1,c::r,acc,v,h=>by obtain⟨e,b,m,_,_,a,_⟩:=ael j c r acc v h;have:=ail j m _ v a;simp at this;omega
def Xx:∀(j k:Nat) (m acc v s:LB),dR j m acc=some v->v.length<=40->m.length<k->tZ k acc (m++34::s)=(v,true,s)
 | 0,k,m,acc,v,s,h,_,_=>by simp[dR]at h
 | j+1,0,m,acc,v,s,h,_,f=>by omega
 | j+1,k+1,[],acc,v,s,h,_,_=>by simp[dR]at h;subst h;unfold tZ;have:=qF [34] s;simp only[a1h]at this;rw[a0V,this.1,a0m rfl,this.2]
 | j+1,k+1,c::r,acc,v,s,h,b,f=>by
   obtain⟨e,l,m,he,g,a,ht⟩:=ael j c r acc v h;have d:=ail j m _ v a;simp only[a0p,a0X]at d;rw[he,a0M];unfold tZ;have i:(c::r).length=e.length+m.length:=by rw[he];simp
   rw[(ht _).2,(ht _).1,a0n (by simp),a0n (by simp;omega)];exact Xx j k m _ v s a b (by omega)
def anX(q v:LB)(h:gV q=(v,true)):∃m,q=34::(m++[34])/\dR q.length m []=some v/\v.length<=40:=by
 unfold gV at h
 by_cases b:(decide (q.length<2)||!(hd q==34)||!(q.getLast?==some 34))=true
 .grind
 rw[a0n b]at h;simp only[a1a,not_or,a0U,a1j,a2X,a0W]at b;obtain⟨⟨g,n⟩,p⟩:=b;have e:q=34::(((q.take (q.length-1)).drop 1)++[34]):=by
  cases q with
  | nil=>simp at g
  | cons c r =>
    have j:c=34:=by apply a1w.1;have:(c.toNat:Int)=34:=n;show c.toNat=34;omega
    subst j;have d:r≠[]:=λe=>by subst e;simp at g
    have l:r.getLast d=34:=by grind
    have f:=a2t d;rw[l]at f;have k:(List.take ((34::r).length-1) (34::r)).drop 1=r.dropLast:=by grind
    rw[k,f]
 cases a:dR q.length ((q.take (q.length-1)).drop 1) [] with
 | none=>rw[a]at h;simp at h
 | some o=>rw[a]at h;simp at h;obtain⟨rfl,i⟩:=h;exact⟨_,e,a,i⟩
def Xy(q v s:LB)(h:gV q=(v,true)):qm (q++s)=(v,true,s)/\∃a,q=34::a:=by
 obtain⟨m,rfl,c,b⟩:=anX q v h;refine⟨?_,_,rfl⟩;have e:(34::(m++[34])++s)=34::(m++34::s):=by simp
 rw[e];unfold qm;have:=qF [34] (m++34::s);simp only[a1h]at this;rw[this.1,a0m rfl,this.2];exact Xx _ _ m [] v s c b (by simp;omega)
def qG(m:CM):RM:=(m.1,jr m.2.1,m.2.2)
def aim(l:LB)(h:(jq l).2.1=true):l=jr (jq l).1++(jq l).2.2:=by
 unfold jq at *
 by_cases c:aQ [61,126] l=true
 .rw[a0m c];exact fC _ _ c
 rw[a0n c]at h |-
 by_cases b:aQ [33,126] l=true
 .rw[a0m b];exact fC _ _ b
 rw[a0n b]at h |-
 by_cases a:aQ [33,61] l=true
 .rw[a0m a];exact fC _ _ a
 rw[a0n a]at h |-;exact fC _ _ h
theorem ain(k:Nat)(h:k<=3):k=0\/k=1\/k=2\/k=3:=by omega
theorem afV(k:Nat)(a:k<=3)(t:LB):jq (jr k++34::t)=(k,true,34::t):=by grind [ain,jr,jq,Nl,take1,aK,rest_of]
def aem(k:Nat):∃x t,jr k=x::t/\(x=61\/x=33):=by
 unfold jr
 split
 .exact⟨_,_,rfl,.inr rfl⟩
 split
 .exact⟨_,_,rfl,.inl rfl⟩
 split
 .exact⟨_,_,rfl,.inr rfl⟩
 exact⟨_,_,rfl,.inl rfl⟩
def afW(k:Nat):clean (jr k)=true:=by
 unfold jr
 split
 .decide
 split
 .decide
 split<;>decide
def aen {p:UInt8->Bool}(n:LB)(x:UInt8)(t:LB)(b:n.all p=true)(a:p x=false):(n++x::t).takeWhile p=n/\(n++x::t).dropWhile p=x::t:=by simp_all
theorem anY(c:UInt8):(!(bK c)||qy c)=true:=vO (p:=λc=>!(bK c)||qy c) (by decide +kernel) c
def akG(n:LB)(h:n.all bK=true):n.all qy=true:=by grind [anY]
def aeo(n:LB)(h:aJ n=true):n.all bK=true:=by grind [aJ]
theorem akH(n:LB)(k:Nat)(q v:LB)(d:aJ n=true)(g:k<=3)(hq:gV q=(v,true)):rV (n++(jr k++q))=((n,jr k,v),true):=by
 obtain⟨_,a,rfl⟩:=Xy q v [] hq;have h:=akG n (aeo n d);obtain⟨x,t,e,f⟩:=aem k;have b:qy x=false:=by rcases f with rfl|rfl<;>decide
 have c:=aen n x (t++34::a) h b;rw[<-a0L,<-e]at c;unfold rV;rw[c.1,c.2];dsimp only;rcases ain k g with rfl|rfl|rfl|rfl
 .have e:jr 0++34::a=61::34::a:=rfl
  rw[e];have s2:ui (61::34::a)=false:=by simp[ui]
  have s1:CJ (61::34::a)=true:=by simp[CJ,hd]
  rw[s2,s1];simp[hq,d,jr]
 .grind [jr,ui]
 .grind [jr,ui]
 grind [jr,ui]
def axk(r:LB)(h:CJ r=true):∃t,r=61::t:=by
 unfold CJ at h;cases r with
 | nil=>simp at h
 | cons c t=>simp only[a0O,a0W]at h;have:(c.toNat:Int)=61:=h.2;have:c=61:=a1w.1 (by show c.toNat=61;omega);exact⟨t,by rw[this]⟩
def aq4(h:LB)(m:RM)(e:rV h=(m,true)):∃n k q v,h=n++(jr k++q)/\k<=3/\aJ n=true/\gV q=(v,true)/\m=(n,jr k,v):=by
 have d:h.takeWhile qy++h.dropWhile qy=h:=a1J;unfold rV at e;dsimp only at e;generalize h.takeWhile qy=n at *;generalize h.dropWhile qy=r at *
 by_cases c:ui r=true
 .rw[a0m c]at e
  simp only[Prod.mk.injEq,a0O]at e;obtain⟨rfl,g,b⟩:=e;unfold ui at c;simp only[a0O,a0U,a1a,a0W]at c;have f:r=r.take 2++r.drop 2:=(a1C 2 r).symm;have hq:gV (r.drop 2)=((gV (r.drop 2)).1,true):=by rw[<-g]
  rcases c.2 with(a|a)|a
  .exact⟨n,2,r.drop 2,_,by rw[<-d];conv=>lhs;rw[f,a]
                           rfl,by omega,b,hq,by rw[a];rfl⟩
  .exact⟨n,3,r.drop 2,_,by rw[<-d];conv=>lhs;rw[f,a]
                           rfl,by omega,b,hq,by rw[a];rfl⟩
  exact⟨n,1,r.drop 2,_,by rw[<-d];conv=>lhs;rw[f,a]
                          rfl,by omega,b,hq,by rw[a];rfl⟩
 rw[a0n c]at e
 by_cases i:CJ r=true
 .rw[a0m i]at e
  obtain⟨t,rfl⟩:=axk r i;simp only[Prod.mk.injEq,a0O]at e;obtain⟨rfl,g,b⟩:=e;have hq:gV t=((gV t).1,true):=by grind
  exact⟨n,0,t,_,by rw[<-d];rfl,by omega,b,hq,rfl⟩
 grind
theorem aio(n:LB)(k:Nat)(q v s:LB)(g:aJ n=true)(i:k<=3)(hq:gV q=(v,true)):kF (n++(jr k++q)++s)=((n,k,v),true,s):=by
 have f:=Xy q v s hq;obtain⟨b,rfl⟩:=f.2;obtain⟨x,t,e,h⟩:=aem k;have c:bK x=false:=by rcases h with rfl|rfl<;>decide
 have d:=aen n x (t++34::(b++s)) (aeo n g) c;rw[<-a0L,<-e]at d;have j:n++(jr k++34::b)++s=n++(jr k++34::(b++s)):=by simp
 rw[j];unfold kF;dsimp only;rw[d.1,d.2,afV k i];dsimp only;have a:=f.1;rw[a0L]at a;rw[a,g];rfl
def asM(r:LB):(rV (fw r)).2=((kF r).2.1&&bd (kF r).2.2)/\((kF r).2.1=true->bd (kF r).2.2=true->(rV (fw r)).1=qG (kF r).1/\wG r=(kF r).2.2):=by
 have fwd:(kF r).2.1=true->bd (kF r).2.2=true->rV (fw r)=(qG (kF r).1,true)/\wG r=(kF r).2.2:=by
  intro f g;unfold kF at *;dsimp only at *;simp only[a0O]at f;obtain⟨⟨b,d⟩,t⟩:=f;have B:r.takeWhile bK++r.dropWhile bK=r:=a1J;have x:clean (r.takeWhile bK)=true:=Nk (p:=bK) (λc h=>⟨(Mc h).1,(Mc h).2.1⟩) _ (nS _ _);have A:=aim _ d;have C:=adf (r.dropWhile bK);generalize r.takeWhile bK=n at *;generalize r.dropWhile bK=o at *;generalize E:jq o=K at *;obtain⟨k,kb,l2⟩:=K;dsimp only at *;generalize y:qm l2=V at *;obtain⟨v,D,s⟩:=V;dsimp only at *;subst t;obtain⟨q,z,u,w⟩:=akF l2 v s y;have m:=ma n (jr k++(34::q++s)) x;have l:=ma (jr k) (34::q++s) (afW k);have j:=w s;have i:=yj s g;have a:r=n++(jr k++(34::q++s)):=by rw[<-B,A,z]
  rw[a,m.1,m.2,l.1,l.2,j.1,j.2,i.1,i.2,a0R,akH n k (34::q) v b C u];exact⟨rfl,rfl⟩
 have bwd:(rV (fw r)).2=true->(kF r).2.1=true/\bd (kF r).2.2=true:=by intro h;obtain⟨n,k,q,v,e,d,b,hq,_⟩:=aq4 (fw r) (rV (fw r)).1 (by rw[<-h]);have a:=Nj r;rw[e]at a;rw[a,aio n k q v (wG r) b d hq];exact⟨rfl,afS r⟩
 refine⟨?_,λf g=>?_⟩
 .grind
 grind
def S5(l:LB):Option Bool:=if (aK iq l).isEmpty then some (aQ iq l) else none
theorem ava(l:LB)(h:bd l=false):S5 l=none:=by grind [S5,aqY,aK,iq,Dc]
def VJ(W:List LB):Option Bool:=if (W.length==1)&&(W.getD 0 []==EI) then some true else if W.isEmpty then some false else none
theorem avb(l:LB)(h:bd l=true):S5 l=VJ (tw l):=by
 cases l with
 | nil=>rfl
 | cons x r =>
   have:x=32:=by simpa[bd] using h
   subst this;rw[Ad,EM];unfold VJ S5
   by_cases a:aQ iq (32::r)=true
   .have e:=fC _ _ a
    have b:r=EI++aK iq (32::r):=by grind [EI,aK,iq]
    rw[a];generalize aK iq (32::r)=s at *;subst b;have f:=ma EI s (by decide);rw[f.1,f.2];cases s with
    | nil=>rfl
    | cons y s =>
      simp only[a1I];rw[a0n (by simp)];cases hb:bd (y::s)
      .obtain⟨i,b⟩:=Md y s hb
       rw[b];rw[a0n]
       .rfl
       simp
      simp[yj,hb,Ad,EM]
   have c:aK iq (32::r)=32::r:=by unfold aQ at a;unfold aK;rw[a0n a]
   rw[c];simp only[a1I];rw[a0n (by simp),a0n]
   .rfl
   intro hh;apply a;simp only[a0r,a0O,a0W]at hh;have g:wG r=[]:=(asJ _).1 (by omega);have d:fw r=EI:=by simpa using hh.2
   have:=Nj r;rw[g,d,a0R]at this;rw[this];decide
def afX(k:Nat)(W:List LB)(acc:List RM)(h:QQ wIf W=false):(if (dO (k+1) W acc).2.2 then some ((dO (k+1) W acc).1,(dO (k+1) W acc).2.1) else none)=if acc.length<=4 then (VJ W).map (λb=>(acc,b)) else none:=by grind [dO,QQ,VJ,EI]
theorem Xz:∀(k:Nat) (W:List LB) (acc:List RM),4<acc.length->(dO k W acc).2.2=false
 | 0,W,acc,h=>rfl
 | k+1,W,acc,h=>by
   unfold dO
   split
   .split
    .exact Xz k _ _ (by simp;omega)
    rfl
   grind
def S4g(k:Nat)(acc:List CM)(l:LB):Option (List CM × Bool):=if (wP k acc l).2.1 then (S5 (wP k acc l).2.2).map (λb=>((wP k acc l).1,b)) else none
def R4g(k:Nat)(acc:List RM)(W:List LB):Option (List RM × Bool):=if (dO k W acc).2.2 then some ((dO k W acc).1,(dO k W acc).2.1) else none
theorem aip(k:Nat)(acc:List CM)(l:LB)(h:bd l=false):S4g (k+1) acc l=none:=by grind [S4g,wP,aQ,tq,Ug,ava]
def aep:∀(k k2:Nat) (acc:List CM) (l:LB),6<=k+acc.length->acc.length<=4->bd l=true->(tw l).length<k2->(S4g k acc l).map (λx=>(x.1.map qG,x.2))=R4g k2 (acc.map qG) (tw l)
 | 0,k2,acc,l,s,r,_,_=>by omega
 | k+1,0,acc,l,s,r,hb,y=>by omega
 | k+1,k2+1,acc,l,s,r,hb,y=>by
   have c:QQ wIf (tw l)=aQ tq l:=akC wIf l (by decide) hb
   by_cases ht:aQ tq l=true
   .have p:=abO wIf l (by decide) ht
    have u:(tw l).getD 1 []=fw (aK tq l):=p.1;have m:(tw l).drop 2=tw (wG (aK tq l)):=p.2;rw[ht]at c;have hlen:1<(tw l).length:=by grind [QQ]
    have q:=asM (aK tq l);have g:R4g (k2+1) (acc.map qG) (tw l)=if (rV (fw (aK tq l))).2 then R4g k2 (acc.map qG++[(rV (fw (aK tq l))).1]) (tw (wG (aK tq l))) else none:=by
     unfold R4g;have e:dO (k2+1) (tw l) (acc.map qG)=if (rV (fw (aK tq l))).2 then dO k2 (tw (wG (aK tq l))) (acc.map qG++[(rV (fw (aK tq l))).1]) else (acc.map qG,false,false):=by
      conv=>lhs;unfold dO
      unfold QQ at c;rw[c,u,m];rfl
     rw[e]
     by_cases v:(rV (fw (aK tq l))).2=true
     .grind
     grind
    have w:S4g (k+1) acc l=if !(kF (aK tq l)).2.1||decide (4<=acc.length) then none else S4g k (acc++[(kF (aK tq l)).1]) (kF (aK tq l)).2.2:=by
     unfold S4g;have e:wP (k+1) acc l=if !(kF (aK tq l)).2.1||decide (4<=acc.length) then (acc,false,(kF (aK tq l)).2.2) else wP k (acc++[(kF (aK tq l)).1]) (kF (aK tq l)).2.2:=by
      conv=>lhs;unfold wP
      rw[ht];rfl
     rw[e]
     by_cases v:(!(kF (aK tq l)).2.1||decide (4<=acc.length))=true
     .grind
     grind
    rw[g,w,q.1];generalize z:kF (aK tq l)=X at *;obtain⟨x,f,d⟩:=X;dsimp only at *;cases f
    .simp
    cases i:bd d
    .by_cases a:4<=acc.length
     .simp[a]
     obtain⟨n,rfl⟩:∃n,k=n+1:=⟨k-1,by omega⟩;rw[a0n (by simp[a]),aip _ _ _ i];simp
    have j:=q.2 rfl i
    by_cases a:4<=acc.length
    .have:R4g k2 (acc.map qG++[(rV (fw (aK tq l))).1]) (tw (wG (aK tq l)))=none:=by unfold R4g;rw[Xz _ _ _ (by simp;omega)];rfl
     rw[this];simp[a]
    rw[a0n (by simp[a]),j.1,j.2];have o:=aep k k2 (acc++[x]) d (by simp;omega) (by simp;omega) i (by
     have:(tw d).length=(tw l).length-2:=by rw[<-j.2,<-m,a2F]
     omega)
    rw[a0P]at o;rw[o];simp
   have t:aQ tq l=false:=by simpa using ht
   rw[t]at c;have h:=afX k2 (tw l) (acc.map qG) c;have g:R4g (k2+1) (acc.map qG) (tw l)=(VJ (tw l)).map (λb=>(acc.map qG,b)):=by grind [R4g]
   rw[g];unfold S4g wP;rw[t];simp only[a0A,a0I,a0G];rw[avb l hb];cases VJ (tw l)<;>simp
def S4(l:LB):Option (List CM × Bool):=S4g 6 [] l
theorem avc(l:LB)(h:bd l=false):S4 l=none:=aip 5 [] l h
def R4(W:List LB):Option (List RM × Bool):=R4g (W.length+1) [] W
theorem avd(l:LB)(h:bd l=true):(S4 l).map (λx=>(x.1.map qG,x.2))=R4 (tw l):=aep 6 _ [] l (by simp) (by simp) h (a3j _)
def abU(p:LB)(c:clean p=true)(F:LB->Int->Option α)(G:List LB->Int->Option α)(hF:∀l n,bd l=false->F l n=none)(hG:∀l n,bd l=true->F l n=G (tw l) n)(l:LB)(hb:bd l=true) :
 (if (bZ (32::(p++[32])) l).2.1 then F (bZ (32::(p++[32])) l).2.2 (bZ (32::(p++[32])) l).1 else none)=(if QQ p (tw l) then (if decide (iR ((tw l).getD 1 [])<0) then none else G ((tw l).drop 2) (iR ((tw l).getD 1 []))) else G (tw l) (-1)):=by
 rw[akC p l c hb];unfold bZ
 by_cases ht:aQ (32::(p++[32])) l=true
 .have b:=abO p l c ht
  have e:=asK (aK (32::(p++[32])) l);simp only[a0m ht];rw[b.1,b.2];generalize aK (32::(p++[32])) l=r at *;generalize f:lI r=N at *;obtain⟨n,a,d⟩:=N;dsimp only at *;cases a
  .grind
  grind
 grind
def akI(p:LB)(F:LB->Int->Option α)(hF:∀l n,bd l=false->F l n=none)(l:LB)(hb:bd l=false) :
 (if (bZ (32::p) l).2.1 then F (bZ (32::p) l).2.2 (bZ (32::p) l).1 else none)=none:=by simp_all[bZ,Ug,hb]
def by_step(F:LB->Bool->List LB->Option α)(G:List LB->Bool->List LB->Option α)(hF:∀l t n,bd l=false->F l t n=none)(hG:∀l t n,bd l=true->F l t n=G (tw l) t n)(l:LB)(hb:bd l=true) :
 (if (lK l).ok then F (lK l).rest (lK l).tells (lK l).names else none)=(match qX (tw l) with | none=>none|some (told,names,W)=>G W told names):=by
 have q:=akC wBy l (by decide) hb;have b:QQ wBy (tw l)=aQ [32,98,121,32] l:=q;unfold qX;unfold QQ at b;rw[b];unfold lK
 by_cases ht:aQ [32,98,121,32] l=true
 .have k:=abO wBy l (by decide) ht
  have m:(tw l).getD 1 []=fw (aK [32,98,121,32] l):=k.1;have o:(tw l).drop 2=tw (wG (aK [32,98,121,32] l)):=k.2;simp only[a0m ht];rw[m,o];generalize aK [32,98,121,32] l=r at *
  by_cases a:aQ [45] r=true
  .simp only[a0m a]
   have e:=fC _ _ a;generalize aK [45] r=s at *;subst e;have f:=ma [45] s (by decide);rw[f.1,f.2];cases g:bd s
   .obtain⟨x,s',rfl,_⟩:=Dc g
    obtain⟨c,w⟩:=Md x s' g;rw[w];simp only[a0G];rw[hF _ _ _ g];have i:([45]++x::c == [45])=false:=by simp
    rw[i];have v:(dU false 44 ([45]++x::c)).all aJ=false:=by
     rw[Ue];have:=afT [45] (x::c) (by simp);unfold C0 at this;rw[this];cases hz:oD false 44 (x::c) false false with
     | nil=>exact(Db _ _ _ _ _ hz).elim
     | cons y Y=>have:=Gw [] 45 y (by decide);simp only[glue,a1P];rw[a0V]at this;rw[a1h,this];rfl
    rw[v];simp
   simp_all[yj,hG]
  simp only[a0n a];have i:(fw r == [45])=false:=by grind [Nj,qF]
  rw[i];have p:=aq3 r;have u:dU false 44 (fw r)=C0 (fw r):=Ue _ _ _;rw[u,p.1];generalize gL r=z at *;obtain⟨A,d,j⟩:=z;dsimp only at *;cases d
  .simp
  cases h:bd j
  .simp[hF j _ _ h]
  simp_all[aq1,hG]
 grind
def qN(c:CR):RR:=⟨c.rc,c.tb,c.jM,c.wt,c.ev,c.rp,c.ifs.map qG,c.co,c.d⟩
def F0(d:Nat)(rc:LB)(told:Bool)(names:List LB)(t0 t1 t2:Int)(l:LB):Option RR:=(S4 l).map λx=>⟨rc,told,names,t0,t1,t2,x.1.map qG,x.2,d⟩
def G0(d:Nat)(rc:LB)(told:Bool)(names:List LB)(t0 t1 t2:Int)(W:List LB):Option RR:=(R4 W).map λx=>⟨rc,told,names,t0,t1,t2,x.1,x.2,d⟩
def aq5(d:Nat)(rc:LB)(told:Bool)(names:List LB)(t0 t1 t2:Int)(l:LB)(h:bd l=false):F0 d rc told names t0 t1 t2 l=none:=by grind [F0,avc]
def ave(d:Nat)(rc:LB)(told:Bool)(names:List LB)(t0 t1 t2:Int)(l:LB)(h:bd l=true):F0 d rc told names t0 t1 t2 l=G0 d rc told names t0 t1 t2 (tw l):=by unfold F0 G0;rw[<-avd l h];cases S4 l<;>rfl
def F1(d:Nat)(rc:LB)(told:Bool)(names:List LB)(t0 t1:Int)(l:LB):Option RR:=if (bZ rO l).2.1 then F0 d rc told names t0 t1 (bZ rO l).1 (bZ rO l).2.2 else none
def F2(d:Nat)(rc:LB)(told:Bool)(names:List LB)(t0:Int)(l:LB):Option RR:=if (bZ pV l).2.1 then F1 d rc told names t0 (bZ pV l).1 (bZ pV l).2.2 else none
def F3(d:Nat)(rc:LB)(told:Bool)(names:List LB)(l:LB):Option RR:=if (bZ qo l).2.1 then F2 d rc told names (bZ qo l).1 (bZ qo l).2.2 else none
def VK(d:Nat)(rc:LB)(told:Bool)(names:List LB)(k:Nat)(a:Int × Int × Int)(W:List LB):Option RR:=match nO k a W with | none=>none|some (a,W2)=>G0 d rc told names a.1 a.2.1 a.2.2 W2
def aq6(d:Nat)(rc:LB)(told:Bool)(names:List LB)(t0 t1:Int)(l:LB)(h:bd l=false):F1 d rc told names t0 t1 l=none:=by have:=akI (rW++[32]) (λl n=>F0 d rc told names t0 t1 n l) (λl n h=>aq5 _ _ _ _ _ _ _ l h) l h;exact this
def aq7(d:Nat)(rc:LB)(told:Bool)(names:List LB)(t0:Int)(l:LB)(h:bd l=false):F2 d rc told names t0 l=none:=by have:=akI (vQ++[32]) (λl n=>F1 d rc told names t0 n l) (λl n h=>aq6 _ _ _ _ _ _ l h) l h;exact this
theorem aq8(d:Nat)(rc:LB)(told:Bool)(names:List LB)(l:LB)(h:bd l=false):F3 d rc told names l=none:=by have:=akI (Az++[32]) (λl n=>F2 d rc told names n l) (λl n h=>aq7 _ _ _ _ _ l h) l h;exact this
theorem VL(d:Nat)(rc:LB)(told:Bool)(names:List LB)(k:Nat)(a:Int × Int × Int)(W:List LB):VK d rc told names (k+1) a W=if QQ (alP k) W then (if decide (iR (W.getD 1 [])<0) then none else VK d rc told names k (aqi k a (iR (W.getD 1 []))) (W.drop 2)) else VK d rc told names k a W:=by
 unfold VK;have e:nO (k+1) a W=if QQ (alP k) W then (if decide (iR (W.getD 1 [])<0) then none else nO k (aqi k a (iR (W.getD 1 []))) (W.drop 2)) else nO k a W:=by
  conv=>lhs;unfold nO
  rfl
 rw[e]
 by_cases b:QQ (alP k) W=true
 .grind
 simp only[a0n b]
def avf(d:Nat)(rc:LB)(told:Bool)(names:List LB)(t0 t1:Int)(l:LB)(h:bd l=true):F1 d rc told names t0 t1 l=VK d rc told names 1 (t0,t1,-1) (tw l):=by have:=abU rW (by decide) (λl n=>F0 d rc told names t0 t1 n l) (λW n=>VK d rc told names 0 (t0,t1,n) W) (λl n h=>aq5 _ _ _ _ _ _ _ l h) (λl n h=>ave _ _ _ _ _ _ _ l h) l h;rw[VL];exact this
def avg(d:Nat)(rc:LB)(told:Bool)(names:List LB)(t0:Int)(l:LB)(h:bd l=true):F2 d rc told names t0 l=VK d rc told names 2 (t0,-1,-1) (tw l):=by have:=abU vQ (by decide) (λl n=>F1 d rc told names t0 n l) (λW n=>VK d rc told names 1 (t0,n,-1) W) (λl n h=>aq6 _ _ _ _ _ _ l h) (λl n h=>avf _ _ _ _ _ _ l h) l h;rw[VL];exact this
def avh(d:Nat)(rc:LB)(told:Bool)(names:List LB)(l:LB)(h:bd l=true):F3 d rc told names l=VK d rc told names 3 (-1,-1,-1) (tw l):=by have:=abU Az (by decide) (λl n=>F2 d rc told names n l) (λW n=>VK d rc told names 2 (n,-1,-1) W) (λl n h=>aq7 _ _ _ _ _ l h) (λl n h=>avg _ _ _ _ _ l h) l h;rw[VL];exact this
def F4(d:Nat)(rc:LB)(l:LB):Option RR:=if (lK l).ok then F3 d rc (lK l).tells (lK l).names (lK l).rest else none
theorem avi(d:Nat)(rc:LB)(l:LB)(h:bd l=false):F4 d rc l=none:=by grind [F4,lK,Ug,aq8]
def G4(d:Nat)(rc:LB)(W:List LB):Option RR:=match qX W with | none=>none|some (told,names,W1)=>VK d rc told names 3 (-1,-1,-1) W1
theorem avj(d:Nat)(rc:LB)(l:LB)(h:bd l=true):F4 d rc l=G4 d rc (tw l) :=
 by_step (λl t n=>F3 d rc t n l) (λW t n=>VK d rc t n 3 (-1,-1,-1) W) (λl t n h=>aq8 _ _ _ _ l h) (λl t n h=>avh _ _ _ _ l h) l h
def F5(d:Nat)(l:LB):Option RR:=if (eZ l).2.1 then F4 d (eZ l).1 (eZ l).2.2 else none
theorem avk(d:Nat)(r:LB):F5 d r=if aJ (fw r)||(fw r == [45]) then G4 d (fw r) (tw (wG r)) else none:=by
 have h:=aq0 r;rw[h.1];unfold F5;generalize eZ r=z at *;obtain⟨c,a,b⟩:=z;dsimp only at *;cases a
 .simp
 cases hb:bd b
 .simp[avi _ _ _ hb]
 simp_all[hb,avj]
theorem anZ(t:LB):(gM t).map qN=if aQ lC (bO t).2 then F5 (bO t).1 (aK lC (bO t).2) else none:=by
 rw[aat];unfold F5 F4 F3 F2 F1 F0 S4 S4g;have m:srA t=eZ (aK lC (bO t).2):=rfl;have eb:Mo t=lK (srA t).2.2:=rfl;have i:Ym t=dN (Mo t).rest:=rfl;have em:Ut t=wP 6 [] (Ym t).rest:=rfl
 by_cases l:aQ lC (bO t).2=true
 .rw[a0m l,a0m l,<-m]
  by_cases k:(srA t).2.1=true
  .rw[a0m k,a0m k,<-eb]
   by_cases j:(Mo t).ok=true
   .rw[a0m j,a0m j]
    generalize n:Ym t=c at *;unfold dN at i;dsimp only at i;subst i;dsimp only at *;generalize bZ qo (Mo t).rest=a at *;generalize bZ pV a.2.2=b at *;generalize bZ rO b.2.2=c at *
    by_cases h:a.2.1=true
    .by_cases d:b.2.1=true
     .by_cases g:c.2.1=true
      .rw[a0m (by simp[h,d,g]),a0m h,a0m d,a0m g,<-em]
       by_cases f:(Ut t).2.1=true
       .rw[a0m f,a0m f]
        unfold S5
        by_cases e:(aK iq (Ut t).2.2).isEmpty=true
        .rw[a0m e,a0m e];rfl
        rw[a0n e,a0n e];rfl
       rw[a0n f,a0n f];rfl
      rw[a0n (by simp[g]),a0m h,a0m d,a0n g];rfl
     rw[a0n (by simp[d]),a0m h,a0n d];rfl
    grind
   grind
  grind
 grind
theorem avl(d:Nat)(W:List LB):rtW d W=if decide (W.length<2)||!(W.getD 0 []==Bn) then none else if aJ (W.getD 1 [])||(W.getD 1 [] == [45]) then G4 d (W.getD 1 []) (W.drop 2) else none:=by
 unfold rtW
 by_cases a:(decide (W.length<2)||!(W.getD 0 []==Bn))=true
 .rw[a0m a,a0m a]
 rw[a0n a,a0n a]
 by_cases b:(aJ (W.getD 1 [])||(W.getD 1 [] == [45]))=true
 .rw[a0m b,a0n (by intro h;simp only[a0O,a1j]at h;rw[h.1,h.2]at b;simp at b)]
  unfold G4;cases qX (W.drop 2) with
  | none=>rfl
  | some x =>
    obtain⟨told,names,e⟩:=x;dsimp only;unfold VK;cases nO 3 (-1,-1,-1) e with
    | none=>rfl
    | some y =>
      obtain⟨f,c⟩:=y;dsimp only;unfold G0 R4 R4g
      by_cases g:(dO (c.length+1) c []).2.2=true
      .grind
      grind
 grind
theorem an0(t:LB):yY t=(gM t).map qN:=by
 rw[anZ];unfold yY;rw[avl,Ue];generalize (bO t).2=l;generalize (bO t).1=d;have g:oD true 32 l false false=fw l::tw (wG l):=EM l;rw[g]
 by_cases h:aQ lC l=true
 .rw[a0m h]
  have e:=fC _ _ h;generalize aK lC l=r at *;have i:l=Bn++32::r:=e;subst i;have f:=ma Bn (32::r) (by decide);have b:=yj (32::r) rfl;rw[f.1,f.2,b.1,b.2,Ad,EM,avk];simp;intro h;omega
 rw[a0n h,a0m];simp only[a1a,a0U,a0r,a1j,List.getD_cons_zero]
 by_cases c:fw l=Bn
 .left
  by_cases a:wG l=[]
  .rw[a,al2];simp
  exfalso
  obtain⟨r,e⟩:=aih (afS l) a;apply h;have:=Nj l;rw[c,e]at this;rw[this];exact(qF lC r).1
 right;simpa using c
def D0(c:UInt8)(l:LB):List LB:=oD false c l false false
theorem Y3(c:UInt8):D0 c []=[[]]:=rfl
theorem VM(c:UInt8)(r:LB):D0 c (c::r)=[]::D0 c r:=by
 unfold D0;conv=>lhs;unfold oD
 simp
theorem Uh(c x:UInt8)(r:LB)(h:x≠c):D0 c (x::r)=glue [x] (D0 c r):=by
 unfold D0;conv=>lhs;unfold oD
 simp[h]
theorem Me(c:UInt8)(l:LB):D0 c l≠[]:=Db _ _ _ _ _
theorem afY(c:UInt8):∀(p s:LB),(∀x∈p,x≠c)->D0 c (p++s)=glue p (D0 c s)
 | [],s,_=>by
   cases h:D0 c s with
   | nil=>exact(Me c s h).elim
   | cons=>simp[h,glue]
 | x::p,s,h=>by simp_all[Uh,afY,ze]
theorem aud(c:UInt8)(l:LB):dU false c l=D0 c l:=Ue _ _ _
def aiq(c:UInt8)(l:LB):∃h W,D0 c l=h::W/\(∀x r,l=x::r->x≠c->∃d,h=x::d):=by
 cases l with
 | nil=>exact⟨[],[],rfl,by simp⟩
 | cons x r =>
   by_cases a:x=c
   .subst a;exact⟨[],D0 x r,VM _ _,λy r' e b=>by simp at e;exact(b e.1.symm).elim⟩
   cases hz:D0 c r with
   | nil=>exact(Me c r hz).elim
   | cons y Y=>exact⟨x::y,Y,by rw[Uh c x r a,hz];rfl,λz r' e _=>by simp at e;exact⟨y,by rw[e.1]⟩⟩
theorem aq9:∀(k:Nat) (acc:List LB) (l:LB),9<=k+acc.length->acc.length<=8 ->
 DW (k+1) acc l=(match l with
  | []=>if 0<acc.length then some acc else none
  | x::r=>if x=32/\(D0 32 r).all aJ/\acc.length+(D0 32 r).length<=8 then some (acc++D0 32 r) else none):=by
 intro k
 induction k with
 | zero=>intro acc l o m;omega
 | succ k j =>
 intro acc l o m;unfold DW;cases l with
 | nil =>
   have:aQ [32] []=false:=rfl;rw[this]
   by_cases p:0<acc.length<;>simp[p]
 | cons x r =>
   by_cases c:x=32
   .subst c
    have ht:=qF [32] r;rw[a1h]at ht;rw[a0m ht.1];dsimp only;rw[ht.2];have e:r.takeWhile bK++r.dropWhile bK=r:=a1J;have f:∀x∈r.takeWhile bK,x≠32:=λx c=>(Mc (a1d.1 (nS bK r) x c)).1
    have i:=vJ bK r;have t:D0 32 r=glue (r.takeWhile bK) (D0 32 (r.dropWhile bK)):=by rw[<-afY 32 _ _ f,e]
    rw[t];generalize r.takeWhile bK=n at *;generalize r.dropWhile bK=s at *;obtain⟨h,W,a,hh⟩:=aiq 32 s;rw[a];simp only[glue,a1P,a0r];have u:aJ (n++h)=true->aJ n=true/\(s=[]\/∃r',s=32::r'):=by
     intro b;cases s with
     | nil=>rw[Y3]at a;simp at a;obtain⟨rfl,_⟩:=a;rw[a0R]at b;exact⟨b,.inl rfl⟩
     | cons y s' =>
       by_cases g:y=32
       .grind [VM]
       obtain⟨q,rfl⟩:=hh y s' rfl g;rw[Gw n y q (i y s' rfl)]at b;cases b
    by_cases d:(!(aJ n)||decide (8<=acc.length))=true
    .grind
    rw[a0n d];simp only[a1a,not_or,a1j,a2X,a0U]at d;rw[j (acc++[n]) s (by simp;omega) (by simp;omega)];cases s with
    | nil=>rw[Y3]at a;simp at a;obtain⟨rfl,rfl⟩:=a;simp[d.1];omega
    | cons y s' =>
      dsimp only
      by_cases g:y=32
      .grind [VM,D0,aJ]
      grind
   grind [aQ,take1]
theorem ara(t:LB):abq t=iW t:=by
 unfold abq iW;rw[aud]
 by_cases ht:aQ mU t=true
 .rw[a0m ht]
  have e:=fC _ _ ht;generalize aK mU t=l at *;subst e;rw[afY 32 mU l (by decide),aq9 9 [] l (by simp) (by simp)];cases l with
  | nil=>rfl
  | cons x r =>
    dsimp only
    by_cases a:x=32
    .grind [VM,D0,Me,glue,mU,aJ]
    obtain⟨h,W,f,hh⟩:=aiq 32 (x::r);obtain⟨i,rfl⟩:=hh x r rfl a;rw[f,a0n (by simp[glue]),a0n (λh=>a h.1)]
 rw[a0n ht,a0n];intro hh;apply ht;simp only[a0O,a0W]at hh;have b:=hh.1.1.1;have g:1<(D0 32 t).length:=by simpa using hh.1.1.2
 have key:∀(l:LB) (h:LB) (W:List LB),D0 32 l=h::W->∃s,l=h++s:=by
  intro l
  induction l with
  | nil=>intro h W e;rw[Y3]at e;simp at e;exact⟨[],by rw[e.1];rfl⟩
  | cons x r c =>
    intro h W e
    by_cases a:x=32
    .simp_all[VM]
    rw[Uh 32 x r a]at e;cases hz:D0 32 r with
    | nil=>exact(Me _ _ hz).elim
    | cons y Y=>rw[hz]at e;simp[glue]at e;obtain⟨s,d⟩:=c y Y hz;exact⟨s,by rw[<-e.1,d];rfl⟩
 cases hz:D0 32 t with
 | nil=>exact(Me _ _ hz).elim
 | cons h W =>
   rw[hz]at b;have:h=mU:=by simpa using b
   subst this;obtain⟨s,rfl⟩:=key t _ W hz;exact(qF mU s).1
def al6(x:Except Nat (List LB × List CR)):Except Nat (List LB × List RR):=match x with | .error n=>.error n | .ok (L,C)=>.ok (L,C.map qN)
theorem avm(x:LB)(W:List LB)(a:W≠[])(i:Nat)(L:List LB)(R:List RR):sO (x::W) i L R=if i==0 then (match abq x with | none=>.error 1|some L'=>sO W 1 L' R) else (match yY x with | none=>.error (i+1)|some r=>sO W (i+1) L (R++[r])):=by
 cases W with
 | nil=>exact(a rfl).elim
 | cons y W=>conv=>lhs;unfold sO
             rfl
theorem Nn:∀(l:LB) (i:Nat) (cur:LB) (L:List LB) (C:List CR),sO (glue cur (D0 10 l)) i L (C.map qN)=al6 (yw l (i+1) cur L C)
 | [],i,cur,L,C=>by grind [Y3,glue,sO,yw,al6]
 | c::r,i,cur,L,C=>by
   unfold yw
   by_cases f:c=10
   .subst f
    rw[VM];simp only[glue,a0R];have b:((10:UInt8)==10)=true:=rfl;rw[avm _ _ (Me _ _),b,ara,an0];simp only[a0G];have d:D0 10 r=glue [] (D0 10 r):=by
     cases h:D0 10 r with
     | nil=>exact(Me _ _ h).elim
     | cons=>rfl
    by_cases a:i=0
    .subst a
     rw[a0m (by rfl),a0m (by rfl)];cases e:iW cur with
     | none=>rfl
     | some k=>dsimp only;rw[d];exact Nn r 1 [] k C
    have j:(i==0)=false:=by simpa using a
    have g:(i+1==1)=false:=by simpa using a
    rw[j,g];simp only[a0A,a0I];cases e:gM cur with
    | none=>rfl
    | some x=>simp only[a1x];rw[d];have:=Nn r (i+1) [] L (C++[x]);rw[a0P]at this;exact this
   simp_all[Uh,ze,Nn]
theorem akJ(t:LB):sO (dU false 10 t) 0 [] []=al6 (oV t):=by
 have:=Nn t 0 [] [] [];have a:glue [] (D0 10 t)=D0 10 t:=by
  cases h:D0 10 t with
  | nil=>exact(Me _ _ h).elim
  | cons=>rfl
 rw[a]at this;rw[aud];exact this
theorem air:∀(C:List CR) (i:Nat) (a:Nat),0<i->pX (C.map qN) i (a+1)=lD C i a
 | [],i,a,_=>rfl
 | c::C,i,a,g=>by
   rw[a0E];unfold pX lD;have b:(i==0)=false:=by rw[a0j];omega
   have f:uX i (qN c)=false:=by unfold uX;rw[b];rfl
   rw[f,b];have hd:(qN c).d=c.d:=rfl;simp only[a0A,a0I];have e:((!false&&!(qY i (a+1) (qN c)))||decide (5<(qN c).d)||decide (16<=i))=(!(jN (c.d:Int) (a:Int))||decide (16<=i)):=by grind [qY,jN,hd]
   rw[e,hd,air C (i+1) c.d (by omega)]
theorem an1(C:List CR):pX (C.map qN) 0 0=lD C 0 0:=by
 cases C with
 | nil=>rfl
 | cons c C =>
   rw[a0E];unfold pX lD;have a:uX 0 (qN c)=nW c:=by simp[uX,nW,qN]
   have hb:qY 0 0 (qN c)=false:=by unfold qY;rfl
   have hd:(qN c).d=c.d:=rfl;rw[a,hb,hd];have e:((!(nW c)&&!false)||decide (5<c.d)||decide (16<=0))=(!(if (0==0)=true then nW c else jN (c.d:Int) 0)||decide (16<=0)):=by grind [nW]
   rw[e,air C 1 c.d (by omega)]
theorem an3(C:List CR):uJ (C.map qN)=iX C:=by simp[uJ,iX,an1]
theorem ais(L:List LB):∀(C:List CR) (i:Nat),lN L (C.map qN) i=xM L C i
 | [],i=>rfl
 | c::C,i=>by rw[a0E];unfold lN xM;rw[ais L C (i+1)];rfl
def axl(x:Except (Nat × Nat) (List LB × List CR)):Except (Nat × Nat) (List LB × List RR):=match x with | .error n=>.error n | .ok (L,C)=>.ok (L,C.map qN)
theorem arb(t:LB):sF t=axl (jH t):=by
 unfold sF jH
 by_cases a:1200<t.length
 .rw[a0m a,a0m a];rfl
 rw[a0n a,a0n a,akJ];cases oV t with
 | error n=>rfl
 | ok x =>
   obtain⟨L,C⟩:=x;simp only[al6];have e:xh L (C.map qN)=if 0<iX C then (3,iX C) else if 0<mr L C then (4,mr L C) else (0,0):=by grind [xh,mr,an3,ais,iX,mq,xM]
   rw[e]
   by_cases c:0<iX C
   .simp only[a0m c];rfl
   simp only[a0n c]
   by_cases b:0<mr L C
   .simp only[a0m b];rfl
   simp only[a0n b];rfl
def asN(c:CR)(h:xN c)(hd:c.d<=5):alQ (qN c):=by
 refine⟨by show c.d<=9000;omega,?_,h.byl,λn f=>xO (h.jM n f),h.wt,h.ev,h.rp,by show(c.ifs.map qG).length<=4;rw[a0y];exact h.ifl,λm i=>?_⟩
 .rcases h.rc with e|e
  .show c.rc.length<=8;rw[e];simp
  exact xO e
 have a:m∈c.ifs.map qG:=i;rw[a0q]at a;obtain⟨x,b,rfl⟩:=a;have g:=h.ifs x b;exact⟨xO g.name,by show(jr x.2.1).length<=2;unfold jr;split<;>(try split)<;>(try split)<;>simp,g.val⟩
def nb:Nat->Nat->LB
 | 0,_=>[]
 | n+1,v=>nb n (v / 256)++[UInt8.ofNat (v % 256)]
theorem cz:∀n v,(nb n v).length=n
 | 0,_=>rfl
 | n+1,v=>by rw[nb,a0p,cz n];rfl
abbrev PT(α:Type):Type:=LB->Option (α × LB)
structure gz where
 k:Nat
 cl:LN
 acc:LN
 nx:LN
structure jd where
 n:Nat
 k:Nat
 x:Nat
structure kN where
 rc:LB
 bl:List LB
 wt:Nat
 ev:Nat
 rp:Nat
structure bX where
 op:Nat
 x:Nat
 a:Nat
 b:Nat
def stands(d nt n i:Nat)(c:bX):Bool :=
 match c.op with
 | 0=>c.x==0&&c.a==0&&c.b==0
 | 1=>decide (c.x<d)&&(decide (i<c.a)&&decide (c.a<n))&&c.b==0
 | 2=>decide (c.x<nt)&&(decide (i<c.a)&&decide (c.a<n))&&(decide (i<c.b)&&decide (c.b<n))
 | _=>false
structure mP where
 names:List LB
 consts:List LB
 uM:List gz
 tests:List jd
 lF:List kN
 code:List bX
def qO:LB:=[79,66,49]
def eT(t:LB):LB:=nb 1 t.length++t
def sQ(l:List LB):LB:=nb 1 l.length++l.flatMap eT
def eA(a:gz):LB:=nb 1 a.acc.length++(nb 2 a.k++(a.cl.flatMap (nb 1)++(a.acc.flatMap (nb 1)++a.nx.flatMap (nb 1))))
def FD(t:jd):LB:=nb 1 t.n++(nb 1 t.k++nb 1 t.x)
def eH(h:kN):LB:=eT h.rc++(sQ h.bl++(nb 3 h.wt++(nb 3 h.ev++nb 3 h.rp)))
def eI(c:bX):LB:=nb 1 c.op++(nb 1 c.x++(nb 2 c.a++nb 2 c.b))
def eM(m:mP):LB:=qO++(sQ m.names++(sQ m.consts++((nb 1 m.uM.length++m.uM.flatMap eA)++((nb 1 m.tests.length++m.tests.flatMap FD)++((nb 1 m.lF.length++m.lF.flatMap eH)++(nb 2 m.code.length++m.code.flatMap eI))))))
def Bo(n:LB):Prop:=n.length<9/\aJ n=true
structure Gr(a:gz):Prop where
 s1:1<=a.acc.length
 s2:a.acc.length<=40
 k1:1<=a.k
 k2:a.k<=256
 cl:a.cl.length=256
 cls:∀c∈a.cl,c<a.k
 acc:∀c∈a.acc,c<2
 nx:a.nx.length=a.acc.length*a.k
 nxs:∀c∈a.nx,c<a.acc.length
structure Lu(nn nc na:Nat)(t:jd):Prop where
 n:t.n<nn
 k:t.k<2
 x:t.x<if t.k=1 then na else nc
structure afH(h:kN):Prop where
 rc:Bo h.rc
 b1:h.bl.length<5
 b2:∀n∈h.bl,Bo n
 wt:h.wt<100000
 ev:h.ev<100000
 rp:h.rp<100000
structure awT(nr nt n i:Nat)(c:bX):Prop where
 s:stands nr nt n i c=true
 op:c.op<3
 x:c.x<256
 a:c.a<65536
 b:c.b<65536
structure MOK(m:mP):Prop where
 names:m.names.length<256/\∀n∈m.names,Bo n
 consts:m.consts.length<256/\∀n∈m.consts,n.length<41
 uM:m.uM.length<256/\∀a∈m.uM,Gr a
 tests:m.tests.length<256/\∀t∈m.tests,Lu m.names.length m.consts.length m.uM.length t
 lF:m.lF.length<17/\∀h∈m.lF,afH h
 code:1<=m.code.length/\m.code.length<65536/\∀j (h:j<m.code.length),awT m.lF.length m.tests.length m.code.length j m.code[j]
def RW(A:LN)(k:Nat)(w:World)(v:Value)(vs:List (List Value)):Prop :=
 ∃a cap,v=.slice a vs.length cap/\vs.length<=cap/\∀(j:Nat) (h:j<vs.length),∃g off,a=some (zB g off)/\g∉A/\g<w.heap.size/\∀c x,vs[j][c]?=some x->w.cell? (zB g (off+j*k+c))=some x
theorem RW.aC(h:RW A k w v vs)(f:aB S w w')(m:∀g∈S,g∈A):RW A k w' v vs:=by obtain⟨a,cap,rfl,q,o⟩:=h;refine⟨a,cap,rfl,q,λj l=>?_⟩;obtain⟨g,off,rfl,d,b,n⟩:=o j l;exact⟨g,off,rfl,d,a0t b f.size,λc x e=>(f.cell (p:=(zB g (off+j*k+c))) b (λi=>d (m g i))).trans (n c x e)⟩
def RW.cO(h:RW A k w v vs)(d:∀g∈B,g∈A\/w.heap.size<=g):RW B k w v vs:=by
 obtain⟨a,cap,rfl,m,l⟩:=h;refine⟨a,cap,rfl,m,λj c=>?_⟩;obtain⟨g,off,rfl,i,f,e⟩:=l j c;refine⟨g,off,rfl,λb=>?_,f,e⟩;rcases d g b with h|h
 .exact i h
 omega
theorem RW.nil(A:LN)(k:Nat)(w:World):RW A k w zN []:=⟨none,0,rfl,a0b _,λj a=>absurd a (by simp)⟩
def OW(e:TypeId)(k base:Nat)(w:World)(v:Value)(vs:List (List Value)):Prop:=w.ownsRow base e k v vs.length vs.flatten/\∀x∈vs,x.length=k
theorem OW.nil(e:TypeId)(k base:Nat)(w:World):OW e k base w zN []:=⟨World.ownsRow_nil w base e k,by simp⟩
theorem OW.aC{base:Nat}(h:OW e k base w v vs)(f:aB S w w')(a:∀g∈S,g<base):OW e k base w' v vs:=⟨fG h.1 f a,h.2⟩
def OW.shape{base:Nat}(h:OW e k base w v vs):∃a cap,v=.slice a vs.length cap:=by
 rcases h.1.2 with⟨e,b⟩|⟨g,cap,cur,e,_⟩
 .grind
 exact⟨_,_,e⟩
theorem OW.lt{base:Nat}(h:OW e k base w v vs)(a:v.ownBlock=some g):base<=g/\g<w.heap.size:=h.1.lt g a
def OW.empty(e:TypeId)(k base:Nat)(w:World)(hb:base<=w.heap.size):OW e k base (w.alloc (.cells #[] e)) (zS w.heap.size 0 0) []:=by refine⟨⟨by simp,.inr ⟨w.heap.size,0,#[],rfl,hb,?_,a0b _,by unfold maxLen;omega,by simp,by simp⟩⟩,by simp⟩;show(w.heap.push (.cells #[] e))[w.heap.size]?=_;simp
def abr:∀(vs:List (List Value)),(∀x∈vs,x.length=k)->∀(j:Nat) (h:j<vs.length) (c:Nat) (x:Value),vs[j][c]?=some x->vs.flatten[j*k+c]?=some x
 | [],_,j,h,_,_,_=>absurd h (by simp)
 | y::vs,a,0,_,c,x,b=>by grind
 | y::vs,a,j+1,h,c,x,b=>by have d:=a y (by simp);have e:(j+1)*k=j*k+k:=Nat.succ_mul j k;rw[List.flatten_cons,a0K (by omega),show(j+1)*k+c-y.length=j*k+c by omega];exact abr vs (λz hz=>a z (by simp[hz])) j (by simpa using h) c x (by simpa using b)
theorem OW.rw{base:Nat}(h:OW e k base w v vs)(i:∀g,v.ownBlock=some g->g∉A):RW A k w v vs:=by
 rcases h.1.2 with⟨rfl,n⟩|⟨g,cap,cur,rfl,hb,f,b,m,l,ht⟩
 .grind [RW.nil,RW]
 refine⟨_,cap,rfl,b,λj d=>⟨g,0,rfl,i g rfl,(a0c.1 f).1,λc x a=>?_⟩⟩;have:=World.ownsRow.cells h.1 (g:=g) rfl (j*k+c) x (abr vs h.2 j d c x a)
 rwa [add0,show j*k+c=0+j*k+c by omega]at this
def kg {z:Value}(h:(Tryz.prog.info? e).map (λi=>(i.zero,i.size,i.bytes))=some (some z,k,b)):∃i,Tryz.prog.info? e=some i/\i.zero=some z/\i.size=k/\i.bytes=b:=by simp_all
def qD {o:Oper} {Q:Exit->Act->World->Prop}(w:World)(m:o.guard=none)(s x:Operand)(t e:TypeId)(z:Value)(k c:Nat)
 (I:(Tryz.prog.info? e).map (λi=>(i.zero,i.size,i.bytes))=some (some z,k,c)) (ht:Tryz.prog.underlying t=some (.slice e)) (H:z.cells.size=k) (G:0<k)
 (ho:o.op=.call { callee:=.builtin .append,args:=#[s,x],argTypes:=#[t,t] })
 (base:Nat) (v:Value) (vs:List (List Value)) (b1:Nat) (cs:List Value) (r:a.eval s=v) (f:OW e k base w v vs) (p:a.eval x=zS b1 1 1)
 (d:cs.length=k) (J:∀j u,cs[j]?=some u->zC w b1 j u) (q:∀u∈cs,u.oneCell'=true) (hlen:(vs.length+1)*c<=140737488355328) (M:vs.length<=140737488355328) (l:base<=w.heap.size)
 (h:∀g cap w',OW e k base w' (zS g (vs.length+1) cap) (vs++[cs])->w.grownBy w' v.ownBlock->(v.ownBlock=some g\/g=w.heap.size)->g<w'.heap.size->wpList Tryz.prog ops Q rest (a.put o.dst (zS g (vs.length+1) cap)) w') :
 wpList Tryz.prog ops Q (o::rest) a w:=by
 obtain⟨n,A,gT,F,E⟩:=kg I;refine wpList_append_lies w m s x t ho base e n z k c ht A gT F E H G v vs.length vs.flatten r f.1 (zA b1) 1 1 cs p (by rw[d];omega) ?_ q (by decide) (by unfold maxLen;omega) hlen l w.heap.size rfl ?_
 .grind [add0]
 intro g cap w' L D C B;refine h g cap w' ⟨?_,?_⟩ D C B
 .grind
 intro y b;rw[a0e,a0w]at b;rcases b with b|rfl
 .exact f.2 y b
 exact d
structure V6 where
 n:Value
 c:Value
 a:Value
 t:Value
 r:Value
 i:Value
def sc(L:List LB):List (List Value):=L.map λs=>[zT s]
theorem abt(L:List LB)(s:LB):sc L++[[zT s]]=sc (L++[s]):=by simp[sc]
theorem iC(L:List LB):(sc L).length=L.length:=by simp[sc]
def ant {o:Oper} {Q:Exit->Act->World->Prop}(w:World)(d:o.guard=none)(s x:Operand)
 (ho:o.op=.call { callee:=.builtin .append,args:=#[s,x],argTypes:=#[44,44] })
 (base:Nat) (v:Value) (acc:List LB) (b1:Nat) (y:LB) (f:a.eval s=v) (j:OW 9 1 base w v (sc acc)) (e:a.eval x=zS b1 1 1)
 (k:zC w b1 0 (zT y)) (hlen:acc.length<=1000000) (c:base<=w.heap.size)
 (h:∀g cap w',OW 9 1 base w' (zS g (acc.length+1) cap) (sc (acc++[y]))->w.grownBy w' v.ownBlock->(v.ownBlock=some g\/g=w.heap.size)->g<w'.heap.size->wpList Tryz.prog ops Q rest (a.put o.dst (zS g (acc.length+1) cap)) w') :
 wpList Tryz.prog ops Q (o::rest) a w:=by
 have i:=iC acc;refine qD w d s x 44 9 (.string ByteArray.empty) 1 16 uY Tryz.underlying44 rfl (by decide) ho base v (sc acc) b1 [zT y] f j e rfl ?_ ?_ (by omega) (by omega) c ?_
 .grind
 .intro u b
  simp at b;subst b;rfl
 rw[i,abt];exact h
theorem aB.over{T:LN} {a b c:World}(h:aB T a b)(k:aB S b c)(j:∀x∈S,a.heap.size<=x\/x∈T):aB T a c :=
 ⟨k.os.trans h.os,k.tape.trans h.tape,k.output.trans h.output,a0h h.size k.size,λi e f=>by rw[k.block i (a0t e h.size) (λg=>by rcases j i g with d|d;exact absurd d (by omega);exact f d)];exact h.block i e f⟩
def bc(L:LN):List (List Value):=L.map λa=>[.bool (a==1)]
def ic(L:LN):List (List Value):=L.map λ(n:Nat)=>[zI n]
theorem aqp(L:LN)(s:Nat):ic L++[[zI (s:Nat)]]=ic (L++[s]):=by simp[ic]
theorem afI(L:LN):(bc L).length=L.length:=by simp[bc]
theorem TM(L:LN):(ic L).length=L.length:=by simp[ic]
def anu {o:Oper} {Q:Exit->Act->World->Prop}(w:World)(d:o.guard=none)(s x:Operand)
 (ho:o.op=.call { callee:=.builtin .append,args:=#[s,x],argTypes:=#[100,100] })
 (base:Nat) (v:Value) (acc:LN) (b1:Nat) (y:Nat) (f:a.eval s=v) (j:OW 3 1 base w v (ic acc)) (e:a.eval x=zS b1 1 1)
 (k:zC w b1 0 (zI (y:Nat))) (hlen:acc.length<=1000000) (c:base<=w.heap.size)
 (h:∀g cap w',OW 3 1 base w' (zS g (acc.length+1) cap) (ic (acc++[y]))->w.grownBy w' v.ownBlock->(v.ownBlock=some g\/g=w.heap.size)->g<w'.heap.size->wpList Tryz.prog ops Q rest (a.put o.dst (zS g (acc.length+1) cap)) w') :
 wpList Tryz.prog ops Q (o::rest) a w:=by
 have i:=TM acc;refine qD w d s x 100 3 (zI 0) 1 8 ZB Tryz.underlying100 rfl (by decide) ho base v (ic acc) b1 [zI (y:Nat)] f j e rfl ?_ ?_ (by omega) (by omega) c ?_
 .grind
 .intro u b
  simp only[a0w]at b;subst b;rfl
 rw[i,aqp];exact h
theorem OW.aY{base:Nat}(h:OW e k base w v vs)(f:aB S w w')(c:∀r,v.ownBlock=some r->r∉S):OW e k base w' v vs:=by
 refine⟨⟨h.1.1,?_⟩,h.2⟩;rcases h.1.2 with b|⟨g,cap,cur,rfl,hb,a,rest⟩
 .exact .inl b
 exact .inr ⟨g,cap,cur,rfl,hb,(f.block g (a0c.1 a).1 (c g rfl)).trans a,rest⟩
theorem OW.base{base b2:Nat}(h:OW e k base w v vs)(hb:b2<=base):OW e k b2 w v vs:=by
 refine⟨⟨h.1.1,?_⟩,h.2⟩;rcases h.1.2 with a|⟨g,cap,cur,rfl,b,rest⟩
 .exact .inl a
 exact .inr ⟨g,cap,cur,rfl,by omega,rest⟩
def CU {o:Oper} {K:Act->World->Prop} {Q:Exit->Act->World->Prop}(w:World)(l:o.guard=none)(s x:Operand)(t e:TypeId)(z:Value)(k c:Nat)
 (I:(Tryz.prog.info? e).map (λi=>(i.zero,i.size,i.bytes))=some (some z,k,c)) (ht:Tryz.prog.underlying t=some (.slice e)) (G:z.cells.size=k) (F:0<k)
 (ho:o.op=.call { callee:=.builtin .append,args:=#[s,x],argTypes:=#[t,t] })
 (base:Nat) (v:Value) (vs:List (List Value)) (b1:Nat) (cs:Array Value) (fr:Nat × Nat) (p:a.eval s=v) (d:OW e k base w v vs) (n:a.eval x=zS b1 1 1)
 (f:cs.size=k) (hb:w.heap[b1]?=some (.cells cs e fr)) (J:cs.all (·.oneCell')=true) (hlen:(vs.length+1)*c<=140737488355328) (M:vs.length<=140737488355328) (j:base<=w.heap.size) (H:Nat) (r:w.heap.size=H)
 (h:∀g cap w',OW e k base w' (zS g (vs.length+1) cap) (vs++[cs.toList])->w.grownBy w' v.ownBlock->(v.ownBlock=some g\/g=H)->g<w'.heap.size->K (a.put o.dst (zS g (vs.length+1) cap)) w') :
 if Region.wanted o (yielded ops a.tmps)=true then Oper.wp Tryz.prog o a w K Q else E:=by
 obtain⟨m,q,gT,D,C⟩:=kg I;refine step_append_lies w l s x t ho base e m z k c ht q gT D C G F v vs.length vs.flatten p d.1 (zA b1) 1 1 cs.toList n (by rw[a3o,f];omega) (World.news_of_block hb) ?_ (by decide) (by unfold maxLen;omega) hlen j H r ?_
 .grind [Array.all_eq_true_iff_forall_mem]
 intro g cap w' L B A u;refine h g cap w' ⟨?_,?_⟩ B A u
 .grind
 intro y b;rw[a0e,a0w]at b;rcases b with b|rfl
 .exact d.2 y b
 grind
def kV(x:jd):Array Value:=#[zI (x.n:Nat),zI (x.k:Nat),zI (x.x:Nat)]
def tc(L:List jd):List (List Value):=L.map λx=>(kV x).toList
def akj(x:jd):(kV x).all (·.oneCell')=true:=by simp[kV,Value.oneCell']
theorem YX(L:List jd):(tc L).length=L.length:=by simp[tc]
theorem aqr(L:List jd)(x:jd):tc L++[(kV x).toList]=tc (L++[x]):=by simp[tc]
def anv:(Tryz.prog.info? 104).map (λi=>(i.zero,i.size,i.bytes))=some (some (.agg #[zI 0,zI 0,zI 0]),3,24):=by kernel_rfl
structure TQ(α:Type) where
 rel:LN->World->Array Value->α->Prop
 aC:∀{A S:LN} {w w':World} {cs:Array Value} {x:α},rel A w cs x->aB S w w'->(∀g∈S,g∈A)->rel A w' cs x
 cO:∀{A B:LN} {w:World} {cs:Array Value} {x:α},rel A w cs x->(∀g∈B,g∈A\/w.heap.size<=g)->rel B w cs x
def dV{α:Type}(I:TQ α)(A:LN)(w:World)(a:List (Array Value))(xs:List α):Prop:=a.length=xs.length/\∀(n:Nat) cs x,a[n]?=some cs->xs[n]?=some x->I.rel A w cs x
theorem dV.nil(I:TQ α)(A:LN)(w:World):dV I A w [] []:=⟨rfl,λn cs x h=>by simp at h⟩
theorem dV.aC {I:TQ α} {a:List (Array Value)} {xs:List α}(h:dV I A w a xs)(f:aB S w w')(b:∀g∈S,g∈A):dV I A w' a xs:=⟨h.1,λn cs x d c=>I.aC (h.2 n cs x d c) f b⟩
def dV.cO {I:TQ α} {a:List (Array Value)} {xs:List α}(h:dV I A w a xs)(b:∀g∈B,g∈A\/w.heap.size<=g):dV I B w a xs:=⟨h.1,λn cs x d c=>I.cO (h.2 n cs x d c) b⟩
theorem dV.snoc {I:TQ α} {e:List (Array Value)} {xs:List α} {x:α}(h:dV I A w e xs)(f:I.rel A w cs x):dV I A w (e++[cs]) (xs++[x]):=by
 refine⟨by simp[h.1],λn c y d b=>?_⟩;rcases Nat.lt_trichotomy n e.length with a|a|a
 .rw[a0s a]at d
  rw[a0s (by rw[<-h.1];exact a)]at b;exact h.2 n c y d b
 .subst a
  rw[a0K (a0b _)]at d;rw[a0K (by rw[h.1];exact a0b _),h.1]at b;simp at d b;subst d b;exact f
 grind
theorem dV.app {I:TQ α} {row:Option Nat} {b:List (Array Value)} {xs:List α}(h:dV I (A++row.toList) w b xs)(c:w.grownBy w' row)(i:row=some g\/g=w.heap.size):dV I (A++[g]) w' b xs:=by
 have f:dV I (A++(g::row.toList)) w b xs:=h.cO (by
  intro x a;simp at a;rcases a with a|rfl|a
  .left;simp[a]
  .grind
  left;simp[a])
 have d:dV I (A++(g::row.toList)) w' b xs:=f.aC (S:=row.toList) ((aB.refl row.toList w).grown c (λr e=>.inl (by simp[e]))) (by intro x a;simp at a;simp[a]);exact d.cO (by intro x a;left;simp at a |-;rcases a with a|a<;>simp[a])
def fZ(a:List (Array Value)):List (List Value):=a.map (·.toList)
theorem jA(a:List (Array Value)):(fZ a).length=a.length:=by simp[fZ]
theorem Gi(a:List (Array Value))(c:Array Value):fZ a++[c.toList]=fZ (a++[c]):=by simp[fZ]
def Lv(x:gz)(b a:Value):Array Value:=(Value.int .i64 x.k::(nv .u8 x.cl++[b,a])).toArray
def adY:TQ gz where
 rel A w cs x:=∃b a,cs=Lv x b a/\RW A 1 w b (bc x.acc)/\RW A 1 w a (ic x.nx)
 aC:=by rintro A S w w' cs x ⟨b,a,e,d,c⟩ f g;exact⟨b,a,e,d.aC f g,c.aC f g⟩
 cO:=by rintro A B w cs x ⟨b,a,e,d,c⟩ h;exact⟨b,a,e,d.cO h,c.cO h⟩
def ahU:(Tryz.prog.info? 102).map (λi=>(i.zero,i.size,i.bytes))=some (some (.agg Tryz.zeroCells102),259,312):=by kernel_rfl
def Lx {o:Oper} {K:Act->World->Prop} {Q:Exit->Act->World->Prop}(w:World)(b:o.guard=none)(x:Operand)(ho:o.op=.load 102 x)(g:Nat)(c:a.eval x=zP g)(cs:Array Value)(e:(loadVar 102 (zA g)).run Tryz.prog w=.ok (.agg cs) w)(h:K (a.put o.dst (.agg cs)) w) :
 if Region.wanted o (yielded ops a.tmps)=true then Oper.wp Tryz.prog o a w K Q else E:=by
 have d:Region.wanted o (yielded ops a.tmps)=true:=by simp[Region.wanted,b]
 rw[a0m d];exact H9 x ho g c cs e h
def AA {o:Oper} {K:Act->World->Prop} {Q:Exit->Act->World->Prop}(w:World)(d:o.guard=none)(x:Operand)(ho:o.op=.buildSlice 51 1 #[(0,x)])(cs:Array Value)(g:a.eval x=.agg cs)(j:cs.size=259)(h:K (a.put o.dst (zS w.heap.size 1 1)) (w.alloc (.cells cs 102))) :
 if Region.wanted o (yielded ops a.tmps)=true then Oper.wp Tryz.prog o a w K Q else E:=by
 have i:Region.wanted o (yielded ops a.tmps)=true:=by simp[Region.wanted,d]
 rw[a0m i];obtain⟨f,k,gT,b,m⟩:=kg ahU;refine wp_buildSlice 51 102 1 _ ho cs f _ Tryz.underlying51 k gT (by rw[b];decide) (by rw[b];decide) ?_ h;have e:((#[(0,x)]:Array (Nat × Operand)).map λ(y:Nat × Operand)=>(y.1,a.eval y.2)).toList=(([Value.agg cs]:List Value).zipIdx 0).map λy=>(y.2,y.1):=by simp[g]
 have l:=Great.fill_whole (s:=259) (by omega) [Value.agg cs] ((Array.range (1*259)).map ((Value.agg Tryz.zeroCells102).cells[· % (Value.agg Tryz.zeroCells102).cells.size]!)) (by intro v c;simp at c;subst c;exact j) (by simp);rw[b];refine Eq.trans (congrArg _ e) (l.trans ?_);simp[Value.cells]
def RW.str {L:List LB}(h:RW A 1 w v (sc L)):∃a cap,v=.slice a L.length cap/\∀(j:Nat) (b:j<L.length),∃g off,a=some (zB g off)/\g<w.heap.size/\zC w g (off+j) (.string (bs L[j])):=by
 obtain⟨a,cap,rfl,i,f⟩:=h;refine⟨a,cap,by rw[iC],λj b=>?_⟩;obtain⟨g,off,e,_,d,c⟩:=f j (by rw[iC];exact b);refine⟨g,off,e,d,?_⟩;have:=c 0 (.string (bs L[j])) (by simp[sc])
 rwa [a1H,a1Q]at this
def aO(x:kN)(a:Value):Array Value:=#[zT x.rc,a,zI (x.wt:Nat),zI (x.ev:Nat),zI (x.rp:Nat)]
def Gj:TQ kN where
 rel A w cs x:=∃a,cs=aO x a/\RW A 1 w a (sc x.bl)
 aC:=by rintro A S w w' cs x ⟨a,c,b⟩ f d;exact⟨a,c,b.aC f d⟩
 cO:=by rintro A B w cs x ⟨a,c,b⟩ e;exact⟨a,c,b.cO e⟩
abbrev hz:Array Value:=#[.string ByteArray.empty,zN,zI 0,zI 0,zI 0]
def aqs:(Tryz.prog.info? 106).map (·.size)=some 5:=by kernel_rfl
def yZ(e d c b a:Value)(h:w.heap[g]?=some (.cells #[o0,o1,o2,o3,o4] t (0,0))):(((((w.setCell (zA g) e).setCell (zB g 1) d).setCell (zB g 2) c).setCell (zB g 3) b).setCell (zB g 4) a).heap[g]?=some (.cells #[e,d,c,b,a] t (0,0)):=by simp[World.setCell,a0v,h]
def l8(w:World)(g:Nat)(e d c b a:Value):aB [g] w (((((w.setCell (zA g) e).setCell (zB g 1) d).setCell (zB g 2) c).setCell (zB g 3) b).setCell (zB g 4) a) :=
 (((((aB.refl [g] w).setCell (p:=(zA g)) (.inl (by simp)) e).setCell (p:=(zB g 1)) (.inl (by simp)) d).setCell (p:=(zB g 2)) (.inl (by simp)) c).setCell (p:=(zB g 3)) (.inl (by simp)) b).setCell (p:=(zB g 4)) (.inl (by simp)) a
def Gl(h:w.heap[g]?=some (.cells cs 106 (0,0)))(a:cs.size=5):(loadVar 106 (zA g)).run Tryz.prog w=.ok (.agg cs) w :=
 run_loadVar_row w g 106 106 cs (0,0) _ h Tryz.underlying106 rfl (by rw[a];exact aqs)
def CV:(Tryz.prog.info? 106).map (λi=>(i.zero,i.size,i.bytes))=some (some (.agg hz),5,64):=by kernel_rfl
def jT(x:bX):Array Value:=#[zI (x.op:Nat),zI (x.x:Nat),zI (x.a:Nat),zI (x.b:Nat)]
def akk(x:bX):(jT x).all (·.oneCell')=true:=by simp[jT,Value.oneCell']
def uj(L:List bX):List (List Value):=L.map λx=>(jT x).toList
theorem CZ(L:List bX):(uj L).length=L.length:=by simp[uj]
theorem Nb(L:List bX)(x:bX):uj L++[(jT x).toList]=uj (L++[x]):=by simp[uj]
def TS:(Tryz.prog.info? 109).map (λi=>(i.zero,i.size,i.bytes))=some (some (.agg #[zI 0,zI 0,zI 0,zI 0]),4,32):=by kernel_rfl
def VB(d c b a:Value)(h:w.heap[g]?=some (.cells #[o0,o1,o2,o3] t (0,0))):((((w.setCell (zA g) d).setCell (zB g 1) c).setCell (zB g 2) b).setCell (zB g 3) a).heap[g]?=some (.cells #[d,c,b,a] t (0,0)):=by simp[World.setCell,a0v,h]
def Nc(w:World)(g:Nat)(d c b a:Value):aB [g] w ((((w.setCell (zA g) d).setCell (zB g 1) c).setCell (zB g 2) b).setCell (zB g 3) a) :=
 ((((aB.refl [g] w).setCell (p:=(zA g)) (.inl (by simp)) d).setCell (p:=(zB g 1)) (.inl (by simp)) c).setCell (p:=(zB g 2)) (.inl (by simp)) b).setCell (p:=(zB g 3)) (.inl (by simp)) a
structure PG(A:LN)(w:World)(V:V6)(m:mP):Prop where
 n:RW A 1 w V.n (sc m.names)
 c:RW A 1 w V.c (sc m.consts)
 a:∃bB,RW A 259 w V.a (fZ bB)/\dV adY A w bB m.uM
 t:RW A 3 w V.t (tc m.tests)
 r:∃bB,RW A 5 w V.r (fZ bB)/\dV Gj A w bB m.lF
 i:RW A 4 w V.i (uj m.code)
theorem PG.aC {V:V6} {m:mP}(h:PG A w V m)(f:aB S w w')(b:∀g∈S,g∈A):PG A w' V m:=by obtain⟨o,l,k⟩:=h.a;obtain⟨d,j,e⟩:=h.r;exact⟨h.n.aC f b,h.c.aC f b,⟨o,l.aC f b,k.aC f b⟩,h.t.aC f b,⟨d,j.aC f b,e.aC f b⟩,h.i.aC f b⟩
def PG.cO {V:V6} {m:mP}(h:PG A w V m)(b:∀g∈B,g∈A\/w.heap.size<=g):PG B w V m:=by obtain⟨l,k,j⟩:=h.a;obtain⟨d,f,e⟩:=h.r;exact⟨h.n.cO b,h.c.cO b,⟨l,k.cO b,j.cO b⟩,h.t.cO b,⟨d,f.cO b,e.cO b⟩,h.i.cO b⟩
def V6.z:V6:=⟨zN,zN,zN,zN,zN,zN⟩
def V6.cells(V:V6):Array Value:=#[V.n,V.c,V.a,V.t,V.r,V.i]
def anw:(Tryz.prog.info? 56).map (·.size)=some 6:=by kernel_rfl
def adZ(h:w.heap[g]?=some (.cells cs 56 (0,0)))(a:cs.size=6):(loadVar 56 (zA g)).run Tryz.prog w=.ok (.agg cs) w :=
 run_loadVar_row w g 56 56 cs (0,0) _ h Tryz.underlying56 rfl (by rw[a];exact anw)
def ad1{o5:Value}(f e d c b a:Value)(h:w.heap[g]?=some (.cells #[o0,o1,o2,o3,o4,o5] t (0,0))):((((((w.setCell (zA g) f).setCell (zB g 1) e).setCell (zB g 2) d).setCell (zB g 3) c).setCell (zB g 4) b).setCell (zB g 5) a).heap[g]?=some (.cells #[f,e,d,c,b,a] t (0,0)):=by simp[World.setCell,a0v,h]
def ad2(w:World)(g:Nat)(f e d c b a:Value):aB [g] w ((((((w.setCell (zA g) f).setCell (zB g 1) e).setCell (zB g 2) d).setCell (zB g 3) c).setCell (zB g 4) b).setCell (zB g 5) a) :=
 (((((((aB.refl [g] w).setCell (p:=(zA g)) (.inl (by simp)) f).setCell (p:=(zB g 1)) (.inl (by simp)) e).setCell (p:=(zB g 2)) (.inl (by simp)) d).setCell (p:=(zB g 3)) (.inl (by simp)) c).setCell (p:=(zB g 4)) (.inl (by simp)) b)).setCell (p:=(zB g 5)) (.inl (by simp)) a
def RW.shape(h:RW A k w v vs):∃a c,v=.slice a vs.length c:=by obtain⟨a,c,e,_⟩:=h;exact⟨a,c,e⟩
theorem RW.num(h:RW A 1 w v (ic L)):∃a cap,v=.slice a L.length cap/\∀(j:Nat) (b:j<L.length),∃g off,a=some (zB g off)/\g<w.heap.size/\zC w g (off+j) (zI (L[j]:Nat)):=by
 obtain⟨a,cap,rfl,i,f⟩:=h;refine⟨a,cap,by rw[TM],λj b=>?_⟩;obtain⟨g,off,e,_,d,c⟩:=f j (by rw[TM];exact b);refine⟨g,off,e,d,?_⟩;have:=c 0 (zI (L[j]:Nat)) (by simp[ic])
 rwa [a1H,a1Q]at this
theorem RW.bool(h:RW A 1 w v (bc L)):∃a cap,v=.slice a L.length cap/\∀(j:Nat) (b:j<L.length),∃g off,a=some (zB g off)/\g<w.heap.size/\zC w g (off+j) (.bool (L[j]==1)):=by
 obtain⟨a,cap,rfl,i,f⟩:=h;refine⟨a,cap,by rw[afI],λj b=>?_⟩;obtain⟨g,off,e,_,d,c⟩:=f j (by rw[afI];exact b);refine⟨g,off,e,d,?_⟩;have:=c 0 (.bool (L[j]==1)) (by simp[bc])
 rwa [a1H,a1Q]at this
def sP {I:TQ α} {d:List (Array Value)} {xs:List α}(h:RW A k w v (fZ d))(i:dV I A w d xs) :
 ∃a cap,v=.slice a xs.length cap/\∀(j:Nat) (f:j<xs.length),∃g off cs,a=some (zB g off)/\g<w.heap.size/\g∉A/\I.rel A w cs xs[j]/\∀c x,cs[c]?=some x->zC w g (off+j*k+c) x:=by
 obtain⟨a,cap,rfl,q,p⟩:=h;refine⟨a,cap,by rw[jA,i.1],λj f=>?_⟩;have b:j<d.length:=by rw[i.1];exact f
 obtain⟨g,off,e,o,n,m⟩:=p j (by rw[jA];exact b);refine⟨g,off,d[j],e,n,o,i.2 j _ _ (a0a b) (a0a f),λc x l=>m c x ?_⟩;simp[fZ,l]
theorem aB.at {p:Addr}(f:aB [] w W)(a:p.block<w.heap.size)(h:w.cell? p=some v):W.cell? p=some v:=(f.cell a (by simp)).trans h
def aeQ:TQ kN where
 rel A w cs x:=∃g,cs=aO x (zS g x.bl.length x.bl.length)/\RW A 1 w (zS g x.bl.length x.bl.length) (sc x.bl)
 aC:=by rintro A S w w' cs x ⟨g,b,a⟩ f c;exact⟨g,b,a.aC f c⟩
 cO:=by rintro A B w cs x ⟨g,b,a⟩ d;exact⟨g,b,a.cO d⟩
def RW.afJ{n c:Nat}(h:RW A k w (zS g n c) vs)(f:g∉B):RW B k w (zS g n c) vs:=by obtain⟨a,cap,e,o,m⟩:=h;refine⟨a,cap,e,o,λj d=>?_⟩;obtain⟨p,off,b,q,l,i⟩:=m j d;refine⟨p,off,b,?_,l,i⟩;simp only[Value.slice.injEq]at e;rw[<-e.1]at b;simp only[Option.some.injEq,Addr.mk.injEq,a2u]at b;rw[<-b.1];exact f
theorem Nf(w:World)(o a:Obj):((w.alloc o).alloc a).heap[w.heap.size+1]?=some a:=by
 have:=bD (w.alloc o) a
 rwa [show(w.alloc o).heap.size=w.heap.size+1 by simp]at this
def qE {fn:Func} {p:Tmp} {ty:TypeId}(h:fn.results=#[.cell p ty])(tmps:Array Value)(w:World)(g:Nat)(cs:Array Value)
 (a:tmps.getD p undef=zP g) (b:(loadVar ty (zA g)).run Tryz.prog w=.ok (.agg cs) w) :
 (results fn tmps).run Tryz.prog w=.ok (.agg cs) w:=by
 have c:tmps[p]?.getD undef=zP g:=by simpa using a
 simp[results,h,c,asAddr,b]
structure AUm(w:World)(g q:Nat)(x:gz)(va vn:Value):Prop where
 lt:g<w.heap.size
 c0:w.cell? (zB g q)=some (zI (x.k:Nat))
 cc:∀c,c<256->w.cell? (zB g (q+1+c))=some (.int .u8 (x.cl.getD c 0:Nat))
 ca:w.cell? (zB g (q+257))=some va
 cn:w.cell? (zB g (q+258))=some vn
theorem AUm.aC{q:Nat} {x:gz} {b a:Value}(h:AUm w g q x b a)(f:aB [] w w'):AUm w' g q x b a :=
 ⟨a0t h.lt f.size,(f.cell (p:=(zB g q)) h.lt (by simp)).trans h.c0,λc d=>(f.cell (p:=(zB g (q+1+c))) h.lt (by simp)).trans (h.cc c d),(f.cell (p:=(zB g (q+257))) h.lt (by simp)).trans h.ca,(f.cell (p:=(zB g (q+258))) h.lt (by simp)).trans h.cn⟩
structure PR(A:LN)(w:World)(pb:Nat)(V:V6)(m:mP):Prop where
 row:w.heap[pb]?=some (.cells V.cells 60 (0,0))
 pg:PG (pb::A) w V m
 av:pb∉A
theorem PR.aC {V:V6} {m:mP}(h:PR A w pb V m)(f:aB S w w')(a:∀g∈S,g∈A):PR A w' pb V m :=
 ⟨(f.block pb (a0c.1 h.row).1 (λb=>h.av (a _ b))).trans h.row,h.pg.aC f (λg c=>by simp[a g c]),h.av⟩
def PR.cO {V:V6} {m:mP}(h:PR A w pb V m)(c:∀g∈B,g∈A):PR B w pb V m:=⟨h.row,h.pg.cO (λg b=>by left;simp at b |-;rcases b with a|a;exact .inl a;exact .inr (c g a)),λd=>h.av (c _ d)⟩
def aB.TU {B:Nat}(f:aB S w W)(b:Below B W w')(d:w.heap.size<=B):aB S w w' :=
 ⟨b.os.trans f.os,b.tape.trans f.tape,b.output.trans f.output,a0h f.size b.size,λk a c=>(b.block k (by omega)).trans (f.block k a c)⟩
def VC:(Tryz.prog.info? 9).map (·.size)=some 1:=by kernel_rfl
def iL(L:List LB)(x:LB):Nat:=L.findIdx (·==x)
def l9(L:List LB)(x:LB):List LB:=if iL L x=L.length then L++[x] else L
def QE(a b:jd):Bool:=a.n==b.n&&(a.k==b.k&&a.x==b.x)
def C6(L:List jd)(x:jd):Nat:=L.findIdx (QE · x)
def pE(L:List jd)(x:jd):List jd:=if C6 L x=L.length then L++[x] else L
structure CS where
 n:List LB
 c:List LB
 x:List LB
 a:List gz
 t:List jd
 q:List (List (Nat × Bool))
def nP(re:LB->Nat)(bI:LB->gz)(s:CS)(m:CM):Option (jd × CS) :=
 if m.2.1=2\/m.2.1=3 then
  if iL s.x m.2.2<s.x.length then some (⟨iL s.n m.1,1,iL s.x m.2.2⟩,{ s with n:=l9 s.n m.1 })
  else if re m.2.2=0 then some (⟨iL s.n m.1,1,iL s.x m.2.2⟩,{ s with n:=l9 s.n m.1,x:=s.x++[m.2.2],a:=s.a++[bI m.2.2] })
  else none
 else some (⟨iL s.n m.1,0,iL s.c m.2.2⟩,{ s with n:=l9 s.n m.1,c:=l9 s.c m.2.2 })
def IV(m:CM):Bool:=m.2.1==0||m.2.1==2
def nu(re:LB->Nat)(bI:LB->gz):CS->List (Nat × Bool)->List CM->Except Nat (List (Nat × Bool) × CS)
 | s,acc,[]=>.ok (acc,s)
 | s,acc,m::r=>match nP re bI s m with
   | none=>.error (re m.2.2)
   | some (t,s1)=>nu re bI { s1 with t:=pE s1.t t } (acc++[(C6 s1.t t,IV m)]) r
def pread(re:LB->Nat)(bI:LB->gz):CS->Nat->List CR->Except (Nat × Nat) CS
 | s,_,[]=>.ok s
 | s,i,c::r=>match nu re bI s [] c.ifs with
   | .error e=>.error (e,i+2)
   | .ok (l,s1)=>pread re bI { s1 with q:=s1.q++[l] } (i+1) r
def nQ(C:List CR)(d:Nat):Nat->Option Nat
 | 0=>none
 | j+1=>if (C[j]?.map λc=>c.d+1)=some d then some j else nQ C d j
def par(C:List CR)(i:Nat):Option Nat:=match C[i]? with | some c=>nQ C c.d i|none=>none
def uk(x:Int)(y:Nat):Nat:=if x=-1 then y else x.toNat
def ny(a:kN)(r:CR):kN:=⟨if r.rc == [45] then a.rc else r.rc,if r.tb then r.jM else a.bl,uk r.wt a.wt,uk r.ev a.ev,uk r.rp a.rp⟩
def lQ:kN:=⟨[],[],30,300,14400⟩
def uK(C:List CR)(H:List kN)(i:Nat):kN:=match par C i with | some p=>H.getD p lQ|none=>lQ
def fD(C:List CR):Nat->List kN
 | 0=>[]
 | i+1=>fD C i++[match C[i]? with | some c=>ny (uK C (fD C i) i) c|none=>lQ]
def bR:List (Nat × Bool)->Nat->Nat->List bX->Nat × List bX
 | [],y,_,l=>(y,l)
 | c::r,y,n,l=>((bR r y n l).2.length,(bR r y n l).2++[if c.2 then ⟨2,c.1,(bR r y n l).1,n⟩ else ⟨2,c.1,n,(bR r y n l).1⟩])
def kids(C:List CR)(r:Nat):LN:=(List.range C.length).filter λj=>decide (r<j)&&(par C j==some r)
def ji(rec:Nat->Nat->List bX->Nat × List bX)(C:List CR)(q:List (List (Nat × Bool)))(done:Nat)(l:List bX):LN->Nat × LN × List bX
 | []=>(done,[],l)
 | c::r =>
   let x:=ji rec C q done l r
   let b:=rec c (if (C[c]?.map (·.co))=some true then x.1 else done) x.2.2
   let s:=bR (q.getD c []) b.1 x.1 b.2
   (s.1,b.1::x.2.1,s.2)
def lS(q:List (List (Nat × Bool)))(first:Nat)(l:List bX):List (Nat × Nat)->Nat × List bX
 | []=>(first,l)
 | c::r=>bR (q.getD c.1 []) c.2 (lS q first l r).1 (lS q first l r).2
def ig(C:List CR)(q:List (List (Nat × Bool))):Nat->Nat->Nat->List bX->Nat × List bX
 | 0,_,d,l=>(d,l)
 | f+1,r,d,l =>
   let x:=ji (ig C q f) C q d l (kids C r)
   lS q x.2.2.length (x.2.2++[⟨1,r,d,0⟩]) ((kids C r).zip x.2.1)
def mG(l:List bX):Nat->List Bool->List Int->Nat->List Int
 | 0,_,N,_=>N
 | i+1,R,N,c =>
   if R.getD i false then
    match l[i]? with
    | some x=>mG l i (if x.op=0 then R else if x.op=2 then (R.set x.a true).set x.b true else R.set x.a true) (N.set i c) (c+1)
    | none=>N
   else mG l i R (N.set i (-1)) c
def numsOf(l:List bX)(first:Nat):List Int:=mG l l.length ((List.replicate l.length false).set first true) (List.replicate l.length 0) 0
def Bq(N:List Int)(x:bX):bX:=⟨x.op,x.x,if x.op=0 then x.a else (N.getD x.a 0).toNat,if x.op=2 then (N.getD x.b 0).toNat else x.b⟩
def nY(l:List bX)(N:List Int):Nat->List bX->List bX
 | 0,out=>out
 | i+1,out=>if N.getD i 0<0 then nY l N i out else match l[i]? with | some x=>nY l N i (out++[Bq N x])|none=>out
def mH(l:List bX)(first:Nat):List bX:=nY l (numsOf l first) (first + 1) []
def C8(C:List CR)(q:List (List (Nat × Bool))):List bX :=
 if C.isEmpty then [⟨0,0,0,0⟩] else
  let x:=ig C q 6 0 0 [⟨0,0,0,0⟩]
  mH x.2 x.1
def iZ(C:List CR)(s:CS):mP:=⟨s.n,s.c,s.a,s.t,fD C C.length,C8 C s.q⟩
def lT:CS:=⟨[],[],[],[],[],[]⟩
end
end Go.Proofs.YtedmellodofajaaGreatDoor
