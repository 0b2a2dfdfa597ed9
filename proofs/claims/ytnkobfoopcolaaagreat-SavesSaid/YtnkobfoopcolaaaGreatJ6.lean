import Derived.Test.YtnkobfoopcolaaaGreatJ5
import Derived.Test.YtnkobfoopcolaaaGreatJ4
import Derived.Test.YtnkobfoopcolaaaGreatJ1
import Derived.Laws.CopyOwn
import Derived.Laws.MakeOwn
import Derived.Deep.DeepCutAuto
import Derived.Deep.CutBlock
import Derived.Deep.RegionLaw
import Derived.Laws.IdiomStrings
import Derived.Lib.AppendStr
import Derived.Lib.SlBytesConst
import Derived.Test.YtnkobfoopcolaaaGreatJ2
import Derived.Test.YtnkobfoopcolaaaGreatRows
import Derived.ProofKit
import Derived.OpenShut
import Derived.DataShut
import Derived.SizedLaws
import Derived.Carry
import Derived.Deep.SlicePairs
set_option linter.unusedVariables false
set_option linter.unusedSimpArgs false
set_option linter.unnecessarySimpa false
set_option linter.defProp false
set_option maxRecDepth 100000
set_option maxHeartbeats 16000000
namespace Go.Proofs.YtnkobfoopcolaaaGreat
open Go.RowKit
section
variable {l:List bX} {cap d i j n nr r y:Nat} {t:LB} {L:List LB} {s s1:CS} {m:CM} {α:Type} {w:World} {a:Act} {e:RX} {ops:Array Oper} {rest:List Oper}
def Mj(l first):∀i (R:List Bool) (N:List Int) (c:Nat),i<=first->0<=N.getD first (-1)->0<=(mG l i R N c).getD first (-1)
 | 0,R,N,c,_,h=>h
 | i+1,R,N,c,a,h=>by
   rw[mG];split
   .split
    .exact Mj l first i _ _ _ (by omega) (by rw[getD_set_ne _ _ _ _ _ (by omega)];omega)
    omega
   exact Mj l first i _ _ _ (by omega) (by rw[getD_set_ne _ _ _ _ _ (by omega)];omega)
theorem Bp(l first)(b:first < l.length):∀i (R:List Bool) (N:List Int) (c:Nat),first < i->i<=l.length->N.length=l.length->R.length=l.length->R.getD first false=true->0<=(mG l i R N c).getD first (-1)
 | 0,R,N,c,h,_,_,_,_=>by omega
 | i+1,R,N,c,h,g,f,a,d=>by
   rw[mG];by_cases e:first=i
   .subst e;rw[a0m d,a0a b];exact Mj l first first _ _ _ (a0b _) (by rw[yg _ _ _ _ (by omega)];omega)
   split
   .rw[a0a (by omega)];refine Bp l first b i _ _ _ (by omega) (by omega) (by simp[f]) (by split;exact a;split;simp[a];simp[a]) ?_
    split
    .omega
    grind
   exact Bp l first b i _ _ _ (by omega) (by omega) (by simp[f]) a d
theorem QZ(l N):∀i out,(nY l N i out).length<=out.length+i
 | 0,out=>by simp[nY]
 | i+1,out=>by
   rw[nY];split
   .have:=QZ l N i out;omega
   split
   .rename_i x _
    have:=QZ l N i (out++[aci N x]);simp only[a0p,a0X]at this;omega
   omega
theorem akP(e:GL l)(first)(a:first < l.length):1<=(mH l first).length/\(mH l first).length<=l.length:=by
 refine⟨?_,?_⟩
 .obtain⟨c,i⟩:=Mh _ _;have hlen:=Eh l first
  have m:=QW e first
  have d:0<=(numsOf l first).getD first (-1):=by unfold numsOf;exact Bp _ _ a l.length _ _ 0 a (a0b _) (by simp) (by simp) (yg _ _ _ _ (by simpa using a))
  have h:Nr l (numsOf l first) 0 (mH l first):=by
   refine Dh i hlen (first + 1) [] (by omega) ⟨λj x g _ d=>?_,λk f=>by simp at f,λj g d=>?_⟩
   .grind
   grind
  have:=h.b first (by omega) d
  omega
 grind [QZ,numsOf,mH]
def Steps(C:List CR):Prop:=(∀c,C[0]?=some c->c.d=0/\c.rc≠[45])/\∀(i:Nat) (a b:CR),C[i]?=some a->C[i+1]?=some b->1<=b.d/\b.d<=a.d+1
theorem Pg:∀C i (e:Nat),lD C i e=0->(∀c,C[0]?=some c->(i=0->c.d=0/\c.rc≠[45])/\(i≠0->1<=c.d/\c.d<=e+1))/\∀k a b,C[k]?=some a->C[k+1]?=some b->1<=b.d/\b.d<=a.d+1
 | [],i,e,_=>⟨by simp,by simp⟩
 | c::r,i,e,h=>by
   unfold lD at h;cases hb:(!(if (i==0)=true then nW c else jN c.d e)||decide (16<=i))
   .rw[hb]at h;simp only[a0A,a0I]at h;have f:(if (i==0)=true then nW c else jN c.d e)=true:=by grind
    obtain⟨n,m⟩:=Pg r (i+1) c.d h;refine⟨λx j=>?_,λk a b l g=>?_⟩
    .grind [nW,jN]
    grind
   rw[hb]at h;simp at h
theorem ab3 {C}(h:Steps C):∀(i:Nat) c,C[i]?=some c->∀e,e<=c.d->∃j x,j<=i/\C[j]?=some x/\x.d=e
 | 0,c,a,e,he=>by have:=(h.1 c a).1;exact⟨0,c,a0b _,a,by omega⟩
 | i+1,c,a,e,he=>by
   by_cases m:e=c.d
   .grind
   have f:i<C.length:=by have:=(a0d.1 a).1;omega
   have l:=(h.2 i C[i] c (a0a f) a).2;obtain⟨j,x,k,g,b⟩:=ab3 h i C[i] (a0a f) e (by omega);exact⟨j,x,by omega,g,b⟩
theorem aeE {C}:∀i j x,j<i->C[j]?=some x->x.d+1=d->∃p,nQ C d i=some p
 | 0,j,x,h,_,_=>by omega
 | i+1,j,x,h,b,hd=>by
   rw[nQ];by_cases e:(C[i]?.map λc=>c.d+1)=some d
   .rw[a0m e];exact⟨i,rfl⟩
   rw[a0n e];refine aeE i j x ?_ b hd;rcases a2a j i with a|a
   .omega
   grind
def asS {C}(h:Steps C)(i)(a:i+1<C.length):∃p,par C (i+1)=some p:=by unfold par;rw[a0a a];have f:=h.2 i C[i] C[i+1] (a0a (by omega)) (a0a a);obtain⟨j,x,e,c,b⟩:=ab3 h i C[i] (a0a (by omega)) (C[i+1].d-1) (by omega);exact aeE (i+1) j x (by omega) c (by omega)
structure Ph(s:CS):Prop where
 n:∀x∈s.n,Bo x
 c:∀x∈s.c,x.length<41
 a:∀x∈s.a,Mo x
 xa:s.x.length=s.a.length
 t:∀t∈s.t,Lu s.n.length s.c.length s.a.length t
 q:∀l∈s.q,∀c∈l,c.1<s.t.length
 ql:∀l∈s.q,l.length<=4
theorem Lu.mono {d f g a b c t}(h:Lu d f g t)(l:d<=a)(j:f<=b)(i:g<=c):Lu a b c t:=by
 refine⟨by have:=h.n;omega,h.k,?_⟩;have:=h.x;split<;>rename_i e<;>simp only[e,a0G,a0I]at this<;>omega
def aiQ(L x):L.length<=(l9 L x).length:=by unfold l9;split<;>simp
theorem aiR(L x):L.length<=(pE L x).length:=by unfold pE;split<;>simp
theorem Za(L x):iL L x<(l9 L x).length:=by grind [Eg,l9]
theorem asT(L x):C6 L x<(pE L x).length:=by grind [alT,pE]
theorem aeF {x y}(h:y∈l9 L x):y∈L\/y=x:=by grind [l9]
theorem V5 {L x y}(h:y∈pE L x):y∈L\/y=x:=by grind [pE]
theorem aeG {re} {bI:LB->gz}(p:∀v,re v=0->Mo (bI v)) {t}(h:Ph s)(i:Qf m)(he:nP re bI s m=some (t,s1)) :
 Ph { s1 with t:=pE s1.t t }/\s1.t=s.t/\s1.q=s.q:=by
 have g:=aiQ s.n m.1;have j:=aiQ s.c m.2.2;have on:∀x∈l9 s.n m.1,Bo x:=λx d=>by
  rcases aeF d with e|rfl
  .exact h.n x e
  exact⟨by have:=xO i.name;omega,i.name⟩
 have k:∀x∈l9 s.c m.2.2,x.length<41:=λx d=>by
  rcases aeF d with e|rfl
  .exact h.c x e
  have:=i.val;omega
 have f:∀t,∀l∈s.q,∀c∈l,c.1<(pE s.t t).length:=λt l o c j=>by have:=h.q l o c j;have:=aiR s.t t;omega
 unfold nP at he;split at he
 .split at he
  .rename_i d;cases he;refine⟨⟨on,h.c,h.a,h.xa,λy b=>?_,f _,h.ql⟩,rfl,rfl⟩;rcases V5 b with e|rfl
   .exact(h.t y e).mono g (a0b _) (a0b _)
   exact⟨Za _ _,by simp,by simp only[a0G];rw[<-h.xa];omega⟩
  rename_i d;split at he
  .rename_i r;cases he;refine⟨⟨on,h.c,λy b=>?_,by simp[h.xa],λy b=>?_,f _,h.ql⟩,rfl,rfl⟩
   .rcases a0e.1 b with e|e
    .exact h.a y e
    rw[a0w.1 e];exact p _ r
   rcases V5 b with e|rfl
   .exact(h.t y e).mono g (a0b _) (by simp)
   exact⟨Za _ _,by simp,by simp only[a0G,a0p,a0X];have:=Eg s.x m.2.2;have:=h.xa;omega⟩
  cases he
 cases he;refine⟨⟨on,k,h.a,h.xa,λy b=>?_,f _,h.ql⟩,rfl,rfl⟩;rcases V5 b with e|rfl
 .exact(h.t y e).mono g j (a0b _)
 exact⟨Za _ _,by simp,by simp only[Nat.zero_ne_one,a0I];exact Za _ _⟩
theorem ab4 {re} {bI:LB->gz}(ha:∀v,re v=0->Mo (bI v)):∀M s acc {l s1},Ph s->(∀m∈M,Qf m)->(∀c∈acc,c.1<s.t.length)->nu re bI s acc M=.ok (l,s1)->Ph s1/\(∀c∈l,c.1<s1.t.length)/\l.length=acc.length+M.length
 | [],s,acc,l,s1,h,_,h2,e=>by grind [nu]
 | m::r,s,acc,l,s1,h,hM,h2,e=>by
   rw[nu]at e;split at e
   ·cases e
   rename_i t s2 ht;obtain⟨g1,g2,g3⟩:=aeG ha h (hM m (by simp)) ht;obtain⟨k1,k2,k3⟩:=ab4 ha r _ _ g1 (λx hx=>hM x (by simp[hx])) (λc hc=>by
    rcases a0e.1 hc with e1|e1
    ·grind [aiR,pE]
    rw[a0w.1 e1];exact asT _ _) e
   exact⟨k1,k2,by rw[k3];simp;omega⟩
theorem aeH {re} {bI:LB->gz}:∀M s acc {l s1},nu re bI s acc M=.ok (l,s1)->s1.q=s.q
 | [],s,acc,l,s1,e=>by grind [nu]
 | m::r,s,acc,l,s1,e=>by
   rw[nu]at e;split at e
   .cases e
   rename_i t s2 ht;rw[aeH r _ _ e];unfold nP at ht;split at ht
   .grind
   cases ht;rfl
theorem V7 {re} {bI:LB->gz}(ha:∀v,re v=0->Mo (bI v)):∀C s i k {s1},Ph s->CSB s k->(∀c∈C,xN c)->pread re bI s i C=.ok s1->Ph s1/\CSB s1 (k+4*C.length)/\s1.q.length=s.q.length+C.length
 | [],s,i,k,s1,h,hb,_,e=>by simp_all[pread,hb]
 | c::r,s,i,k,s1,h,hb,hC,e=>by
   rw[pread]at e;have hc:=hC c (by simp);split at e
   ·cases e
   rename_i l s2 hl;obtain⟨g1,_,g3⟩:=ab4 ha c.ifs s [] h hc.ifs (by simp) hl;obtain⟨b1,b2,_⟩:=abV c.ifs s [] k hb hl;have:=hc.ifl;simp at g3;have b4:CSB { s2 with q:=s2.q++[l] } (k+4):=⟨by have:=b1.n;simp only;omega,by have:=b1.c;simp only;omega,by have:=b1.x;simp only;omega,by have:=b1.a;simp only;omega,by have:=b1.t;simp only;omega⟩;obtain⟨k1,_,k3⟩:=V7 ha r { s2 with q:=s2.q++[l] } (i+1) (k+4) ⟨g1.n,g1.c,g1.a,g1.xa,g1.t,λx hx=>by
    rcases a0e.1 hx with e1|e1
    ·exact g1.q x e1
    ·rw[a0w.1 e1];omega,λx hx=>by
    rcases a0e.1 hx with e1|e1
    ·exact g1.ql x e1
    rw[a0w.1 e1];omega⟩ b4 (λx hx=>hC x (by simp[hx])) e
   refine⟨k1,?_,?_⟩
   ·grind
   rw[k3];simp[b2];omega
def af2 {x}(h:-1<=x/\x<=99999)(a:y<100000):uk x y<100000:=by unfold uk;split<;>omega
def aiS {a c}(b:xN c)(h:afH a\/c.rc≠[45])(hb:a.bl.length<5/\(∀n∈a.bl,Bo n)/\a.wt<100000/\a.ev<100000/\a.rp<100000):afH (ny a c):=by
 have on:∀n,aJ n=true->Bo n:=λn d=>⟨by have:=xO d;omega,d⟩;refine⟨?_,?_,?_,af2 b.wt hb.2.2.1,af2 b.ev hb.2.2.2.1,af2 b.rp hb.2.2.2.2⟩
 .show Bo (if c.rc == [45] then a.rc else c.rc);by_cases e:c.rc=[45]
  .rw[a0m (by simp[e])];rcases h with h|h
   .exact h.rc
   exact absurd e h
  rw[a0n (by simp[e])];exact on _ (b.rc.resolve_left e)
 .show(if c.tb then c.jM else a.bl).length<5;split
  .have:=b.byl;omega
  exact hb.1
 show ∀n∈(if c.tb then c.jM else a.bl),Bo n;split
 .exact λn d=>on n (b.jM n d)
 exact hb.2.1
theorem aeI {C}(a:Steps C)(f:∀c∈C,xN c):∀i,i<=C.length->∀h∈fD C i,afH h
 | 0,_=>by simp[fD]
 | i+1,m=>by
   intro h hh;rw[fD]at hh;have d:=aeI a f i (by omega);rcases a0e.1 hh with e|e
   .exact d h e
   rw[a0a (by omega)]at e;have e:=a0w.1 e;subst e;have g:=f C[i] (a0u _);cases i with
   | zero =>
     have k:=(a.1 C[0] (a0a (by omega))).2;refine aiS g (.inr k) ?_;unfold uK;have:par C 0=none:=by
      cases b:par C 0 with
      | none=>rfl
      | some p=>exact absurd (En b) (by omega)
     rw[this];simp[lQ]
   | succ i =>
     obtain⟨p,b⟩:=asS a i (by omega);have l:=En b;have j:uK C (fD C (i+1)) (i+1)∈fD C (i+1):=by grind [uK,ry]
     have ho:=d _ j;exact aiS g (.inl ho) ⟨ho.b1,ho.b2,ho.wt,ho.ev,ho.rp⟩
theorem Ur {C}(h:jH t=.ok (L,C)):Steps C:=by
 have h0:=(pI h).2.1;unfold jH at h;split at h
 ·cases h
 split at h
 ·cases h
 split at h
 ·cases h
 rename_i L' C' _ h1;split at h
 ·cases h
 cases h;have h2:lD C 0 ((0:Nat):Int)=0:=by
  have:iX C=lD C 0 0:=by unfold iX;rw[a0n];cases C with | nil=>simp at h0|cons=>simp
  have e:lD C 0 0=0:=by omega
  omega
 obtain⟨g1,g2⟩:=Pg C 0 0 h2;exact⟨λc hc=>(g1 c hc).1 rfl,g2⟩
theorem asU {re} {bI:LB->gz}(ha:∀v,re v=0->Mo (bI v)) {C}(ht:t.length<=1048576)(h:jH t=.ok (L,C))(hp:pread re bI lT 0 C=.ok s):MOK (iZ C s):=by
 obtain⟨h1,h2,h3,_⟩:=pI h;have hg:=(qT _ _ _ ht h1).2.2;obtain⟨k1,k2,_⟩:=V7 ha C lT 0 0 ⟨by simp[lT],by simp[lT],by simp[lT],rfl,by simp[lT],by simp[lT],by simp[lT]⟩ ⟨by simp[lT],by simp[lT],by simp[lT],by simp[lT],by simp[lT]⟩ hg hp;have dY:=Ur h;refine⟨⟨by have:=k2.n;show s.n.length<256;omega,k1.n⟩,⟨by have:=k2.c;show s.c.length<256;omega,k1.c⟩,⟨by have:=k2.a;show s.a.length<256;omega,k1.a⟩,⟨by have:=k2.t;show s.t.length<256;omega,k1.t⟩,⟨by show(fD C C.length).length<17;rw[ry];omega,aeI dY hg C.length (a0b _)⟩,?_⟩;have bJ:C.isEmpty=false:=by cases C with | nil=>simp at h2|cons=>rfl
 have IU:GL [⟨0,0,0,0⟩]:=by
  intro i hi;simp at hi;subst hi;exact .inl rfl
 obtain⟨r1,r2,_⟩:=C9 _ _ 6 0 0 [⟨0,0,0,0⟩] IU (by simp);have r4:=ab1 C (nt:=s.t.length) k1.q 6 0 0 [⟨0,0,0,0⟩] h2 (by intro x hx;rw[a0w.1 hx];exact .inl ⟨rfl,rfl,rfl,rfl⟩);have:=aiP h3 h2 k1.ql;have e1:(iZ C s).code=mH (ig C s.q 6 0 0 [⟨0,0,0,0⟩]).2 (ig C s.q 6 0 0 [⟨0,0,0,0⟩]).1:=by
  show C8 C s.q=_;unfold C8;rw[bJ];rfl
 have e2:(iZ C s).q9.length=C.length:=ry C C.length;have e3:(iZ C s).tests.length=s.t.length:=rfl;rw[e1,e2,e3];obtain⟨t1,_⟩:=akP r1 _ r2;refine⟨t1,by omega,λj hj=>?_⟩;have:=k2.t;have hs:=an8 r1 r4 _ r2 j hj;generalize hx:(mH (ig C s.q 6 0 0 [⟨0,0,0,0⟩]).2 (ig C s.q 6 0 0 [⟨0,0,0,0⟩]).1)[j]=x at hs |-;clear hx;generalize (mH (ig C s.q 6 0 0 [⟨0,0,0,0⟩]).2 (ig C s.q 6 0 0 [⟨0,0,0,0⟩]).1).length=N at *;have hs0:=hs;unfold stands at hs;split at hs
 ·rename_i e;simp at hs;exact⟨hs0,by omega,by omega,by omega,by omega⟩
 ·rename_i e;simp at hs;exact⟨hs0,by omega,by omega,by omega,by omega⟩
 ·rename_i e;simp at hs;exact⟨hs0,by omega,by omega,by omega,by omega⟩
 cases hs
theorem ab5(v)(h:gH v=0):Mo (gQ v):=by
 obtain⟨e,he,l,_⟩:=VX h;obtain⟨s1,s2,j,i,d,a,g⟩:=aiL (mQ he).1 l;have m:=a 0 (by omega);have k:gQ v=⟨(kZ e).length,ach e,(eu e).2.1.map λu=>if dK (dW (bn e) u) then 1 else 0,(eu e).2.2⟩:=by unfold gQ;rw[he]
 rw[k];generalize kZ e=F at *;generalize ach e=K at *;generalize eu e=A at *;refine⟨by simpa using g,by simpa using s1,by show 1<=F.length;omega,j,d,λc f=>?_,λc f=>?_,by simpa using s2,by simpa using i⟩
 .obtain⟨b,hb,rfl⟩:=List.getElem_of_mem f;have:=a b (by simp only[d]at hb;omega);rw[a0x,a0a hb]at this;exact this
 grind
def CMQ(t:LB)(w:World)(e:Ending)(w':World):Prop :=
 aB [] w w'/\(((pJ gH t).1≠0/\e=zQ #[.pointer none,zI ((pJ gH t).1:Nat),zI ((pJ gH t).2:Nat)]) \/
 (∃L C s V pb,pJ gH t=(0,0)/\jH t=.ok (L,C)/\pread gH gQ lT 0 C=.ok s/\e=zQ #[zP pb,zI 0,zI 0]/\PR [] w' pb V (iZ C s)/\MOK (iZ C s)/\w.heap.size<=pb))
def af3(t w)(ht:t.length<=1048576):zF 14 #[zT t] w (CMQ t w):=by
 refine(acA gH gQ t w ht (λL C h c g m f _=>ark _ ?_)).mono ?_
 .have a:=(pI h).1;exact((qT t L C ht a).2.2 c g).ifs m f |>.val
 rintro e w' ⟨hF,h|⟨L,C,s,V,pb,a,d,b,rfl,k,j,i⟩⟩
 .exact⟨hF,.inl h⟩
 exact⟨hF,.inr ⟨L,C,s,V,pb,a,d,b,rfl,⟨k,j,by simp⟩,asU ab5 ht d b,i⟩⟩
def Us(T:Nat->Bool)(l:List bX):Nat->Nat->LN
 | 0,_=>[]
 | n+1,i=>match l[i]? with
   | some c=>match c.op with
     | 0=>[]
     | 1=>c.x::Us T l n c.a
     | _=>Us T l n (if T c.x then c.a else c.b)
   | none=>[]
def rl(T:Nat->Bool)(l:List bX)(i:Nat):LN:=Us T l (i+1) i
theorem ab6(T)(e:GL l):∀n i,i<n->Us T l n i=rl T l i:=by
 intro n;induction n using Nat.strongRecOn with
 | ind n j =>
   intro i p;obtain⟨m,rfl⟩:∃m,n=m+1:=⟨n-1,by omega⟩;have key:∀k,i<=k->k<=m->Us T l (k+1) i=(match l[i]? with
    | some c=>match c.op with
      | 0=>[]
      | 1=>c.x::rl T l c.a
      | _=>rl T l (if T c.x then c.a else c.b)
    | none=>[]):=by
    intro k o f;rw[Us];by_cases h:i<l.length
    .rw[a0a h];have d:=e i h;generalize l[i]=c at *;obtain⟨op,x,a,b⟩:=c;simp only at d |-;rcases d with rfl|⟨rfl,g⟩|⟨rfl,g,q⟩
     .rfl
     .grind
     grind
    grind
   rw[key m (by omega) (a0b _)];unfold rl;rw[key i (a0b _) (by omega)];rfl
theorem ab7(T)(f:GL l) {c}(e:l[i]?=some c):rl T l i=if c.op=0 then [] else if c.op=1 then c.x::rl T l c.a else rl T l (if T c.x then c.a else c.b):=by
 obtain⟨h,rfl⟩:=a0d.1 e;have d:=f i h;rw[rl,Us,e];generalize l[i]=c at *;obtain⟨op,x,a,b⟩:=c;simp only at d |-;rcases d with rfl|⟨rfl,g⟩|⟨rfl,g,j⟩
 .rfl
 .grind [Us,rl,ab6]
 grind [Us,rl,ab6]
theorem acE(T){c}(a:GL c)(g:l <+: c):∀i,i<l.length->rl T c i=rl T l i:=by
 obtain⟨s,rfl⟩:=g;have d:GL l:=λi b=>by have:=a i (by simp;omega);rwa [List.getElem_append_left b]at this
 intro i;induction i using Nat.strongRecOn with
 | ind i h =>
   intro b;have e:(l++s)[i]?=l[i]?:=a0s b;have f:=a0a b;rw[ab7 T a (e.trans f),ab7 T d f];have j:=d i b;split
   .rfl
   grind
def allT(T:Nat->Bool)(q:List (Nat × Bool)):Bool:=q.all λc=>T c.1==c.2
def Eo(y n l):∀q:List (Nat × Bool),l <+: (bR q y n l).2
 | []=>a0N _
 | c::r=>by rw[bR];exact(Eo y n l r).trans (a1t _ _)
theorem Mk(T)(h:GL l)(b:y<l.length)(a:n<l.length):∀q:List (Nat × Bool),rl T (bR q y n l).2 (bR q y n l).1=if allT T q then rl T l y else rl T l n
 | []=>rfl
 | c::r=>by
   obtain⟨d,t,s⟩:=uL h b a (c::r);obtain⟨i,p,o⟩:=uL h b a r;have:=Mk T h b a r;rw[bR]at d |-;have f:((bR r y n l).2++[if c.2 then (⟨2,c.1,(bR r y n l).1,n⟩:bX) else ⟨2,c.1,n,(bR r y n l).1⟩])[(bR r y n l).2.length]?=some (if c.2 then (⟨2,c.1,(bR r y n l).1,n⟩:bX) else ⟨2,c.1,n,(bR r y n l).1⟩):=by simp
   rw[ab7 T d f];have:=acE T d (a1t (bR r y n l).2 _);have:=acE T i (Eo y n l r) n a;have g:allT T (c::r)=(T c.1==c.2&&allT T r):=rfl;rw[g];cases k:c.2
   .grind
   grind
def Di(T:Nat->Bool)(C:List CR)(q:List (List (Nat × Bool)))(S:Nat->LN):LN->LN
 | []=>[]
 | c::r=>if allT T (q.getD c []) then S c++(if (C[c]?.map (·.co))=some true then Di T C q S r else []) else Di T C q S r
def sent(T:Nat->Bool)(C:List CR)(q:List (List (Nat × Bool))):Nat->Nat->LN
 | 0,_=>[]
 | f+1,r=>if (kids C r).any (λc=>allT T (q.getD c [])) then Di T C q (sent T C q f) (kids C r) else [r]
def RSn(T:Nat->Bool)(S:Nat->LN)(rec:Nat->Nat->List bX->Nat × List bX):Prop:=∀c d l,GL l->d<l.length->l <+: (rec c d l).2/\rl T (rec c d l).2 (rec c d l).1=S c++rl T l d
theorem aeJ {T S} {rec:Nat->Nat->List bX->Nat × List bX}(o:RG rec)(v:RSn T S rec)(C q)(h:GL l)(hd:d<l.length):∀K:LN,
 l <+: (ji rec C q d l K).2.2/\rl T (ji rec C q d l K).2.2 (ji rec C q d l K).1=Di T C q S K++rl T l d /\
 ∀i c b,K[i]?=some c->(ji rec C q d l K).2.1[i]?=some b->allT T (q.getD c [])=true->(∀(k n:Nat),k<i->K[k]?=some n->allT T (q.getD n [])=false)->rl T (ji rec C q d l K).2.2 b=Di T C q S K++rl T l d
 | []=>⟨a0N _,rfl,λi c b h=>by simp at h⟩
 | c::r=>by
   obtain⟨B,A,z⟩:=aeJ o v _ _ h hd r;obtain⟨y,E,M,D,L⟩:=IW o _ _ h hd r;rw[ji,Di];generalize ji rec _ _ _ _ r=x at *;have e:(if (C[c]?.map (·.co))=some true then x.1 else d)<x.2.2.length:=by split<;>omega
   obtain⟨m,p,N⟩:=o c (if (C[c]?.map (·.co))=some true then x.1 else d) x.2.2 y e;obtain⟨s1,s2⟩:=v c (if (C[c]?.map (·.co))=some true then x.1 else d) x.2.2 y e;have F:rl T x.2.2 (if (C[c]?.map (·.co))=some true then x.1 else d)=(if (C[c]?.map (·.co))=some true then Di T C q S r else [])++rl T l d:=by grind [acE,hd]
   rw[F,<-a0M]at s2;generalize rec c (if (C[c]?.map (·.co))=some true then x.1 else d) x.2.2=b at *;have a:x.1<b.2.length:=by omega
   obtain⟨k1,_,I⟩:=uL m p a (q.getD c []);have H:=Mk T m p a (q.getD c []);have kp:=Eo b.1 x.1 b.2 (q.getD c []);have O:rl T b.2 x.1=Di T C q S r++rl T l d:=by rw[acE T m s1 x.1 E];omega
   refine⟨(B.trans s1).trans kp,?_,?_⟩
   .grind
   intro i n b' j g w u;show rl T (bR _ _ _ _).2 b'=_;cases i with
   | zero=>simp[List.getElem?_cons_zero,Option.some.injEq]at j g;subst j g;rw[acE T k1 kp b.1 p,w];simp only[a0G];omega
   | succ i=>simp[a1m]at j g;have t:=D b' (a0B g);have:=z i n b' j g w (λk s J f=>u (k+1) s (by omega) (by simpa using f));rw[acE T k1 kp b' (by omega),acE T m s1 b' t,this,u 0 c (by omega) (by simp)];simp
def V8(q first l):∀Z:List (Nat × Nat),l <+: (lS q first l Z).2
 | []=>a0N _
 | z::r=>by rw[lS];exact(V8 q first l r).trans (Eo _ _ _ _)
def aeK(T q) {first}(h:GL l)(g:first < l.length)(R):∀Z:List (Nat × Nat),(∀z∈Z,z.2<l.length) ->
 (∀i z,Z[i]?=some z->allT T (q.getD z.1 [])=true->(∀(k:Nat) (b:Nat × Nat),k<i->Z[k]?=some b->allT T (q.getD b.1 [])=false)->rl T l z.2=R)->rl T (lS q first l Z).2 (lS q first l Z).1=if Z.any (λz=>allT T (q.getD z.1 [])) then R else rl T l first
 | [],_,_=>rfl
 | z::r,hz,m=>by
   obtain⟨n,u,v⟩:=QF _ h g r (λy e=>hz y (by simp[e]));have p:=V8 q first l r
   have gT:=hz z (by simp);rw[lS,Mk T n (by omega) u (q.getD z.1 []),a3m];cases j:allT T (q.getD z.1 [])
   .have o:=aeK T _ h g _ r (λy e=>hz y (by simp[e])) (λi b t d f=>m (i+1) b (by simpa using t) d (λk c s a=>by
     cases k with
     | zero=>simp at a;rw[<-a];omega
     | succ k=>exact f k c (by omega) (by simpa using a)))
    simp[a0A,a0I,a3l];exact o
   simp[a0G,Bool.true_or];rw[acE T n p z.2 gT];exact m 0 z rfl j (λk b f=>by omega)
theorem aiT(f):∀(K a:LN),a.length=K.length->(K.zip a).any (λz=>f z.1)=K.any f
 | [],a,_=>by simp
 | c::r,[],h=>by simp at h
 | c::r,b::s,h=>by simp only[List.zip_cons_cons,a3m,aiT f r s (by simpa using h)]
theorem aeL(T:Nat->Bool)(C:List CR)(q:List (List (Nat × Bool))):∀f,RSn T (sent T C q f) (ig C q f)
 | 0=>λc d l h hd=>⟨a0N _,rfl⟩
 | f+1=>λr d l h hd=>by
   have o:=C9 C q f;obtain⟨B,G,F,p,A⟩:=IW o C q h hd (kids C r);obtain⟨n,E,t⟩:=aeJ o (aeL T C q f) C q h hd (kids C r);rw[ig,sent];generalize ji (ig C q f) C q d l (kids C r)=x at *;have a:GL (x.2.2++[⟨1,r,d,0⟩]):=B.snoc (.inr (.inl ⟨rfl,by show d<_;omega⟩));have m:x.2.2 <+: x.2.2++[(⟨1,r,d,0⟩:bX)]:=a1t _ _;have b:∀z∈(kids C r).zip x.2.1,z.2<(x.2.2++[(⟨1,r,d,0⟩:bX)]).length:=by
    intro z hz;have:=p z.2 (List.of_mem_zip hz).2;simp;omega
   have s:=aeK T q a (by simp:x.2.2.length<(x.2.2++[(⟨1,r,d,0⟩:bX)]).length) (Di T C q (sent T C q f) (kids C r)++rl T l d) ((kids C r).zip x.2.1) b (by
    intro i z w y v;have hz:=List.getElem?_zip_eq_some.1 w;rw[acE T a m z.2 (p z.2 (a0B hz.2))];refine t i z.1 z.2 hz.1 hz.2 y (λk D g j=>?_);have e:k<x.2.1.length:=by grind
    exact v k (D,x.2.1[k]) g (List.getElem?_zip_eq_some.2 ⟨j,a0a e⟩))
   refine⟨(n.trans m).trans (V8 _ _ _ _),?_⟩;show rl T (lS q x.2.2.length (x.2.2++[⟨1,r,d,0⟩]) ((kids C r).zip x.2.1)).2 (lS q x.2.2.length (x.2.2++[⟨1,r,d,0⟩]) ((kids C r).zip x.2.1)).1=_;rw[s,aiT (λc=>allT T (q.getD c [])) _ _ A];cases (kids C r).any λc=>allT T (q.getD c [])
   .simp only[a0A,a0I];rw[ab7 T a (c:=⟨1,r,d,0⟩) (by simp)];simp only[Nat.one_ne_zero,a0I,a0G];rw[acE T a (n.trans m) d hd];rfl
   simp[a0G]
def tT(m:mP)(V:LB->LB)(x:Nat):Bool:=match m.tests[x]? with
 | some t=>Jz m (V (m.names.getD t.n [])) t
 | none=>false
theorem arn {m}(q:GL l)(z:Mi nr m.tests.length l) {N c}(C:ab0 N 0 c)(hlen:N.length=l.length)(s:Nr l N 0 m.code)
 (v:∀j x,l[j]?=some x->0<=N.getD j 0->(x.op≠0->0<=N.getD x.a 0)/\(x.op=2->0<=N.getD x.b 0)) (V):∀j,j<l.length->0<=N.getD j (-1)->∀n,m.code.length<=n+(N.getD j (-1)).toNat->runM m V n (N.getD j (-1)).toNat=rl (tT m V) l j:=by
 intro j;induction j using Nat.strongRecOn with
 | ind j w =>
   intro r o n D;have hb:=s.b j (by omega) o;obtain⟨k,rfl⟩:∃k,n=k+1:=⟨n-1,by omega⟩;have g:=a0a r;have ho:=s.a j _ (by omega) g o;obtain⟨s1,s2⟩:=v j _ g (by rw[Gy N j (by omega)];omega);have A:=q j r;have u:=z l[j] (a0u _);rw[ab7 _ q g,runM,ho];generalize l[j]=y at *;obtain⟨op,e,a,b⟩:=y;simp only[GXi]at u;simp only at A s1 s2 |-;have f:∀t,t<j->0<=N.getD t 0->runM m V k (N.getD t 0).toNat=rl (tT m V) l t:=by intro t ht p;rw[Gy N t (by omega)]at p |-;have i:=C.d t j (by omega) ht p o;exact w t ht (by omega) p k (by omega)
   rcases u with⟨rfl,rfl,rfl,rfl⟩|⟨rfl,i,rfl⟩|⟨rfl,i⟩
   .rfl
   .grind [aci]
   have B:=f a (by omega) (s1 (by omega));have hb:=f b (by omega) (s2 rfl);simp only[aci,show(2:Nat)≠0 by omega,a0I,a0G,show(2:Nat)≠1 by omega];have ht:m.tests[e]?=some m.tests[e]:=a0a i;have h:tT m V e=Jz m (V (m.names.getD m.tests[e].n [])) m.tests[e]:=by unfold tT;rw[ht]
   rw[ht,h];simp only;cases Jz m (V (m.names.getD m.tests[e].n [])) m.tests[e]
   .simpa using hb
   simpa using B
theorem an9 {m}(i:GL l)(p:Mi nr m.tests.length l)(first)(g:first < l.length)(r:m.code=mH l first)(V):runM m V m.code.length 0=rl (tT m V) l first:=by
 obtain⟨c,e⟩:=Mh _ _;have hlen:=Eh l first
 have o:=IY i first
 have t:=QW i first
 have n:Nr l (numsOf l first) 0 (mH l first):=by
  refine Dh e hlen (first + 1) [] (by omega) ⟨λj x a _ f=>?_,λk q=>by simp at q,λj a f=>?_⟩
  .grind
  grind
 have f:0<=(numsOf l first).getD first (-1):=by unfold numsOf;exact Bp _ _ g l.length _ _ 0 g (a0b _) (by simp) (by simp) (yg _ _ _ _ (by simpa using g))
 have hz:(numsOf l first).getD first (-1)=0:=by
  have hb:=e.b first (by omega) f
  obtain⟨j,_,a⟩:=e.s 0 (by omega);rcases Nat.lt_trichotomy j first with h|h|h
  .have:=e.d j first (by omega) h (by omega) f
   omega
  .rw[h]at a;omega
  grind
 rw[<-r]at n;have:=arn i p e hlen n o V first g f m.code.length (by omega)
 rw[hz]at this;exact this
def zn(a:gz)(v:LB):Bool:=a.acc.getD (yC a 0 v) 0==1
def lG(bI:LB->gz)(V:LB->LB)(m:CM):Bool :=
 if m.2.1=0 then V m.1==m.2.2 else if m.2.1=1 then !(V m.1==m.2.2) else if m.2.1=2 then zn (bI m.2.2) (V m.1) else !(zn (bI m.2.2) (V m.1))
def stM(s:CS)(V:LB->LB)(t:jd):Bool :=
 if t.k=0 then V (s.n.getD t.n [])==s.c.getD t.x [] else zn (s.a.getD t.x ⟨0,[],[],[]⟩) (V (s.n.getD t.n []))
def stT(s:CS)(V:LB->LB)(x:Nat):Bool:=match s.t[x]? with | some t=>stM s V t|none=>false
theorem aro(C s V):tT (iZ C s) V=stT s V:=rfl
structure Ae(s s':CS):Prop where
 n:s.n <+: s'.n
 c:s.c <+: s'.c
 a:s.a <+: s'.a
 t:s.t <+: s'.t
theorem Ae.refl(s):Ae s s:=⟨a0N _,a0N _,a0N _,a0N _⟩
theorem Ae.trans{s2}(h:Ae s s1)(k:Ae s1 s2):Ae s s2:=⟨h.n.trans k.n,h.c.trans k.c,h.a.trans k.a,h.t.trans k.t⟩
theorem Ns {l a}(h:l <+: a)(d:α)(b:i<l.length):a.getD i d=l.getD i d:=by obtain⟨r,rfl⟩:=h;simp[List.getD,a0s b]
def V9 {l a}(h:l <+: a) {x:α}(b:l[i]?=some x):a[i]?=some x:=by obtain⟨r,rfl⟩:=h;rw[a0s (a0d.1 b).1];omega
theorem asV{s'}(h:Ae s s')(V) {t}(ok:Lu s.n.length s.c.length s.a.length t):stM s' V t=stM s V t:=by
 have b:=ok.x;unfold stM;rw[Ns h.n [] ok.n];by_cases d:t.k=0
 .rw[a0n (by omega)]at b;rw[a0m d,a0m d,Ns h.c [] b]
 rw[a0m (by have:=ok.k;omega)]at b;rw[a0n d,a0n d,Ns h.a _ b]
def Nt(L x):L <+: l9 L x:=by unfold l9;split;exact a1t _ _;exact a0N _
def aoa(L x):L <+: pE L x:=by unfold pE;split;exact a1t _ _;exact a0N _
theorem aiU(L x)(h:iL L x<L.length):L[iL L x]=x:=by have:=List.findIdx_getElem (p:=(·==x)) (xs:=L) (w:=h);exact eq_of_beq this
theorem aeM(L x):(l9 L x)[iL L x]?=some x:=by grind [l9,Eg,iL,aiU]
def aob(L x):(pE L x)[C6 L x]?=some x:=by
 unfold pE;split
 .rename_i h;rw[h];simp
 rename_i h;have k:=alT L x;have i:C6 L x<L.length:=by omega
 have j:=List.findIdx_getElem (w:=i);rw[a0a i];have g:QE L[C6 L x] x=true:=j;generalize L[C6 L x]=y at *;obtain⟨a,b,c⟩:=y;obtain⟨d,e,f⟩:=x;simp[QE]at g;simp[g]
theorem GB {l:List α} {x d:α}(h:l[i]?=some x):l.getD i d=x:=by simp[List.getD,h]
def XA(bI:LB->gz)(s:CS):Prop:=∀(i:Nat) (v:LB),s.x[i]?=some v->s.a[i]?=some (bI v)
def Je(bI:LB->gz)(V:LB->LB)(m:CM):Bool:=if m.2.1=2\/m.2.1=3 then zn (bI m.2.2) (V m.1) else V m.1==m.2.2
theorem aoc(bI:LB->gz)(V)(a:m.2.1<=3):lG bI V m=(Je bI V m==IV m):=by grind [lG,Je,IV]
def akQ {re} {bI:LB->gz} {t}(h:Ph s)(b:XA bI s)(he:nP re bI s m=some (t,s1))(V) :
 Ae s s1/\XA bI s1/\stM s1 V t=Je bI V m:=by
 unfold nP at he;have j:=GB (d:=[]) (aeM s.n m.1);split at he
 .rename_i f;split at he
  .rename_i g;cases he;refine⟨⟨Nt _ _,a0N _,a0N _,a0N _⟩,b,?_⟩;have k:=b (iL s.x m.2.2) m.2.2 (by rw[a0a g,aiU _ _ g]);unfold stM Je;rw[a0n (by simp),a0m f];simp only;rw[j,GB k]
  rename_i g;split at he
  .cases he;have p:iL s.x m.2.2=s.x.length:=by have:=Eg s.x m.2.2;omega
   have l:XA bI { s with n:=l9 s.n m.1,x:=s.x++[m.2.2],a:=s.a++[bI m.2.2] }:=by
    intro i v e;simp only at e |-;by_cases o:i<s.x.length
    .rw[a0s o]at e;rw[a0s (by rw[<-h.xa];omega)];exact b i v e
    have q:i=s.x.length:=by have:=(a0d.1 e).1;simp at this;omega
    subst q;simp at e;subst e;rw[h.xa];simp
   refine⟨⟨Nt _ _,a0N _,a1t _ _,a0N _⟩,l,?_⟩;have k:(s.a++[bI m.2.2])[iL s.x m.2.2]?=some (bI m.2.2):=by rw[p,h.xa];simp
   unfold stM Je;rw[a0n (by simp),a0m f];simp only;rw[j,GB k]
  cases he
 rename_i f;cases he;refine⟨⟨Nt _ _,Nt _ _,a0N _,a0N _⟩,b,?_⟩;unfold stM Je;rw[a0m rfl,a0n f];simp only;rw[j,GB (aeM _ _)]
def aeN {re} {bI:LB->gz}(o:∀v,re v=0->Mo (bI v))(V):∀M s acc {l s1},Ph s->XA bI s->(∀m∈M,Qf m)->nu re bI s acc M=.ok (l,s1) ->
 Ae s s1/\XA bI s1/\∃d,l=acc++d/\∀s',Ae s1 s'->allT (stT s' V) d=M.all (lG bI V)
 | [],s,acc,l,s1,h,f,_,e=>by
   rw[nu]at e;cases e;exact⟨Ae.refl _,f,[],by simp,λs' _=>rfl⟩
 | m::r,s,acc,l,s1,h,f,j,e=>by
   rw[nu]at e;split at e
   .cases e
   rename_i t s2 ht;obtain⟨p,C,B⟩:=aeG o h (j m (by simp)) ht;obtain⟨w,u,q⟩:=akQ h f ht V;have b:Ae s2 { s2 with t:=pE s2.t t }:=⟨a0N _,a0N _,a0N _,aoa _ _⟩;obtain⟨k1,k2,d,z,y⟩:=aeN o V r _ _ p u (λx f=>j x (by simp[f])) e;refine⟨(w.trans b).trans k1,k2,(C6 s2.t t,IV m)::d,by rw[z];simp,λs' k=>?_⟩;have g:=aob s2.t t;have i:s'.t[C6 s2.t t]?=some t:=V9 k.t (V9 k1.t g);have ok:Lu s2.n.length s2.c.length s2.a.length t:=p.t t (a0B g);have A:stT s' V (C6 s2.t t)=Je bI V m:=by unfold stT;rw[i];simp only;rw[asV ((b.trans k1).trans k) V ok,q]
   show(stT s' V (C6 s2.t t)==IV m&&allT (stT s' V) d)=_;rw[y s' k,A,a1P,aoc bI V (j m (by simp)).kind]
theorem ab8 {re} {bI:LB->gz}(p:∀v,re v=0->Mo (bI v))(V):∀C s i {s1},Ph s->XA bI s->(∀c∈C,xN c)->pread re bI s i C=.ok s1 ->
 Ae s s1/\s.q <+: s1.q/\∀j c,C[j]?=some c->∀s',Ae s1 s'->allT (stT s' V) (s1.q.getD (s.q.length+j) [])=c.ifs.all (lG bI V)
 | [],s,i,s1,h,b,_,e=>by grind [pread,Ae.refl]
 | c::r,s,i,s1,h,b,hC,e=>by
   rw[pread]at e;have o:=hC c (by simp);split at e
   .cases e
   rename_i l s2 k;obtain⟨d,E,D⟩:=ab4 p c.ifs s [] h o.ifs (by simp) k;obtain⟨B,A,G,u,z⟩:=aeN p V c.ifs s [] h b o.ifs k;have hq:=aeH c.ifs s [] k;have H:=o.ifl;simp at D u;subst u;obtain⟨k1,k2,w⟩:=ab8 p V r { s2 with q:=s2.q++[l] } (i+1) ⟨d.n,d.c,d.a,d.xa,d.t,λx b=>by
    rcases a0e.1 b with f|f
    .exact d.q x f
    .rw[a0w.1 f];omega,λx b=>by
    rcases a0e.1 b with f|f
    .exact d.ql x f
    rw[a0w.1 f];omega⟩ A (λx b=>hC x (by simp[b])) e
   have g:Ae s2 { s2 with q:=s2.q++[l] }:=⟨a0N _,a0N _,a0N _,a0N _⟩;simp only[hq]at k2 w;refine⟨(B.trans g).trans k1,(a1t _ _).trans k2,λj F m s' y=>?_⟩;cases j with
   | zero=>simp at m;subst m;have:s1.q[s.q.length+0]?=some l:=V9 k2 (by simp);rw[GB this];exact z s' ((g.trans k1).trans y)
   | succ j=>have:=w j F (by simpa using m) s' y;rw[a0p,a0X]at this;rw[show s.q.length+(j+1)=s.q.length+1+j by omega];omega
def hold(bI:LB->gz)(V:LB->LB)(C:List CR)(c:Nat):Bool:=match C[c]? with | some x=>x.ifs.all (lG bI V)|none=>false
def mX(H:Nat->Bool)(C:List CR)(S:Nat->LN):LN->LN
 | []=>[]
 | c::r=>if H c then S c++(if (C[c]?.map (·.co))=some true then mX H C S r else []) else mX H C S r
def iw(H:Nat->Bool)(C:List CR):Nat->Nat->LN
 | 0,_=>[]
 | f+1,r=>if (kids C r).any H then mX H C (iw H C f) (kids C r) else [r]
theorem aiV {T C q H S S'}:∀K:LN,(∀c∈K,allT T (q.getD c [])=H c/\S c=S' c)->Di T C q S K=mX H C S' K
 | [],_=>rfl
 | c::r,h=>by rw[Di,mX,(h c (by simp)).1,(h c (by simp)).2,aiV r (λx a=>h x (by simp[a]))]
theorem amd {T C q H}(h:∀c,c<C.length->allT T (q.getD c [])=H c):∀f r,sent T C q f r=iw H C f r
 | 0,_=>rfl
 | f+1,r=>by
   have a:∀c∈kids C r,allT T (q.getD c [])=H c/\sent T C q f c=iw H C f c:=λc b=>⟨h c (kX b).1,amd h f c⟩;rw[sent,iw,aiV _ a];have:(kids C r).any (λc=>allT T (q.getD c []))=(kids C r).any H:=by grind
   rw[this]
theorem aod {re} {bI:LB->gz}(g:∀v,re v=0->Mo (bI v)) {C}(ht:t.length<=1048576)(h:jH t=.ok (L,C))(d:pread re bI lT 0 C=.ok s)(V) :
 runM (iZ C s) V (iZ C s).code.length 0=iw (hold bI V C) C 6 0:=by
 obtain⟨u,j,D,B⟩:=pI h;have e:=(qT _ _ _ ht u).2.2;have a:Ph lT:=⟨by simp[lT],by simp[lT],by simp[lT],rfl,by simp[lT],by simp[lT],by simp[lT]⟩;obtain⟨k1,k2,A⟩:=V7 g C lT 0 0 a ⟨by simp[lT],by simp[lT],by simp[lT],by simp[lT],by simp[lT]⟩ e d;obtain⟨_,_,p⟩:=ab8 g V C lT 0 a (λi v b=>by simp[lT]at b) e d;have y:C.isEmpty=false:=by cases C with | nil=>simp at j|cons=>rfl
 have k:GL [⟨0,0,0,0⟩]:=by intro i b;simp at b;subst b;exact .inl rfl
 obtain⟨o,n,z⟩:=C9 _ _ 6 0 0 [⟨0,0,0,0⟩] k (by simp);have l:=ab1 C (nt:=s.t.length) k1.q 6 0 0 [⟨0,0,0,0⟩] j (by intro x r;rw[a0w.1 r];exact .inl ⟨rfl,rfl,rfl,rfl⟩);have w:(iZ C s).code=mH (ig C s.q 6 0 0 [⟨0,0,0,0⟩]).2 (ig C s.q 6 0 0 [⟨0,0,0,0⟩]).1:=by show C8 C s.q=_;unfold C8;rw[y];rfl
 rw[an9 (m:=iZ C s) o (nr:=C.length) l _ n w V,(aeL _ C s.q 6 0 0 [⟨0,0,0,0⟩] k (by simp)).2,aro];have:rl (stT s V) [(⟨0,0,0,0⟩:bX)] 0=[]:=rfl;rw[this,a0R];refine amd (λc f=>?_) 6 0;have:=p c C[c] (a0a f) s (Ae.refl _);unfold hold;rw[a0a f];rw[show lT.q.length+c=c from a1n c]at this;omega
theorem LR.take {a L}(h:LR w (.slice a n cap) L)(j)(m:j<=L.length):LR w (.slice a j cap) (L.take j):=by
 obtain⟨q,p,e,o,l⟩:=h;simp at e;obtain⟨rfl,rfl,rfl⟩:=e;have b:(L.take j).length=j:=by simp;omega
 refine⟨a,cap,by rw[b],by omega,?_⟩;intro i c;rw[b]at c;obtain⟨g,off,rfl,k,f,d⟩:=l i (by omega);exact⟨g,off,rfl,k,by rw[List.getElem_take];omega,by rw[List.getElem_take];omega⟩
def ab9 {x}(ok:Mo x) {s}(b:s<x.acc.length)(c:UInt8):s*x.k+x.cl.getD c.toNat 0<x.nx.length/\x.nx.getD (s*x.k+x.cl.getD c.toNat 0) 0<x.acc.length:=by
 have d:c.toNat<x.cl.length:=by rw[ok.cl];exact c.toNat_lt
 have g:x.cl.getD c.toNat 0<x.k:=ok.cls _ (by simp[List.getD,d]);have f:s*x.k+x.k<=x.acc.length*x.k:=by
  have:=a0z x.k (Nat.succ_le_of_lt b);rwa [Nat.succ_mul]at this
 have a:s*x.k+x.cl.getD c.toNat 0<x.nx.length:=by rw[ok.nx];omega
 refine⟨a,ok.nxs _ ?_⟩;have e:x.nx.getD (s*x.k+x.cl.getD c.toNat 0) 0=x.nx[s*x.k+x.cl.getD c.toNat 0]:=by rw[a0x,a0a a];rfl
 rw[e];exact a0u _
theorem aiX {a}(ok:Mo a) {B}(e:a.acc=B.map λb=>if b then 1 else 0):∀v s,s<a.acc.length->(a.acc.getD (yC a s v) 0==1)=tkP a.k a.cl B a.nx s v
 | [],s,d=>by grind [yC,tkP]
 | c::v,s,d=>by obtain⟨g,f⟩:=ab9 ok d c;rw[yC,tkP,a0m g];exact aiX ok e v _ f
def aoe(he:fF t=some e)(c:gH t=0)(v):zn (gQ t) v=true↔Rg e (v.map (·.toNat)):=by
 obtain⟨f,a,d,_⟩:=VX c;rw[he]at a;cases a;have ok:=ab5 t c;rw[<-an7 (mQ he).1 d v];have b:gQ t=⟨(kZ e).length,ach e,(eu e).2.1.map λu=>if dK (dW (bn e) u) then 1 else 0,(eu e).2.2⟩:=by unfold gQ;rw[he]
 have:=aiX ok (B:=(eu e).2.1.map λu=>dK (dW (bn e) u)) (by rw[b];generalize (eu e).2.1=S;simp) v 0 (by have:=ok.s1;omega);unfold zn;rw[this,b]
theorem CfR.aC{b w' cb base C X}(h:CfR b w cb base C X)(f:aB [] w w'):CfR b w' cb base C X:=by obtain⟨vr,c,d⟩:=h.cf;exact⟨h.lo,h.up,⟨vr,c,d.aC f (by simp)⟩,λx a=>(h.rb x a).aC f (by simp),h.rc,λx a=>(h.Im x a).aC f (by simp),λx a=>(h.kd x a).aC f (by simp),h.ifs.aC f,h.nd,h.eq⟩
def ReM(w:World)(q:Option Addr)(m:CM):Prop:=(m.2.1=2\/m.2.1=3)->∃n e,q=some (zA n)/\fF m.2.2=some e/\RN w n (gW e)/\gH m.2.2=0
theorem XF(he:fF t=some e)(c:gH t=0)(v) {b}(hb:b=true↔Rt (gW e) (v.map (·.toNat))):b=zn (gQ t) v:=by
 have a:=aoe he c v;rw[<-abB e (mQ he).1,<-hb]at a;cases b<;>cases hh:zn (gQ t) v
 .rfl
 .exact absurd (a.1 hh) (by simp)
 .exact absurd (a.2 rfl) (by rw[hh];simp)
 rfl
def aiY(w g o m q v L)(H:zC w g o (zT m.1))(l:zC w g (o+1) (zT (jr m.2.1)))(G:zC w g (o+2) (zT m.2.2))(J:zC w g (o+3) (.pointer q))
 (hq:ReM w q m) (D:m.2.1<=3) (B:LR w v L) (p:(dH L m.1).length<=900) :
 zF 54 #[.pointer (some (zB g o)),v] w λe w'=>e=zR (.bool (lG gQ (dH L) m))/\aB [] w w':=by
 have h:=aj (aiH _ _ m.1 _ B);have:=aT;have:({ data:=#[61] }:ByteArray).toList=[61]:=aT _;have:({ data:=#[33,61] }:ByteArray).toList=[33,61]:=aT _;have:({ data:=#[61,126] }:ByteArray).toList=[61,126]:=aT _;obtain⟨_,M,rfl,_⟩:=B;obtain⟨c,mk,mv⟩:=m;simp only at H l G D p h;have s:=aj hq;obtain⟨V,d⟩:∃V,V=dH L c:=⟨_,rfl⟩;rw[<-d]at h p;have r:=aj d;clear hq d;have E:mk=0\/mk=1\/mk=2\/mk=3:=by omega
 rcases E with rfl|rfl|rfl|rfl
 .have e:jr 0=[61]:=rfl;rw[e]at l;have b:Z_ (lG gQ (dH L) (c,0,mv)=(V==mv)):=by show _=_;rw[r.o];rfl
  cases hb:(V==mv);all_goals
   rw[hb]at b;delta zF;go_in;go_wp2_with fail;refine(h.o).mono ?_;rintro e t ⟨rfl,rfl⟩;go_wp2;go_ret;rw[b.o];exact⟨rfl,aB.refl _ _⟩
 .have e:jr 1=[33,61]:=rfl;rw[e]at l;have b:Z_ (lG gQ (dH L) (c,1,mv)=!(V==mv)):=by show _=_;rw[r.o];rfl
  cases hb:(V==mv);all_goals
   rw[hb]at b;delta zF;go_in;go_wp2_with fail;refine(h.o).mono ?_;rintro e t ⟨rfl,rfl⟩;go_wp2;go_ret;rw[b.o];exact⟨rfl,aB.refl _ _⟩
 .have e:jr 2=[61,126]:=rfl;rw[e]at l;obtain⟨n,x,rfl,a,j,hz⟩:=s.o (.inl rfl);have b:Z_ (lG gQ (dH L) (c,2,mv)=zn (gQ mv) V):=by show _=_;rw[r.o];rfl
  have u:=aj (Xp w n (gW x) V j (Nh x (mQ a).1) (Ii x (zM a)) p);have A:=aj a;have z:=aj hz;clear a j hz s;delta zF;go_in;go_wp2_with fail;refine(h.o).mono ?_;rintro e t ⟨rfl,rfl⟩;go_wp2_with fail;refine(u.o).mono ?_;rintro e C ⟨y,rfl,i,k⟩;have f:Z_ (lG gQ (dH L) (c,2,mv)=y):=by show _=_;rw[b.o];exact(XF A.o z.o V i).symm
  have F:=aj k;clear i k;go_wp2;go_ret;rw[f.o];exact⟨rfl,F⟩
 have e:jr 3=[33,126]:=rfl;rw[e]at l;obtain⟨n,x,rfl,a,j,hz⟩:=s.o (.inr rfl);have b:Z_ (lG gQ (dH L) (c,3,mv)=!zn (gQ mv) V):=by show _=_;rw[r.o];rfl
 have u:=aj (Xp w n (gW x) V j (Nh x (mQ a).1) (Ii x (zM a)) p);have A:=aj a;have z:=aj hz;clear a j hz s;delta zF;go_in;go_wp2_with fail;refine(h.o).mono ?_;rintro e t ⟨rfl,rfl⟩;go_wp2_with fail;refine(u.o).mono ?_;rintro e C ⟨y,rfl,i,k⟩;have f:Z_ (lG gQ (dH L) (c,3,mv)=!y):=by show _=_;rw[b.o,XF A.o z.o V i]
 have F:=aj k;clear i k;go_wp2;go_ret;rw[f.o];exact⟨rfl,F⟩
theorem Ls.at {v} {c:CR}(h:Ls w v (c.ifs.map qG) (λ_=>True))(z:∀m∈c.ifs,(m.2.1=2\/m.2.1=3)->gH m.2.2=0) :
 ∃a cap,v=.slice a c.ifs.length cap/\∀k m,c.ifs[k]?=some m->∃g q,a=some ⟨g,0,none⟩/\w.cell? ⟨g,k*4,none⟩=some (.string (bs m.1))/\w.cell? ⟨g,k*4+1,none⟩=some (.string (bs (jr m.2.1)))/\w.cell? ⟨g,k*4+2,none⟩=some (.string (bs m.2.2))/\w.cell? ⟨g,k*4+3,none⟩=some (.pointer q)/\ReM w q m:=by
 obtain⟨a,cap,i,A,f⟩:=h;rw[a0y]at i f;refine⟨a,cap,i,λk m d=>?_⟩;rcases f with f|⟨g,cur,e,r,l⟩
 .have:=(a0d.1 d).1;omega
 obtain⟨c0,c1,c2,q,c3,hd,hq⟩:=l k (qG m) (by rw[a0Q,d];rfl);have cc:∀o u,cur[o]?=some u->w.cell? ⟨g,o,none⟩=some u:=λo u h=>by rw[cell_of_row w g o cur _ _ r];omega
 refine⟨g,q,e,cc _ _ c0,cc _ _ c1,cc _ _ c2,cc _ _ c3,λj=>?_⟩;have b:Ef (qG m)=true:=by rw[aiD];simpa using j
 cases q with
 | none=>exact absurd rfl (hd trivial b)
 | some p=>obtain⟨n,x,y,t,s⟩:=hq p rfl;exact⟨n,x,by rw[y],t,s,z m (a0B d) j⟩
theorem acB(w b rv)(c:CR)(v L)(J:qz w b rv)(z:Ls w rv.iJ (c.ifs.map qG) (λ_=>True))(E:∀m∈c.ifs,(m.2.1=2\/m.2.1=3)->gH m.2.2=0)(O:∀m∈c.ifs,m.2.1<=3)(N:c.ifs.length<=1000)(R:LR w v L)(P:∀n,(dH L n).length<=900) :
 Calls Tryz.prog 39 #[.pointer (some ⟨b,0,none⟩),v] w λe w'=>e=.returned (.bool (c.ifs.all (lG gQ (dH L))))/\aB [] w w':=by
 obtain⟨a,cap,p,_⟩:=z.at E;have Z:=aj J;have D:=aj z;have A:=aj E;have HK:=aj O;have C:=aj R;have HV:=aj P;obtain⟨av,cv,rfl,_⟩:=R;obtain⟨M,r⟩:∃M,M=c.ifs:=⟨_,rfl⟩;rw[<-r]at p N;have B:=aj r;obtain⟨n,u⟩:∃n,n=M.length:=⟨_,rfl⟩;rw[<-u]at p N;have s:=aj u;have j:=aj p;have HD:Z_ (∀W,aB [] w W->W.cell? ⟨b,5,none⟩=some (.slice a n cap)):=λW d=>by
  have:=(Z.o.aC d (by simp)).cell 5;rw[this,<-j.o];rfl
 rw[<-r];clear J z E O P r p u;go_in;go_wp2_with fail;go_loopg [5] n (λk v5 wr=>∃(i:Nat),i+k=n/\v5=.int .i64 i/\aB [] w wr/\(M.drop i).all (lG gQ (dH L))=M.all (lG gQ (dH L)));case atStart=>exact⟨0,by omega,rfl,aB.refl _ _,rfl⟩
 case round =>
  obtain⟨i,_,rfl,d,t⟩:=hrel;have F:=aj d;have G:=aj t;have:=HD.o wr d;by_cases T:i<n
  .obtain⟨m,h⟩:∃m,M[i]?=some m:=⟨M[i]'(by rw[<-s.o];exact T),a0a (by rw[<-s.o];exact T)⟩;have V:m∈c.ifs:=by rw[<-B.o];exact a0B h
   obtain⟨_,_,x,aO⟩:=(D.o.aC d).at A;rw[j.o,<-B.o,<-s.o]at x;simp[Value.slice.injEq,a1W]at x;obtain⟨g,q,e2,k0,k1,k2,I,H⟩:=aO i m (by rw[<-B.o];exact h);obtain⟨rfl,rfl⟩:=x;subst e2;have Y:=aj (aiY wr g (i*4) m q (.slice av L.length cv) L k0 k1 k2 I H (HK.o m V) (C.o.aC d (by simp)) (HV.o _));have U:M.drop i=m::M.drop (i+1):=by
    have h1:=(a0d.1 h).1;rw[a0k h1,(a0d.1 h).2]
   have f:=G.o;rw[U,a1P]at f;have X:=aj f;clear d t G f h V aO k0 k1 k2 I H U;generalize lG gQ (dH L) m=y at *;go_wp2_with fail;refine(Y.o).mono ?_;rintro e _ ⟨rfl,S⟩;have F1:=aj (F.o.trans S);clear S Y;cases y
   .have l:Z_ (M.all (lG gQ (dH L))=false):=by show _=_;rw[<-X.o];rfl
    go_wp2;go_ret;rw[l.o];exact⟨rfl,F1⟩
   have l:Z_ ((M.drop (i+1)).all (lG gQ (dH L))=M.all (lG gQ (dH L))):=by show _=_;rw[<-X.o];simp
   go_wp2;go_roundg (gk-1);case measure=>omega
   case rel=>exact⟨i+1,by omega,by go_num,F1,l⟩
  have l:Z_ (M.all (lG gQ (dH L))=true):=by
   show _=_;rw[<-G.o,a0i (by have:=s.o;omega)];rfl
  clear d t;go_wp2;go_ret;rw[l.o];exact⟨rfl,F⟩
def aca(t y)(h:-1<=t):(t=-1/\uk t y=y)\/∃n:Nat,t=(n:Int)/\uk t y=n:=by
 unfold uk;by_cases e:t=-1
 .exact .inl ⟨e,a0m e⟩
 right;refine⟨t.toNat,by omega,?_⟩;rw[a0n e]
theorem arp {base g jM}(h:SL base w (.slice (some ⟨g,0,none⟩) n cap) ([58]::jM)):n=jM.length+1/\n<=cap/\∀j (hj:j<jM.length),g<w.heap.size/\w.cell? ⟨g,1+j,none⟩=some (.string (bs jM[j])):=by
 obtain⟨a,c,e⟩:=h.shape;simp[Value.slice.injEq,a0r]at e;refine⟨e.2.1,?_,λj hj=>?_⟩
 ·rcases h.2 with⟨e0,_⟩|⟨g',c',cur,e0,_,_,h3,_⟩
  ·simp at e0
  simp[Value.slice.injEq,a0r]at e0;rw[e.2.1,e0.2.2];omega
 have hc:=h.cell (1+j) (by simp;omega);refine⟨World.block_lt_of_cell? w _ hc,?_⟩;rw[hc];simp[a0x,a2w 1 j,a0a hj]
def TlQ(b:World)(x:kN)(w:World)(e:Ending)(w':World):Prop:=∃a c,e=zR (.agg (aO x (.slice a x.bl.length c)))/\RW [] 1 b (.slice a x.bl.length c) (sc x.bl)/\aB [] w w'
def akS(h w:World)(b base:Nat)(rv:iY)(c:CR)(y:kN)(I:Option Addr)(H:Nat)(U:aB [] h w)(P:qz h b rv)(rP:rv.rc=c.rc)(Qh:rv.t0=c.wt)(iB:rv.t1=c.ev)(Dm:rv.t2=c.rp)(q:SL base h rv.ek (byW c.tb c.jM))(hg:-1<=c.wt/\-1<=c.ev/\-1<=c.rp/\c.wt<=99999/\c.ev<=99999/\c.rp<=99999)(jE:c.jM.length<=1000)
 (R:RW [] 1 h (.slice I y.bl.length H) (sc y.bl)) :
 zF 40 #[zP b,.agg (aO y (.slice I y.bl.length H))] w (TlQ h (ny y c) w):=by
 have kM:b<w.heap.size:=a0t P.lt U.size;have s:=P.aC U (by simp);obtain⟨rc,ek,t0,t1,t2,iJ,YJ,vk,vd,alY⟩:=rv;simp only at rP Qh iB Dm q;subst rP Qh iB Dm;have d0:zC w b 0 (zT c.rc):=s.cell 0;have d1:zC w b 1 ek:=s.cell 1;have d2:zC w b 2 (zI c.wt):=s.cell 2;have d3:zC w b 3 (zI c.ev):=s.cell 3;have d4:zC w b 4 (zI c.rp):=s.cell 4;have Bh:=aT;have k45:({ data:=#[45] }:ByteArray).toList=[45]:=aT _;obtain⟨n,C⟩:∃r,r=(if c.rc == [45] then y.rc else c.rc):=⟨_,rfl⟩;have L:ny y c=⟨n,(if c.tb then c.jM else y.bl),uk c.wt y.wt,uk c.ev y.ev,uk c.rp y.rp⟩:=by rw[C];rfl
 obtain⟨yr,yb,O,N,M⟩:=y;simp only at R C L |-;have FA:∀v o2:Obj,aB [] w ((w.alloc v).alloc o2):=λv o2=>((aB.refl [] w).alloc _).alloc _;have HB:∃(Y:Option Addr) (nb cb:Nat) (m:Option Addr) (i:Nat),ek=.slice Y nb cb/\RW [] 1 h (.slice m (if c.tb then c.jM else yb).length i) (sc (if c.tb then c.jM else yb)) /\
  ((c.tb=false/\nb=0/\m=I/\i=H)\/(c.tb=true/\∃g,Y=some (zA g)/\nb=c.jM.length+1/\nb<=cb/\((cb=1/\m=some (zA g)/\i=0)\/(2<=cb/\m=some (zB g 1)/\i=cb-1)))):=by
  cases t:c.tb
  .rw[t]at q;obtain⟨a,cap,e⟩:=q.shape;exact⟨a,0,cap,I,H,e,R,.inl ⟨rfl,rfl,rfl,rfl⟩⟩
  rw[t]at q;have p:SL base h ek ([58]::c.jM):=q;obtain⟨a,cap,e⟩:=p.shape;obtain⟨g,rfl⟩:∃g,a=some (zA g):=by
   rcases p.2 with⟨_,x⟩|⟨g,c',cur,f,_⟩
   .simp at x
   rw[e]at f;simp at f;exact⟨g,f.1⟩
  subst e;obtain⟨o,d,h3⟩:=arp p;by_cases kL:cap=1
  .have W:c.jM=[]:=a0S (by simp at o d;omega);refine⟨_,_,cap,some (zA g),0,rfl,?_,.inr ⟨rfl,g,rfl,o,d,.inl ⟨kL,rfl,rfl⟩⟩⟩;rw[W];exact⟨_,0,rfl,by simp[sc],λj G=>by simp[sc]at G⟩
  refine⟨_,_,cap,some (zB g 1),cap-1,rfl,?_,.inr ⟨rfl,g,rfl,o,d,.inr ⟨by simp at d;omega,rfl,rfl⟩⟩⟩;refine⟨_,cap-1,by rw[iC],by rw[iC];simp at d |-;omega,λj G=>?_⟩;rw[iC]at G;obtain⟨q1,q2⟩:=h3 j (by simpa using G);refine⟨g,1,rfl,by simp,q1,λk u S=>?_⟩;have T:k=0:=by
   cases k with
   | zero=>rfl
   | succ k=>simp[sc]at S
  subst T;simp[sc]at S;subst S;simpa using q2
 obtain⟨Y,nb,cb,m,i,rfl,Li,X⟩:=HB;obtain⟨B,J⟩:∃l,l=(if c.tb then c.jM else yb):=⟨_,rfl⟩;rw[<-J]at Li L;have TJ:∀(F E D:Nat),uk c.wt O=F->uk c.ev N=E->uk c.rp M=D->∀v:Obj,TlQ h (ny ⟨yr,yb,O,N,M⟩ c) w (zR (.agg #[zT n,.slice m B.length i,zI (F:Nat),zI (E:Nat),zI (D:Nat)])) ((w.alloc v).alloc (.cells #[zT n,.slice m B.length i,zI (F:Nat),zI (E:Nat),zI (D:Nat)] 68)):=by intro F E D f A z v;rw[L,f,A,z];exact⟨m,i,rfl,Li,FA _ _⟩
 have Ko:c.jM.length<=1000:=jE;obtain⟨IU,IE,iM,hu0,hu1,hu2⟩:=hg;have T0:=aca c.wt O IU;have T1:=aca c.ev N IE;have T2:=aca c.rp M iM;have kv:b<w.heap.size+1:=by omega
 clear P s q R U jE L FA Li;simp only[aO];delta zF;go_in;rcases X with⟨t,rfl,rfl,rfl⟩|⟨t,g,rfl,rfl,ay3,⟨rfl,rfl,rfl⟩|⟨ay4,rfl,rfl⟩⟩;all_goals
  rw[t]at J;simp only[a0A,a0I,a0G]at J;subst J;have Vz:0<c.jM.length+1:=by omega
  cases V:(c.rc == [45]);all_goals
   rw[V]at C;simp only[a0A,a0I,a0G]at C;subst C;rcases T0 with⟨x,f⟩|⟨n0,x,f⟩;all_goals
    rw[x]at d2;rcases T1 with⟨o,A⟩|⟨n1,o,A⟩;all_goals
     rw[o]at d3;rcases T2 with⟨d,z⟩|⟨n2,d,z⟩;all_goals
      rw[d]at d4;have Z:=TJ _ _ _ f A z;clear TJ f A z x o d;go_wp2;refine bodyPost_ret (qE rfl _ _ (w.heap.size+1) _ rfl (Gl (Nf _ _ _) rfl)) rfl ?_
      first
       | exact Z _
       | (have hz:c.jM.length=0:=by omega
          rw[hz]at Z;exact Z _)
theorem Wd {H C S}:∀K:LN,K.any H=true->(∀c∈K,S c≠[])->mX H C S K≠[]
 | [],h,_=>by simp at h
 | c::r,h,b=>by
   rw[mX];cases a:H c
   .simp_all[Wd]
   simp_all
inductive sS (C:List CR) (r:Nat):Nat->Prop
 | self:sS C r r
 | step {j p:Nat}:par C j=some p->sS C r p->sS C r j
def sS.ge {C}(h:sS C r j):r<=j:=by
 induction h with
 | self=>omega
 | step a _ b=>have:=En a;omega
def sS.up {C c}(d:par C c=some r)(h:sS C c j):sS C r j:=by
 induction h with
 | self=>exact .step d .self
 | step b _ a=>exact .step b a
theorem sS.one {C a b}(f:par C a=some r)(hb:par C b=some r)(l:sS C a j)(g:sS C b j):a=b:=by
 induction l with
 | self =>
   cases g with
   | self=>rfl
   | step c e =>
     rw[f]at c;cases c;have d:=e.ge;have k:=En hb;omega
 | step c e i =>
   cases g with
   | self =>
     rw[hb]at c;cases c;have d:=e.ge;have k:=En f;omega
   | step h d =>
     rw[c]at h;cases h;exact i d
theorem Jg {H C S}:∀K:LN,∀x∈mX H C S K,∃c∈K,x∈S c
 | [],x,h=>by simp[mX]at h
 | c::r,x,h=>by
   rw[mX]at h;split at h
   .rcases a0e.1 h with h|h
    .exact⟨c,by simp,h⟩
    split at h
    .obtain⟨d,hd,a⟩:=Jg r x h;exact⟨d,by simp[hd],a⟩
    simp at h
   obtain⟨d,hd,a⟩:=Jg r x h;exact⟨d,by simp[hd],a⟩
theorem Uu {H C S}:∀K:LN,K.Nodup->(∀c∈K,(S c).Nodup)->(∀c∈K,∀d∈K,∀x,x∈S c->x∈S d->c=d)->(mX H C S K).Nodup
 | [],_,_,_=>by simp[mX]
 | c::r,hK,hS,hD=>by
   have hr:=Uu (H:=H) (C:=C) r (a2R.1 hK).2 (λd hd=>hS d (by simp[hd])) (λa ha b hb=>hD a (by simp[ha]) b (by simp[hb]));rw[mX];split
   ·grind [hd,Jg]
   omega
def Uv {H C}:∀f r,r<C.length->(∀x∈iw H C f r,sS C r x/\x<C.length)/\(iw H C f r).Nodup
 | 0,r,_=>⟨by simp[iw],by simp[iw]⟩
 | f+1,r,i=>by
   rw[iw];split
   .have e:∀c∈kids C r,(∀x∈iw H C f c,sS C c x/\x<C.length)/\(iw H C f c).Nodup:=λc a=>Uv f c (kX a).1;refine⟨λx b=>?_,Uu _ (XE C r) (λc a=>(e c a).2) (λc a d hd x b h=>?_)⟩
    .obtain⟨c,a,g⟩:=Jg _ x b;have:=(e c a).1 x g;exact⟨this.1.up (kX a).2,this.2⟩
    exact sS.one (kX a).2 (kX hd).2 ((e c a).1 x b).1 ((e d hd).1 x h).1
   exact⟨λx b=>by rw[a0w.1 b];exact⟨.self,i⟩,by simp⟩
theorem arA {C c}(h:c∈kids C r) {x y}(f:C[r]?=some x)(e:C[c]?=some y):y.d=x.d+1:=by
 have a:=(kX h).2;unfold par at a;rw[e]at a;have go:∀(d i p:Nat),nQ C d i=some p->(C[p]?.map λc=>c.d+1)=some d:=by
  intro d i;induction i with
  | zero=>intro p h;simp[nQ]at h
  | succ i b =>
    intro p h;rw[nQ]at h;split at h
    .grind
    exact b p h
 have:=go _ _ _ a;rw[f]at this;simp at this;omega
theorem XG {H C}(hd:∀c∈C,c.d<=5):∀f r x,C[r]?=some x->6<=f+x.d->iw H C f r≠[]
 | 0,r,x,b,h=>by grind
 | f+1,r,x,b,h=>by
   rw[iw];split
   .rename_i g;refine Wd _ g (λc e=>?_);have a:=(kX e).1;have:=arA e b (a0a a);exact XG hd f c C[c] (a0a a) (by omega)
   simp
def akT {H C}(f r)(b:r<C.length):(iw H C f r).length<=C.length:=by obtain⟨d,c⟩:=Uv (H:=H) f r b;exact Gz _ _ c (λx a=>(d x a).2)
def Dw(C:List CR)(j:Nat):kN:=(fD C C.length).getD j ⟨[],[],0,0,0⟩
def acb(C):∀d n,fD C n <+: fD C (n+d)
 | 0,n=>a0N _
 | d+1,n=>by rw[show n+(d+1)=(n+d)+1 by omega,fD];exact(acb C d n).trans (a1t _ _)
theorem acd {C p}(a:p<n)(b:n<=C.length)(d):(fD C n).getD p d=Dw C p:=by have h:=acb C (C.length-n) n;rw[show n+(C.length-n)=C.length by omega]at h;unfold Dw;rw[Ns h _ (by rw[ry];omega)];simp[List.getD,ry,a]
theorem asW {C}(b:j<C.length):Dw C j=ny (match par C j with | some p=>Dw C p|none=>lQ) C[j]:=by
 rw[<-acd (n:=j+1) (by omega) (by omega) ⟨[],[],0,0,0⟩,fD,a0a b];rw[a0x,a0K (by rw[ry];omega),ry,a2v];show ny (uK C (fD C j) j) C[j]=_;unfold uK;cases a:par C j with
 | none=>rfl
 | some p=>simp only;rw[acd (En a) (by omega)]
theorem XI {C}:∀j i x,i<j->C[i]?=some x->x.d+1=d->(∀k y,i<k->k<j->C[k]?=some y->y.d+1≠d)->nQ C d j=some i
 | 0,i,x,h,_,_,_=>by omega
 | j+1,i,x,h,a,hd,b=>by
   rw[nQ];by_cases e:i=j
   .subst e;rw[a];simp[hd]
   have l:(C[j]?.map λc=>c.d+1)≠some d:=by grind
   rw[a0n l];exact XI j i x (by omega) a hd (λk y g m f=>b k y g (by omega) f)
structure GF(C:List CR)(b:Nat->Nat)(j:Nat)(B:LN)(K:Nat->LN):Prop where
 len:(j=0/\B=[])\/∃a,0<j/\C[j-1]?=some a/\B.length=a.d+1
 way:∀k,k<B.length->∃i x,i<j/\B[k]?=some (b i)/\C[i]?=some x/\x.d=k/\∀q y,i<q->q<j->C[q]?=some y->k<y.d
 Oe:∀i,i<C.length->K (b i)=((List.range j).filter λq=>par C q==some i).map b
theorem GF.step {C b B K}(r:Steps C)(hb:∀i k,i<C.length->k<C.length->b i=b k->i=k)(h:GF C b j B K) {c}(f:C[j]?=some c):GF C b (j+1) (IM (B,K) (b j,c.d)).1 (IM (B,K) (b j,c.d)).2:=by
 have N:=(a0d.1 f).1;have D:c.d<=B.length/\(0<j->1<=c.d)/\(j=0->c.d=0):=by
  rcases h.len with⟨v,F⟩|⟨a,v,E,F⟩
  .subst v;have:=(r.1 c f).1;omega
  have:=r.2 (j-1) a c E (by rw[show j-1+1=j by omega];omega);omega
 have m:(B.take c.d).length=c.d:=by rw[a1k];omega
 have o:par C j=(match (B.take c.d).getLast? with | none=>none|some u=>par C j)/\(∀u,(B.take c.d).getLast?=some u->∃i,i<j/\u=b i/\par C j=some i):=by
  by_cases hd:c.d=0
  .have J:(B.take c.d).getLast?=none:=by rw[hd];simp
   rw[J];refine⟨?_,λu g=>by simp at g⟩;have w:j=0:=by grind
   subst w;unfold par;rw[f];rfl
  obtain⟨i,x,l,G,t,P,O⟩:=h.way (c.d-1) (by omega);have I:(B.take c.d).getLast?=some (b i):=by grind
  have H:par C j=some i:=by grind [par,XI]
  rw[I];refine⟨rfl,λu g=>?_⟩;simp at g;exact⟨i,l,g.symm,H⟩
 refine⟨.inr ⟨c,by omega,by simpa using f,?_⟩,?_,?_⟩
 .grind [IM]
 .intro k n;simp only[IM]at n |-;rw[a0p,m]at n;simp at n;rcases a2a k c.d with l|l
  .obtain⟨i,x,U,T,M,L,S⟩:=h.way k (by omega);refine⟨i,x,by omega,?_,M,L,λq y b1 b2 R=>?_⟩
   .grind
   grind
  grind
 intro i A;have z:(List.range (j+1)).filter (λq=>par C q==some i)=(List.range j).filter (λq=>par C q==some i)++(if par C j==some i then [j] else []):=by
  rw[List.range_succ,a3v];congr 1;cases hh:(par C j==some i)<;>simp[hh]
 rw[z,a0P,<-h.Oe i A];simp[IM];cases s:(B.take c.d).getLast? with
 | none=>rw[s]at o;rw[o.1];simp
 | some u =>
   obtain⟨p,l,G,t⟩:=o.2 u s;simp only;rw[t];by_cases e:b i=u
   .grind
   grind
theorem aeO:∀{l:LN},l.Nodup->∀(i k x:Nat),l[i]?=some x->l[k]?=some x->i=k
 | [],_,i,k,x,h,_=>by simp at h
 | y::l,a,0,0,x,_,_=>rfl
 | y::l,a,0,k+1,x,c,b=>by grind
 | y::l,a,i+1,0,x,c,b=>by grind
 | y::l,a,i+1,k+1,x,c,b=>by simp at c b;rw[aeO (a2R.1 a).2 i k x c b]
theorem aiZ {C X}(hs:Steps C)(hd:X.map (λx=>x.2.2.d)=C.map (·.d))(hn:(X.map (·.1)).Nodup)(i)(hi:i<C.length):(sD (xd X)).2 ((X.map (·.1)).getD i 0)=(kids C i).map λj=>(X.map (·.1)).getD j 0:=by
 have hl:X.length=C.length:=by have:=congrArg List.length hd;simpa using this
 have hb:∀i k,i<C.length->k<C.length->(X.map (·.1)).getD i 0=(X.map (·.1)).getD k 0->i=k:=by grind [aeO]
 have key:∀j,j<=C.length->GF C (λk=>(X.map (·.1)).getD k 0) j (sD ((xd X).take j)).1 (sD ((xd X).take j)).2:=by
  intro j;induction j with
  | zero =>
    intro _;refine⟨.inl ⟨rfl,rfl⟩,λk hk=>?_,λi _=>?_⟩
    ·simp[sD]at hk
    simp[sD]
  | succ j ih =>
    intro hj;have hx:(xd X)[j]?=some ((X.map (·.1)).getD j 0,(C[j]'(by omega)).d):=by
     have h1:j<X.length:=by omega
     have h2:X[j].2.2.d=(C[j]'(by omega)).d:=by
      have:=congrArg (λl=>l[j]?) hd;simp only[a0Q,a0a h1,a0a (by omega:j<C.length)]at this;simpa using this
     unfold xd;rw[a0Q,a0a h1,a0x,a0Q,a0a h1];simp[h2]
    have e:sD ((xd X).take (j+1))=IM (sD ((xd X).take j)) ((X.map (·.1)).getD j 0,(C[j]'(by omega)).d):=by
     unfold sD;rw[a1c,hx];simp
    rw[e];exact GF.step hs hb (ih (by omega)) (a0a (by omega))
 have:=(key C.length (a0b _)).Oe i hi;rw[a0C (by simp[xd];omega)]at this;rw[this];unfold kids;congr 1;apply List.filter_congr;intro q hq;by_cases h:par C q=some i
 ·have:=En h;simp[h,this]
 simp[h]
theorem aeP {o} {Q:Exit->Act->World->Prop}(w)(p:o.guard=none)(s x t e z k f)
 (P:(Tryz.prog.info? e).map (λi=>(i.zero,i.size,i.bytes))=some (some z,k,f)) (ht:Tryz.prog.underlying t=some (.slice e)) (M:z.cells.size=k) (L:0<k)
 (ho:o.op=.call { callee:=.builtin .append,args:=#[s,x],argTypes:=#[t,t] })
 (base b2 v vs us c m c2 N) (A:a.eval s=v) (l:OW e k base w v vs) (r:a.eval x=zS c m c2) (d:OW e k b2 w (zS c m c2) us) (B:m=us.length) (O:0<m) (E:N=vs.length+m)
 (R:∀u∈us,∀y∈u,y.oneCell'=true) (hlen:(vs.length+m)*f<=140737488355328) (T:vs.length+m<=140737488355328) (n:base<=w.heap.size)
 (h:∀g cap w',OW e k base w' (zS g N cap) (vs++us)->w.grownBy w' v.ownBlock->(v.ownBlock=some g\/g=w.heap.size)->g<w'.heap.size->wpList Tryz.prog ops Q rest (a.put o.dst (zS g N cap)) w') :
 wpList Tryz.prog ops Q (o::rest) a w:=by
 subst E;subst B;obtain⟨q,D,gT,J,I⟩:=kg P;refine wpList_append_lies w p s x t ho base e q z k f ht D gT J I M L v vs.length vs.flatten A l.1 (zA c) us.length c2 us.flatten r (by rw[d.1.1]) ?_ ?_ O (by unfold maxLen;omega) hlen n w.heap.size rfl ?_
 .intro j u C;exact World.ownsRow.cells d.1 rfl j u C
 .grind [List.mem_flatten]
 intro g cap w' S H G F;refine h g cap w' ⟨?_,?_⟩ H G F
 .grind
 intro y b;rcases a0e.1 b with b|b
 .exact l.2 y b
 exact d.2 y b
def ars {o} {Q:Exit->Act->World->Prop}(w)(b:o.guard=none)(s x t e z k p)
 (n:(Tryz.prog.info? e).map (λi=>(i.zero,i.size,i.bytes))=some (some z,k,p)) (ht:Tryz.prog.underlying t=some (.slice e))
 (ho:o.op=.call { callee:=.builtin .append,args:=#[s,x],argTypes:=#[t,t] })
 (base v vs) (f:a.eval s=v) (m:OW e k base w v vs) (d:a.eval x=zN) (h:wpList Tryz.prog ops Q rest (a.put o.dst v) w) :
 wpList Tryz.prog ops Q (o::rest) a w:=by
 obtain⟨c,j,gT,r,q⟩:=kg n;have g:=run_append_owned_none w base t o.type e c k ht j v _ _ m.1;refine wpList_plain b λ_ l=>?_;unfold Oper.wp execOp;simp only[ho,resolve,invoke,builtin,Sem.run_bind,Sem.run_pure,Result.andThen_ok,List.map_toArray,a0E,a1V,f,d,g];exact l _ _ h
theorem Ml {H C S}:∀K:LN,K.any H=false->mX H C S K=[]
 | [],_=>rfl
 | c::r,h=>by simp_all[mX,Ml]
def YL(C:List CR)(j:Nat):kN:=match par C j with | some p=>Dw C p|none=>lQ
def asX {C c}(h:C[j]?=some c):Dw C j=ny (YL C j) c:=by have a:=(a0d.1 h).1;rw[asW a,(a0d.1 h).2];rfl
theorem aru {C}(h:j∈kids C i):par C j=some i:=by grind [kids]
def WkQ(c w:World)(a:List kN)(e:Ending)(w':World):Prop :=
 ∃v b,e=zR v/\OW 68 5 w.heap.size w' v (fZ b)/\dV Gj [] c b a/\aB [] w w'/\(a=[]->v=zN)
def akU {cs x}(h:Gj.rel [] w cs x):∀y∈cs.toList,y.oneCell'=true:=by obtain⟨c,rfl,a,cap,rfl,_⟩:=h;intro y b;simp[aO]at b;rcases b with rfl|rfl|rfl|rfl|rfl<;>rfl
theorem aeQ {d b}(h:dV Gj [] w d b):∀u∈fZ d,∀y∈u,y.oneCell'=true:=by intro u a y f;unfold fZ at a;obtain⟨cs,e,rfl⟩:=a0q.1 a;obtain⟨n,c⟩:=a1T e;have g:=(a0d.1 c).1;exact akU (h.2 n cs (b[n]'(by rw[<-h.1];omega)) c (a0a _)) y f
def aof {e b f gs}(h:dV Gj [] w e f)(k:dV Gj [] w b gs):dV Gj [] w (e++b) (f++gs):=by
 refine⟨by rw[a0p,a0p,h.1,k.1],λn cs x d c=>?_⟩;rcases a2a n e.length with a|a
 .rw[a0s a]at d;rw[a0s (by rw[<-h.1];omega)]at c;exact h.2 n cs x d c
 rw[a0K a]at d;rw[a0K (by rw[<-h.1];omega),<-h.1]at c;exact k.2 _ cs x d c
end
section
variable {w w' w0:World} {L:List kW} {v vL vb:Value} {b cb i k mb pb:Nat} {e t:TypeId} {a:Option Addr} {vs:List (List Value)} {A S:LN} {V:V6} {m:mP} {s:LB}
structure WCx(w0:World)(C:List CR)(X:List (Nat × iY × RR))(L:List kW)(vL:Value):Prop where
 cf:∃wA cb base,CfR wA w0 cb base C X
 st:Steps C
 ln:C.length<=16
 gd:∀c∈C,xN c/\c.d<=5
 re:∀c∈C,∀m∈c.ifs,(m.2.1=2\/m.2.1=3)->gH m.2.2=0
 lr:LR w0 vL L
 lv:∀n,(dH L n).length<=900
abbrev Dk(X:List (Nat × iY × RR))(i:Nat):Nat:=(X.map (·.1)).getD i 0
structure RtA(w0:World)(C:List CR)(X:List (Nat × iY × RR))(i:Nat)(c:CR)(rv:iY):Prop where
 rb:qz w0 (Dk X i) rv
 rc:rv.rc=c.rc/\rv.t0=c.wt/\rv.t1=c.ev/\rv.t2=c.rp/\rv.on=c.co
 Im:∃base,SL base w0 rv.ek (byW c.tb c.jM)
 kd:∃base,LP base w0 rv.vk ((kids C i).map (Dk X))
 ifs:Ls w0 rv.iJ (c.ifs.map qG) (λ_=>True)
theorem WCx.at {C X}(h:WCx w0 C X L vL) {c}(f:C[i]?=some c):∃rv,RtA w0 C X i c rv:=by
 obtain⟨j,cb,base,a⟩:=h.cf;have g:=(a0d.1 f).1;have k:X.length=C.length:=by have:=congrArg List.length a.eq;simpa using this
 obtain⟨x,b⟩:∃x,X[i]?=some x:=⟨X[i]'(by omega),a0a (by omega)⟩;have e:=a0B b;have hb:Dk X i=x.1:=by unfold Dk;rw[a0x,a0Q,b];rfl
 have he:x.2.2=qN c:=by have:=congrArg (λl=>l[i]?) a.eq;simp only[a0Q,b,f]at this;simpa using this
 have hd:X.map (λx=>x.2.2.d)=C.map (·.d):=by have:=congrArg (λl=>l.map RR.d) a.eq;simpa[a2m,Function.comp_def,qN] using this
 refine⟨x.2.1,?_,?_,⟨base,?_⟩,⟨base,?_⟩,?_⟩
 .rw[hb];exact a.rb x e
 .have:=a.rc x e;rw[he]at this;exact this
 .have:=a.Im x e;rw[he]at this;exact this
 .have:=a.kd x e;rw[<-hb,aiZ h.st hd a.nd i g]at this;omega
 have:=a.ifs i x b;rw[he]at this;exact this
def GH(H:Nat->Bool)(C:List CR)(f i:Nat):List kN:=if H i then (iw H C f i).map (Dw C) else []
def WkC(w0:World)(C:List CR)(X:List (Nat × iY × RR))(L:List kW)(vL:Value)(f:Nat):Prop :=
 ∀(i:Nat) (c:CR) (w:World) (a:Option Addr) (b:Nat),C[i]?=some c->6<=f+c.d->aB [] w0 w->RW [] 1 w0 (.slice a (YL C i).bl.length b) (sc (YL C i).bl) ->
  zF 25 #[zP (Dk X i),vL,.agg (aO (YL C i) (.slice a (YL C i).bl.length b))] w (WkQ w0 w (GH (hold gQ (dH L) C) C f i))
def asY{base n c}(h:OW e k base w (.slice a n c) vs):n<=c:=by
 rcases h.1.2 with⟨b,_⟩|⟨g,cap,cur,b,_,_,d,_⟩
 .simp[Value.slice.injEq]at b;omega
 simp[Value.slice.injEq]at b;omega
def akV {C X}(hx:WCx w0 C X L vL)(f)(ih:WkC w0 C X L vL f):WkC w0 C X L vL (f+1):=by
 intro i c w a cy hc hd hf hrw;obtain⟨rv,zV⟩:=hx.at hc;have hcm:=a0B hc;obtain⟨jP,hdp⟩:=hx.gd c hcm;obtain⟨u,hu⟩:∃u,u=YL C i:=⟨_,rfl⟩;rw[<-hu]at hrw |-;obtain⟨H,hHd⟩:∃H,H=hold gQ (dH L) C:=⟨_,rfl⟩;rw[<-hHd];have hH:c.ifs.all (lG gQ (dH L))=H i:=by rw[hHd];unfold hold;rw[hc]
 have Fa:Z_ (aB [] w (w.alloc (.cells (aO u (.slice a u.bl.length cy)) 68))):=(aB.refl [] w).alloc _;have B:=aj (hf.trans Fa);have R1:Z_ ((w.alloc (.cells (aO u (.slice a u.bl.length cy)) 68)).heap[w.heap.size]?=some (.cells (aO u (.slice a u.bl.length cy)) 68 (0,0))):=bD _ _;have NM:=aj (acB (w.alloc (.cells (aO u (.slice a u.bl.length cy)) 68)) (Dk X i) rv c vL L (zV.rb.aC B.o (by simp)) (zV.ifs.aC B) (hx.re c hcm) (λm hm=>(jP.ifs m hm).kind) (by have:=jP.ifl;omega) (hx.lr.aC B.o (by simp)) hx.lv);rw[hH]at NM;have HA:=asX hc;rw[<-hu]at HA;have HX:=aj hx;have Og:=aj zV;have IH:=aj ih;have Li:=aj hrw;have HGD:=aj jP;have HCI:=aj hc;have HHd:=aj hHd;have HHA:=aj HA;obtain⟨avL,cvL,evL,_⟩:=hx.lr;subst evL;have jE:Dk X i<w.heap.size:=a0t zV.rb.lt hf.size;have hd5:c.d<=5:=hdp;have hd6:6<=f+1+c.d:=hd;obtain⟨b,hb⟩:∃b,b=Dk X i:=⟨_,rfl⟩;rw[<-hb]at NM jE |-;have HB:=aj hb;obtain⟨ur,ub,u0,u1,u2⟩:=u;simp only at Li NM R1 Fa B |-;have Qb:=aj hf;clear hx zV ih hrw jP hc hHd HA hf hH hb hu hcm hdp hd;simp only[aO]at NM R1 Fa B |-;delta zF;go_in;go_wp2_with fail;refine(NM.o).mono ?_;rintro e w2 ⟨rfl,aR⟩;have F2:=aj (Fa.o.trans aR);have R2:w2.heap[w.heap.size]?=some (.cells #[zT ur,.slice a ub.length cy,zI (u0:Nat),zI (u1:Nat),zI (u2:Nat)] 68 (0,0)):=(aR.block w.heap.size (by simp) (by simp)).trans R1;have F20:=aj (B.o.trans aR);clear NM aR R1 Fa B;cases hy:H i
 case false =>
  have HO:Z_ (GH H C (f+1) i=[]):=by show _=_;unfold GH;rw[hy];rfl
  clear R2;go_wp2;go_ret;rw[HO.o];exact⟨zN,[],rfl,OW.nil _ _ _ _,dV.nil _ _ _,F2,λ_=>rfl⟩
 case true =>
 have d0:=aBa R2;have RR2:=aj R2;obtain⟨bb,xL⟩:=Og.o.Im;have Vy:=HGD.o;have NT:=aj (akS w0 w2 b bb rv c ⟨ur,ub,u0,u1,u2⟩ a cy F20.o (by rw[HB.o];exact Og.o.rb) Og.o.rc.1 Og.o.rc.2.1 Og.o.rc.2.2.1 Og.o.rc.2.2.2.1 xL ⟨Vy.wt.1,Vy.ev.1,Vy.rp.1,Vy.wt.2,Vy.ev.2,Vy.rp.2⟩ (by have:=Vy.byl;omega) Li);rw[<-HHA.o]at NT;simp only[aO]at NT;clear R2 xL Vy;go_wp2_with fail;refine(NT.o).mono ?_;rintro e w3 ⟨a3,c3,rfl,Ak,bW⟩;have F3:=aj (F2.o.trans bW);have R3:w3.heap[w.heap.size]?=some (.cells #[zT ur,.slice a ub.length cy,zI (u0:Nat),zI (u1:Nat),zI (u2:Nat)] 68 (0,0)):=(bW.block w.heap.size (a0c.1 RR2).1 (by simp)).trans RR2;obtain⟨y,hye⟩:∃y,y=Dw C i:=⟨_,rfl⟩;rw[<-hye]at Ak |-;have HYE:=aj hye;obtain⟨yr,yb,y0,y1,y2⟩:=y;have e0:=aBa R3;have R4:=aj (yZ (zT yr) (.slice a3 yb.length c3) (zI (y0:Nat)) (zI (y1:Nat)) (zI (y2:Nat)) R3);have F4:Z_ (aB [] w (((((w3.setCell (zA w.heap.size) (zT yr)).setCell (zB w.heap.size 1) (.slice a3 yb.length c3)).setCell (zB w.heap.size 2) (zI (y0:Nat))).setCell (zB w.heap.size 3) (zI (y1:Nat))).setCell (zB w.heap.size 4) (zI (y2:Nat)))):=F3.o.above (l8 _ _ _ _ _ _ _) (by simp);have PZ:=aj Ak;have HY:=aj hy;clear d0 RR2 R3 bW Ak hye NT F2 F3 hy;simp only[aO];obtain⟨K,hK⟩:∃K,K=kids C i:=⟨_,rfl⟩;have HK:=aj hK;obtain⟨bk,hkd⟩:=Og.o.kd;rw[<-hK]at hkd;have HKD:=aj hkd;obtain⟨ak,ck,Uc⟩:=aW hkd;rw[a0y]at Uc;have HVK:=aj Uc;obtain⟨nK,hnK⟩:∃n,n=K.length:=⟨_,rfl⟩;have HNK:=aj hnK;have hn16:nK<=16:=by
  rw[hnK,hK];have M:(kids C i).length<=C.length:=by unfold kids;exact a0h (List.length_filter_le _ _) (by simp)
  have h2:=HX.o.ln;omega
 obtain⟨E,I⟩:∃T,T=(mX H C (iw H C f) K).map (Dw C):=⟨_,rfl⟩;have axu:=aj I;have hS:∀j∈K,iw H C f j≠[]:=by
  intro j hj;rw[hK]at hj;have mK:=(kX hj).1;have:=arA hj HCI.o (a0a mK);exact XG (λc hc=>(HX.o.gd c hc).2) f j _ (a0a mK) (by omega)
 have HS:=aj hS;have hT16:E.length<=16:=by
  rw[I,a0y];cases ha:K.any H
  .rw[Ml K ha];simp
  have M:=akT (H:=H) (C:=C) (f+1) i (a0d.1 HCI).1;rw[iw,<-hK,a0m ha]at M;have h2:=HX.o.ln;omega
 have ame:Z_ (GH H C (f+1) i=if E.length=0 then [Dw C i] else E):=by
  show _=_;unfold GH;rw[HY.o,a0m rfl,iw,<-hK];cases ha:K.any H
  .rw[I,Ml K ha];simp
  have bJ:=Wd (C:=C) K ha hS;have:¬ E.length=0:=by
   rw[I,a0y];intro e;exact bJ (a0S e)
  rw[a0n this,a0m rfl,I]
 have HB7:Z_ (∀W,aB [] w0 W->zC W b 7 (.slice ak nK ck)):=λW hW=>by
  rw[HB.o];exact((Og.o.rb.aC hW (by simp)).cell 7).trans (by rw[hnK,<-HVK.o];rfl)
 clear hkd Uc hnK I hS hK;go_upto_block 0 with fail;generalize (((((w3.setCell (zA w.heap.size) (zT yr)).setCell (zB w.heap.size 1) (.slice a3 yb.length c3)).setCell (zB w.heap.size 2) (zI (y0:Nat))).setCell (zB w.heap.size 3) (zI (y1:Nat))).setCell (zB w.heap.size 4) (zI (y2:Nat)))=w4 at R4 F4 |-;have z4:=F4.o.size;have AO:=(a0c.1 R4).1;clear e0;go_cut [8] (λv8 wc=>True/\∃l,OW 68 5 (w.heap.size+1) wc v8 (fZ l)/\dV Gj [] w0 l E/\wc.heap[w.heap.size]?=some (.cells #[zT yr,.slice a3 yb.length c3,zI (y0:Nat),zI (y1:Nat),zI (y2:Nat)] 68 (0,0))/\aB [] w wc)
 case first =>
  go_wp2_with fail;go_loopg [8,9] nK (λk v8 v9 wr=>∃(q:Nat) (l:List (Array Value)) (O:List kN),q+k=nK/\v9=zI q/\OW 68 5 (w.heap.size+1) wr v8 (fZ l)/\dV Gj [] w0 l O/\O++(mX H C (iw H C f) (K.drop q)).map (Dw C)=E/\wr.heap[w.heap.size]?=some (.cells #[zT yr,.slice a3 yb.length c3,zI (y0:Nat),zI (y1:Nat),zI (y2:Nat)] 68 (0,0))/\aB [] w wr);case atStart=>exact⟨0,[],[],by omega,rfl,OW.nil _ _ _ _,dV.nil _ _ _,by rw[axu.o];simp,R4,F4⟩
  case round =>
   clear R4 F4 z4 AO;obtain⟨q,l,O,hqk,rfl,ho,hi,heq,P,bH⟩:=hrel;obtain⟨a8,c8,rfl⟩:=ho.shape;obtain⟨N,Y⟩:∃n,n=(fZ l).length:=⟨_,rfl⟩;rw[<-Y]at ho |-;have HO:=aj ho;have HI:=aj hi;have v:=aj heq;have HR:=aj P;have F:=aj bH;have F0:=aj (Qb.o.trans bH);have A:=aj Y;have arv:O.length<=16:=by have:=congrArg List.length heq;rw[a0p]at this;omega
   have ay5:N<=16:=by rw[Y,jA,hi.1];exact arv
   have ZP:N<=c8:=asY ho;have b7:=HB7.o wr F0;have zr:=bH.size;have IU:=(a0c.1 P).1;clear ho hi heq bH Y arv;by_cases aL:q<nK
   .obtain⟨j,hj⟩:∃j,K[q]?=some j:=⟨K[q]'(by rw[<-HNK.o];exact aL),a0a (by rw[<-HNK.o];exact aL)⟩;have hjK:j∈kids C i:=by rw[<-HK.o];exact a0B hj
    have mK:=(kX hjK).1;obtain⟨cj,Lt⟩:∃c,C[j]?=some c:=⟨C[j],a0a mK⟩;have hdj:=arA hjK HCI.o Lt;obtain⟨rj,hrj⟩:=HX.o.at Lt;obtain⟨gk',hak,hpk⟩:∃g,ak=some (zA g)/\∀W,aB [] w0 W->zC W g q (zP (Dk X j)):=by
     have h:=HKD.o;rw[HVK.o]at h;rcases h.2 with⟨e,h0⟩|⟨g,cap,cur,e,hb,hg,rest⟩
     .rw[a0y]at h0;have:=HNK.o;omega
     simp only[Value.slice.injEq]at e;obtain⟨rfl,_,rfl⟩:=e;refine⟨g,rfl,?_⟩;have h3:=World.ownsRow.cells h (g:=g) rfl q (tC (Dk X j)) (by rw[a0Q,a0Q,hj];rfl);rw[add0]at h3;exact λW hW=>(hW.cell (p:=(zB g q)) (bY h3) (by simp)).trans h3
    subst hak;have pk:=hpk wr F0;have HPK:=aj hpk;clear hpk;have x0:=aBa P;have upj:YL C j=⟨yr,yb,y0,y1,y2⟩:=by unfold YL;rw[aru hjK];exact HYE.o.symm
    have NK0:∀W,aB [] w0 W->zF 25 #[zP (Dk X j),.slice avL L.length cvL,.agg (aO (YL C j) (.slice a3 (YL C j).bl.length c3))] W (WkQ w0 W (GH H C f j)):=λW hW=>by
     have:=IH.o j cj W a3 c3 Lt (by omega) hW (by rw[upj];exact PZ);rw[<-HHd.o]at this;exact this
    rw[upj]at NK0;simp only[aO]at NK0;have NK:=aj NK0;have FN:Z_ (aB [] wr wr.drew):=(aB.refl [] wr).drew;have WS:Z_ (mX H C (iw H C f) (K.drop q)=if H j then iw H C f j++(if cj.co then mX H C (iw H C f) (K.drop (q+1)) else []) else mX H C (iw H C f) (K.drop (q+1))):=by
     show _=_;have Yz:K.drop q=j::K.drop (q+1):=by
      have M:=(a0d.1 hj).1;rw[a0k M,(a0d.1 hj).2]
     rw[Yz,mX,Lt];simp
    have J:Z_ (∀W,aB [] w0 W->zC W (Dk X j) 6 (.bool cj.co)):=λW hW=>by
     exact((hrj.rb.aC hW (by simp)).cell 6).trans (by rw[<-hrj.rc.2.2.2.2];rfl)
    have HSJ:Z_ (iw H C f j≠[]):=HS.o j (a0B hj);obtain⟨bj,hbj⟩:∃b,b=Dk X j:=⟨_,rfl⟩;rw[<-hbj]at pk NK J HPK;clear P hj hjK Lt hrj upj NK0 hbj;go_wp2_with fail;go_region_with (go_at_call 25;refine(NK.o _ (F0.o.trans FN)).mono ?_;rintro e w5 ⟨v5,XJ,rfl,z,s,xe,NV⟩);all_goals
     have F5:=aj (FN.o.trans xe);have Fu:=F5.o.size;have t:=aj (HO.o.aC (S:=[]) F5.o (by simp));have IG:=aj ((F5.o.block w.heap.size IU (by simp)).trans HR);have F05:=aj (F0.o.trans F5);have FW5:=aj (F.o.trans F5);have b75:=HB7.o w5 F05;have pk5:=HPK.o w5 F05;have on5:=J.o w5 F05;have ay6:=bY on5;have ay7:=bY pk5;have hb5:=bY b75;clear x0 pk b7 NK xe;cases r:H j
     .have hv5:v5=zN:=NV (by unfold GH;rw[r];rfl);subst hv5;have Z:Z_ (O++(mX H C (iw H C f) (K.drop (q+1))).map (Dw C)=E):=by
       show _=_;rw[<-v.o,WS.o,r];rfl
      clear z s NV r WS v;go_wp2_with (at_builtin;refine ars _ rfl _ _ 34 68 _ 5 64 CV Tryz.underlying34 rfl (w.heap.size+1) (.slice a8 N c8) (fZ l) rfl t.o rfl ?_);go_roundg (gk-1);case measure=>omega
      case rel=>exact⟨q+1,l,O,by omega,by go_num,t,HI,Z,IG,FW5⟩
     have hoj:GH H C f j=(iw H C f j).map (Dw C):=by unfold GH;rw[r];rfl
     rw[hoj]at s;have amf:0<(fZ XJ).length:=by
      rw[jA,s.1,a0y];exact a1O.2 HSJ
     obtain⟨a5,c5,rfl⟩:=z.shape;obtain⟨g5,rfl⟩:∃g,a5=some (zA g):=by
      rcases z.1.2 with⟨e1,M⟩|⟨g,c,cur,e1,_⟩
      .omega
      simp at e1;exact⟨g,e1.1⟩
     obtain⟨m5,R⟩:∃m,m=(fZ XJ).length:=⟨_,rfl⟩;rw[<-R]at z amf |-;have Ki:0<m5:=amf;have HM5:=aj R;have HOX:=aj z;have HI5:=aj s;have HI2:=aj (aof HI.o s);have arv:N+m5<=16:=by
      have M:=congrArg List.length v;rw[a0p,WS.o,r,a0y]at M;simp only[a0G,a0p]at M;rw[A.o,R,jA,jA,HI.o.1,s.1,a0y];omega
     have LA:Z_ (fZ l++fZ XJ=fZ (l++XJ)):=by show _=_;simp[fZ]
     cases Sz:cj.co
     .have Z:Z_ (O++(iw H C f j).map (Dw C)=E):=by
       show _=_;rw[<-v.o,WS.o,r,Sz];simp
      rw[Sz]at J on5;clear z s NV r WS v hoj R amf Sz;go_wp2_with (at_builtin;refine aeP _ rfl _ _ 34 68 _ 5 64 CV Tryz.underlying34 rfl (by decide) rfl (w.heap.size+1) wr.drew.heap.size (.slice a8 N c8) (fZ l) (fZ XJ) g5 m5 c5 (N+m5) rfl t.o rfl HOX.o HM5.o Ki (by rw[A.o]) (aeQ HI5) (by rw[<-A.o];omega) (by rw[<-A.o];omega) (by omega) ?_;intro g9 c9 w9 aS aH bq iE;have O9:=aj aS;have V:=(aH.block w.heap.size (a0c.1 IG).1 (λe=>by have:=(t.o.lt e.symm).1;omega)).trans IG;have HR9:=aj V;have F9:=aj (FW5.o.grown aH (λk hk=>.inr (by have:=(t.o.lt hk).1;omega)));have D:=aj (Qb.o.trans F9);have b79:=HB7.o w9 D;have pk9:=HPK.o w9 D;have on9:=J.o w9 D;clear aS aH bq iE V);go_meet;exact⟨trivial,l++XJ,by rw[<-LA.o];exact O9,by rw[<-Z.o];exact HI2,HR9,F9⟩
     have Z:Z_ ((O++(iw H C f j).map (Dw C))++(mX H C (iw H C f) (K.drop (q+1))).map (Dw C)=E):=by
      show _=_;rw[<-v.o,WS.o,r,Sz];simp
     rw[Sz]at J on5;clear z s NV r WS v hoj R amf Sz;go_wp2_with (at_builtin;refine aeP _ rfl _ _ 34 68 _ 5 64 CV Tryz.underlying34 rfl (by decide) rfl (w.heap.size+1) wr.drew.heap.size (.slice a8 N c8) (fZ l) (fZ XJ) g5 m5 c5 (N+m5) rfl t.o rfl HOX.o HM5.o Ki (by rw[A.o]) (aeQ HI5) (by rw[<-A.o];omega) (by rw[<-A.o];omega) (by omega) ?_;intro g9 c9 w9 aS aH bq iE;have O9:=aj aS;have V:=(aH.block w.heap.size (a0c.1 IG).1 (λe=>by have:=(t.o.lt e.symm).1;omega)).trans IG;have HR9:=aj V;have F9:=aj (FW5.o.grown aH (λk hk=>.inr (by have:=(t.o.lt hk).1;omega)));have D:=aj (Qb.o.trans F9);have b79:=HB7.o w9 D;have pk9:=HPK.o w9 D;have on9:=J.o w9 D;clear aS aH bq iE V);go_roundg (gk-1);case measure=>omega
     case rel=>exact⟨q+1,l++XJ,_,by omega,by go_num,by rw[<-LA.o];exact O9,HI2,Z,HR9,F9⟩
   have HE:Z_ (O=E):=by
    show _=_;rw[<-v.o,a0i (by have:=HNK.o;omega)];simp[mX]
   clear P;go_wp2;go_meet;exact⟨trivial,l,HO,by rw[<-HE.o];exact HI,HR,F⟩
 case rest =>
  obtain⟨_,l,ho,hi,P,U⟩:=hcut;obtain⟨w5,hw5⟩:∃x,x=wc:=⟨_,rfl⟩;rw[<-hw5]at ho P U |-;clear hw5;obtain⟨a8,c8,rfl⟩:=ho.shape;obtain⟨N,Y⟩:∃n,n=(fZ l).length:=⟨_,rfl⟩;rw[<-Y]at ho |-;have G:N=E.length:=by rw[Y,jA,hi.1]
  have HO:=aj ho;have HI:=aj hi;have F:=aj U;have zc:=U.size;by_cases h0:N=0
  .subst h0;have hT0:E=[]:=a0S G.symm;have Cm:l=[]:=a0S (by rw[jA]at Y;exact Y.symm);have HE:Z_ (GH H C (f+1) i=[Dw C i]):=by show _=_;rw[ame.o,a0m (by rw[<-G])]
   have:=aBa P;have HC0:=aj Cm;have IU:=(a0c.1 P).1;clear ho hi P U hT0 Cm Y G ame;go_wp2_with (at_builtin;refine qD _ rfl _ _ 34 68 _ 5 64 CV Tryz.underlying34 rfl (by decide) rfl (w.heap.size+1) (.slice a8 0 c8) (fZ l) w5.heap.size [zT yr,.slice a3 yb.length c3,zI (y0:Nat),zI (y1:Nat),zI (y2:Nat)] rfl (HO.o.aC (S:=[]) ((aB.refl [] _).alloc _) (by simp)) rfl rfl (λj u hu=>(cell_of_row _ _ _ _ _ _ (bD w5 _)).trans (by simpa using hu)) (by intro u hu;simp at hu;rcases hu with rfl|rfl|rfl|rfl|rfl<;>rfl) (by rw[HC0.o];simp[fZ]) (by rw[HC0.o];simp[fZ]) (by simp;omega) ?_;intro g9 c9 w9 aS aH bq iE;have O9:=aj aS;have F9:=aj ((F.o.alloc _).grown aH (λk hk=>.inr (by have:=(HO.o.lt hk).1;omega)));clear aS aH bq iE);go_ret;rw[HE.o];refine⟨_,[aO ⟨yr,yb,y0,y1,y2⟩ (.slice a3 yb.length c3)],rfl,?_,?_,F9,λh=>by simp at h⟩
   .have:=O9.o.base (b2:=w.heap.size) (by omega);rw[HC0.o]at this;simpa[fZ,aO,HC0.o] using this
   refine⟨rfl,λn cs x M h2=>?_⟩;have hn0:n=0:=by
    cases n with
    | zero=>rfl
    | succ n=>simp at M
   subst hn0;simp at M h2;subst M h2;rw[<-HYE.o];exact⟨_,rfl,PZ⟩
  have HE:Z_ (GH H C (f+1) i=E):=by show _=_;rw[ame.o,a0n (by rw[<-G];exact h0)]
  have HNE:Z_ (E=[]->False):=λh=>h0 (by rw[G,h];rfl);clear ho hi P U Y ame G;go_wp2;go_ret;rw[HE.o];exact⟨_,l,rfl,HO.o.base (by omega),HI,F,λh=>(HNE.o h).elim⟩
def aeS {C X}(b:WCx w0 C X L vL):∀f,WkC w0 C X L vL f
 | 0=>by intro i c w a e d hd;have:=(b.gd c (a0B d)).2;omega
 | f+1=>akV b f (aeS b f)
def ai0 {C X}(cb vr x)(g:WCx w0 C X L vL)(i:aB [] w0 w)(k:sw w0 cb vr (tC (Dk X 0)) x)(c0)(d:C[0]?=some c0)(p:c0.ifs=[]) :
 zF 10 #[zP cb,vL] w λe w'=>∃v f,e=zR v/\OW 68 5 w.heap.size w' v (fZ f)/\dV Gj [] w' f ((iw (hold gQ (dH L) C) C 6 0).map (Dw C))/\aB [] w w':=by
 have h:YL C 0=lQ:=by
  unfold YL;have:par C 0=none:=by unfold par;rw[d];rfl
  rw[this]
 have c:=aeS g 6 0 c0 w none 0 d (by omega) i (by rw[h];exact⟨none,0,by simp[sc,lQ],by simp[sc,lQ],λj y=>by simp[sc,lQ]at y⟩);rw[h]at c;have s:GH (hold gQ (dH L) C) C 6 0=(iw (hold gQ (dH L) C) C 6 0).map (Dw C):=by
  unfold GH;have:hold gQ (dH L) C 0=true:=by unfold hold;rw[d];simp[p]
  rw[this,a0m rfl]
 obtain⟨R,l⟩:∃R,R=(iw (hold gQ (dH L) C) C 6 0).map (Dw C):=⟨_,rfl⟩;rw[s,<-l]at c;rw[<-l];clear l s;obtain⟨o,n,m,_⟩:=g.lr;subst m;obtain⟨t,q⟩:∃b,b=Dk X 0:=⟨_,rfl⟩;rw[<-q]at c k;have N:=c;have c1:zC w cb 1 (tC t):=(k.aC i (by simp)).cell 1;unfold tC at c1;clear g k c h d p q;delta zF;go_in;go_wp2_with fail;refine N.mono ?_;rintro e A ⟨v,f,rfl,u,r,F2,_⟩;have z:=r.aC (i.trans F2) (by simp);obtain⟨a,cp,rfl⟩:=u.shape;clear r;go_wp2;go_ret;exact⟨_,f,rfl,u,z,F2⟩
def aog {t L C}(h:jH t=.ok (L,C)):∃c,C[0]?=some c/\c.ifs=[]:=by
 have e:=(pI h).2.1;have f:iX C=0:=by
  unfold jH at h;split at h
  .cases h
  split at h
  .cases h
  split at h
  .cases h
  split at h
  .cases h
  rename_i g _ _;simp[Except.ok.injEq,Prod.mk.injEq]at h;rw[<-h.2];omega
 cases C with
 | nil=>simp at e
 | cons c C =>
   refine⟨c,rfl,?_⟩;have a:lD (c::C) 0 0=0:=f;unfold lD at a;by_cases b:(!(if ((0:Nat)==0)=true then nW c else jN (c.d:Int) 0)||decide (16<=0))=true
   .rw[a0m b]at a;omega
   simp at b;unfold nW at b;simp at b;simp_all
structure KN(w w':World):Prop where
 size:w.heap.size<=w'.heap.size
 cell:∀(a:Addr) (v:Value),w.cell? a=some v->v≠.pointer none->w'.cell? a=some v
 row:∀(k:Nat) (cur:Array Value) (t:TypeId) (fz:Nat × Nat),w.heap[k]?=some (.cells cur t fz)->t≠29->w'.heap[k]?=w.heap[k]?
abbrev pz:Array Value:=#[.pointer none,.pointer none,.pointer none,.string ByteArray.empty]
def aoh:(Tryz.prog.info? 29).map (·.size)=some 4:=by kernel_rfl
def aeT {g cs}(h:w.heap[g]?=some (.cells cs 29 (0,0)))(a:cs.size=4):(loadVar 29 (zA g)).run Tryz.prog w=.ok (.agg cs) w :=
 run_loadVar_row w g 29 29 cs (0,0) _ h Tryz.underlying29 rfl (by rw[a];exact aoh)
def arw {g}(x c)(h:w.heap[g]?=some (.cells pz 29 (0,0))):KN w ((((w.setCell (zA g) x).setCell (zB g 1) c).setCell (zB g 2) (.pointer none)).setCell (zB g 3) (.string ByteArray.empty)):=by
 have f:=Nc w g x c (.pointer none) (.string ByteArray.empty);have r:=VB x c (.pointer none) (.string ByteArray.empty) h;refine⟨f.size,λa v d i=>?_,λk cur t fz e ht=>?_⟩
 .by_cases j:a.block=g
  .obtain⟨b,o,m⟩:=a;simp only at j;subst j;cases m with
   | some m=>simp[World.cell?,h]at d
   | none =>
     rw[cell_of_row _ b o _ _ _ r];rw[cell_of_row w b o _ _ _ h]at d;rcases a2a o 4 with ho|ho
     .have:o=0\/o=1\/o=2\/o=3:=by omega
      rcases this with rfl|rfl|rfl|rfl
      .simp at d;exact absurd d.symm i
      .simp at d;exact absurd d.symm i
      .simp at d;exact absurd d.symm i
      exact d
     rw[Array.getElem?_eq_none (by omega)]at d;cases d
  exact(f.cell (World.block_lt_of_cell? w _ d) (by simpa using j)).trans d
 refine f.block k (a0c.1 e).1 ?_;simp;rintro rfl;rw[h]at e;simp at e;exact ht e.2.1.symm
def CdQ(Q:World->Nat->Prop)(t:LB)(w:World)(e:Ending)(w':World):Prop :=
 aB [] w w'/\(((pJ gH t).1≠0/\e=zQ #[.agg pz,.bool true]) \/
 (∃pb L C cb base X,pJ gH t=(0,0)/\jH t=.ok (L,C)/\e=zQ #[.agg #[zP pb,zP cb,.pointer none,.string ByteArray.empty],.bool true]/\Q w' pb/\CfR w w' cb base C X/\w.heap.size<=pb))
def CpQ(Q:World->Nat->Prop)(t:LB)(w:World)(e:Ending)(w':World):Prop :=
 aB [] w w'/\(((pJ gH t).1≠0/\e=zQ #[.pointer none,zI ((pJ gH t).1:Nat),zI ((pJ gH t).2:Nat)]) \/
 (∃pb,pJ gH t=(0,0)/\e=zQ #[zP pb,zI 0,zI 0]/\Q w' pb/\w.heap.size<=pb))
theorem CfR.over{base C X}(h:CfR w0 w cb base C X) {g}(f:aB [g] w w')(L:g<w0.heap.size)(z)(M:z.heap.size<=w0.heap.size)(u:∃cur,w.heap[g]?=some (.cells cur 29 (0,0))):CfR z w' cb base C X:=by
 obtain⟨cur,o⟩:=u;have J:=h.lo;have s:=h.up;have ne:∀(k:Nat) (c:Array Value) (t:TypeId) (fz:Nat × Nat),w.heap[k]?=some (.cells c t fz)->t≠29->k ∉ [g]:=by intro k c t fz d ht r;simp at r;subst r;rw[o]at d;simp at d;exact ht d.2.1.symm
 refine⟨by omega,s,?_,λx i=>?_,h.rc,λx i=>?_,λx i=>?_,λj x i=>?_,h.nd,h.eq⟩
 .obtain⟨vr,D,A⟩:=h.cf;exact⟨vr,D,A.aC f (ne _ _ _ _ A (by decide))⟩
 .exact(h.rb x i).aC f (ne _ _ _ _ (h.rb x i) (by decide))
 .exact fG (h.Im x i) f (λk d=>by simp at d;omega)
 .exact fG (h.kd x i) f (λk d=>by simp at d;omega)
 obtain⟨a,cap,I,H,v⟩:=h.ifs j x i;refine⟨a,cap,I,H,?_⟩;rcases v with v|⟨B,y,e,l,d⟩
 .omega
 refine .inr ⟨B,y,e,(f.block B (a0c.1 l).1 (ne _ _ _ _ l (by decide))).trans l,λk m r=>?_⟩;obtain⟨c0,c1,c2,q,c3,hd,hq⟩:=d k m r;refine⟨c0,c1,c2,q,c3,hd,λp u=>?_⟩;obtain⟨n,e,G,F,E⟩:=hq p u;exact⟨n,e,G,F,RN.aY (dX.aC f (λb hb c fz hh=>by simp at hb;subst hb;rw[o]at hh;simp at hh)) E⟩
def acC(Q:World->Nat->Prop)(D:∀a b p,Q a p->KN a b->Q b p)(q:∀a b p,Q a p->aB [] a b->Q b p)(t w)(ht:t.length<=1048576)(hC:∀w,zF 14 #[zT t] w (CpQ Q t w)) :
 zF 6 #[zT t] w (CdQ Q t w):=by
 have F0:=aj ((aB.refl [] w).alloc (.cells pz 29));have G:Z_ ((w.alloc (.cells pz 29)).heap[w.heap.size]?=some (.cells pz 29 (0,0))):=bD _ _;have H:=aj (hC (w.alloc (.cells pz 29)));have T:=aj D;have y:=aj q;clear hC D q;delta zF;go_in;go_wp2_with fail;refine(H.o).mono ?_;clear H;rintro e z ⟨u,J⟩;have F1:=aj (F0.o.trans u);have F:(z.heap[w.heap.size]?=some (.cells pz 29 (0,0))):=(u.block w.heap.size (by simp) (by simp)).trans G;have M:=u.size;simp at M;have v:=aj (akN _ z ht);have s:=aj F;clear u F0 G F;rcases J with⟨i,rfl⟩|⟨pb,i,rfl,E,U⟩
 .have j:=aj i;generalize B:pJ gH t=P at *;obtain⟨n,l⟩:=P;simp only at i j |-;have:((n:Int) != 0)=true:=by rw[a1M];omega
  have:((n:Int)==0)=false:=by rw[a0j];omega
  have I:=aj B;clear i B;go_wp2_with fail;refine(v.o).mono ?_;clear v;rintro e d ⟨g,r⟩;rw[I.o]at r;have c:(d.heap[w.heap.size]?=some (.cells pz 29 (0,0))):=(g.block w.heap.size (by omega) (by simp)).trans s;have F2:=aj (F1.o.trans g);have f:=aj c;have d0:zC d w.heap.size 0 (.pointer none):=by simp[World.cell?,c]
  have d1:zC d w.heap.size 1 (.pointer none):=by simp[World.cell?,c]
  have O:zC d w.heap.size 2 (.pointer none):=by simp[World.cell?,c]
  have N:zC d w.heap.size 3 (.string ByteArray.empty):=by simp[World.cell?,c]
  have dz:∀o,d.frozen? (zB w.heap.size o)=false:=λo=>by simp[World.frozen?,c]
  clear g c;rcases r with⟨_,rfl⟩|⟨_,_,_,_,_,h,_⟩
  .simp only;go_wp2;refine bodyPost_ret (bS rfl _ _ w.heap.size pz rfl (aeT (VB _ _ _ _ f) rfl)) rfl ?_;refine⟨F2.o.above (Nc _ _ _ _ _ _) (by simp),.inl ⟨by rw[I.o];exact j,rfl⟩⟩
  exfalso;simp only[Prod.mk.injEq]at h;exact j.o h.1
 have j:=aj i;have S:=aj E;clear i E;go_wp2_with fail;refine(v.o).mono ?_;clear v;rintro e d ⟨g,r⟩;rw[j.o]at r;have c:(d.heap[w.heap.size]?=some (.cells pz 29 (0,0))):=(g.block w.heap.size (by omega) (by simp)).trans s;have F2:=aj (F1.o.trans g);have R:=aj (y.o _ _ _ S.o g);have f:=aj c;have:zC d w.heap.size 0 (.pointer none):=by simp[World.cell?,c]
 have:zC d w.heap.size 1 (.pointer none):=by simp[World.cell?,c]
 have:zC d w.heap.size 2 (.pointer none):=by simp[World.cell?,c]
 have:zC d w.heap.size 3 (.string ByteArray.empty):=by simp[World.cell?,c]
 have:∀o,d.frozen? (zB w.heap.size o)=false:=λo=>by simp[World.frozen?,c]
 clear g c;rcases r with⟨h,_⟩|⟨L,C,cb,base,X,_,k,rfl,m⟩
 .simp at h
 have x:=aj k;have V:=aj m;clear k m;unfold tC;go_wp2;refine bodyPost_ret (bS rfl _ _ w.heap.size #[zP pb,zP cb,.pointer none,.string ByteArray.empty] rfl (aeT (VB _ _ _ _ f) rfl)) rfl ?_;refine⟨F2.o.above (Nc _ _ _ _ _ _) (by simp),.inr ⟨pb,L,C,cb,base,X,j,x,rfl,T.o _ _ _ R.o (arw _ _ f),V.o.over (Nc _ _ _ _ _ _) (by omega) w (by omega) ⟨_,f⟩,?_⟩⟩;simp at U;omega
def RW.kn(h:RW A k w v vs)(f:KN w w')(o:∀u∈vs,∀y∈u,y≠.pointer none):RW A k w' v vs:=by obtain⟨a,cap,rfl,n,m⟩:=h;refine⟨a,cap,rfl,n,λj d=>?_⟩;obtain⟨g,off,rfl,l,i,e⟩:=m j d;exact⟨g,off,rfl,l,a0t i f.size,λc x b=>f.cell _ _ (e c x b) (o _ (a0u d) x (a0B b))⟩
def RW.slc(h:RW A k w v vs):v≠.pointer none:=by obtain⟨a,cap,rfl,_⟩:=h;simp
def akW(L):∀u∈sc L,∀y∈u,y≠.pointer none:=by intro u b y a;obtain⟨s,_,rfl⟩:=a0q.1 b;simp at a;subst a;simp
def avp(L):∀u∈bc L,∀y∈u,y≠.pointer none:=by intro u b y a;obtain⟨s,_,rfl⟩:=a0q.1 b;simp at a;subst a;simp
def avq(L):∀u∈ic L,∀y∈u,y≠.pointer none:=by intro u b y a;obtain⟨s,_,rfl⟩:=a0q.1 b;simp at a;subst a;simp
def avr(L):∀u∈tc L,∀y∈u,y≠.pointer none:=by intro u b y a;obtain⟨s,_,rfl⟩:=a0q.1 b;simp[kV]at a;rcases a with rfl|rfl|rfl<;>simp
def asZ(L):∀u∈uj L,∀y∈u,y≠.pointer none:=by intro u b y a;obtain⟨s,_,rfl⟩:=a0q.1 b;simp[jT]at a;rcases a with rfl|rfl|rfl|rfl<;>simp
def amg {α:Type} {I:TQ α} {b:List (Array Value)} {xs:List α}(h:dV I A w b xs)(g:∀cs x,I.rel A w cs x->∀y∈cs.toList,y≠.pointer none):∀u∈fZ b,∀y∈u,y≠.pointer none:=by intro u e y d;obtain⟨cs,c,rfl⟩:=a0q.1 e;obtain⟨n,a⟩:=a1T c;have f:=(a0d.1 a).1;exact g cs _ (h.2 n cs (xs[n]'(by rw[<-h.1];exact f)) a (a0a _)) y d
def PG.kn(h:PG A w V m)(f:KN w w'):PG A w' V m:=by
 obtain⟨v,u,j⟩:=h.a;obtain⟨k,s,g⟩:=h.r;refine⟨h.n.kn f (akW _),h.c.kn f (akW _),⟨v,u.kn f (amg j ?_),j.1,λn cs x o l=>?_⟩,h.t.kn f (avr _),⟨k,s.kn f (amg g ?_),g.1,λn cs x o l=>?_⟩,h.i.kn f (asZ _)⟩
 .rintro cs x ⟨q,p,rfl,b,e⟩ y d;simp[Lv,nv]at d;rcases d with rfl|⟨_,_,rfl⟩|rfl|rfl
  .simp
  .simp
  .exact b.slc
  exact e.slc
 .obtain⟨q,p,rfl,b,e⟩:=j.2 n cs x o l;exact⟨q,p,rfl,b.kn f (avp _),e.kn f (avq _)⟩
 .rintro cs x ⟨vb,rfl,b⟩ y d;simp[aO]at d;rcases d with rfl|rfl|rfl|rfl|rfl
  .simp
  .exact b.slc
  .simp
  .simp
  simp
 obtain⟨vb,rfl,b⟩:=g.2 n cs x o l;exact⟨vb,rfl,b.kn f (akW _)⟩
def PR.kn(h:PR A w pb V m)(f:KN w w'):PR A w' pb V m :=
 ⟨(f.row pb _ _ _ h.row (by decide)).trans h.row,h.pg.kn f,h.av⟩
def QC(t:LB)(w:World)(pb:Nat):Prop:=∃L C s V,jH t=.ok (L,C)/\pread gH gQ lT 0 C=.ok s/\PR [] w pb V (iZ C s)/\MOK (iZ C s)
def aoi(t w)(ht:t.length<=1048576):zF 14 #[zT t] w (CpQ (QC t) t w):=by
 refine(af3 t w ht).mono ?_;rintro e w' ⟨hF,⟨a,rfl⟩|⟨L,C,s,V,pb,a,g,f,rfl,d,c,b⟩⟩
 .exact⟨hF,.inl ⟨a,rfl⟩⟩
 exact⟨hF,.inr ⟨pb,a,rfl,⟨L,C,s,V,g,f,d,c⟩,b⟩⟩
def ace(t w)(ht:t.length<=1048576):zF 6 #[zT t] w (CdQ (QC t) t w) :=
 acC (QC t) (λa b p ⟨L,C,s,V,g,e,d,c⟩ f=>⟨L,C,s,V,g,e,d.kn f,c⟩) (λa b p ⟨L,C,s,V,g,e,d,c⟩ f=>⟨L,C,s,V,g,e,d.aC f (by simp),c⟩) t w ht (λw=>aoi t w ht)
def ack:∀L P,uo P L=true->∀x∈L,x.2.length<=40
 | [],_,_,x,a=>by simp at a
 | y::r,P,h,x,a=>by
   rw[uo]at h;simp only[a0O,a0U]at h;rcases a0l.1 a with rfl|a
   .omega
   exact ack r _ h.2 x a
def aoo(h:gB L=true)(n):(dH L n).length<=900:=by
 unfold gB at h;rw[a0O]at h;unfold dH;split
 .rename_i x a
  have:=ack L [] h.2 x (List.mem_of_find?_eq_some a);omega
 simp
def amm:∀C i,xF gH C i=(0,0)->∀c∈C,∀m∈c.ifs,(m.2.1=2\/m.2.1=3)->gH m.2.2=0
 | [],_,_,c,d=>by simp at d
 | x::C,i,h,c,d=>by
   rw[xF]at h;have a:mF gH x.ifs=0:=by
    by_cases e:mF gH x.ifs=0
    .omega
    have:(mF gH x.ifs==0)=false:=by simpa using e
    rw[this]at h;simp at h
   rcases a0l.1 d with rfl|d
   .have key:∀M:List CM,mF gH M=0->∀m∈M,(m.2.1=2\/m.2.1=3)->gH m.2.2=0:=by
     intro M;induction M with
     | nil=>intro _ m a;simp at a
     | cons y M g =>
       intro h m a f;rw[mF]at h;by_cases b:((y.2.1==2||y.2.1==3)&&!(gH y.2.2==0))=true
       .rw[a0m b]at h;simp[h]at b
       rw[a0n b]at h;rcases a0l.1 a with rfl|a
       .have j:(m.2.1==2||m.2.1==3)=true:=by simpa using f
        rw[j]at b;simpa using b
       exact g h m a f
    exact key c.ifs a
   rw[a]at h;simp at h;exact amm C (i+1) h c d
def as5 {t f C d base X}(ht:t.length<=1048576)(a:jH t=.ok (f,C))(hz:pJ gH t=(0,0))(k:CfR d w cb base C X)(i:LR w vL L)(g:gB L=true):WCx w C X L vL:=by
 have h:xF gH C 0=(0,0):=by unfold pJ at hz;rw[a]at hz;omega
 have b:=pI a;have j:=(qT t f C ht b.1).2.2;exact⟨⟨d,cb,base,k⟩,Ur a,b.2.2.1,λc e=>⟨j c e,b.2.2.2 c e⟩,amm C 0 h,i,aoo g⟩
def uu(m:mP)(l:LN):List kN:=l.map λi=>m.q9.getD i ⟨[],[],0,0,0⟩
def ai1(m l i)(a:i<m.q9.length):uu m (l++[i])=uu m l++[m.q9[i]]:=by simp[uu,List.getD,a]
def akX(ok:MOK m)(V)(f:k<m.code.length)(n) :
 (m.code[k].op=0/\runM m V (n+1) k=[]) \/
 (m.code[k].op=1/\m.code[k].x<m.q9.length/\k<m.code[k].a/\m.code[k].a<m.code.length/\runM m V (n+1) k=m.code[k].x::runM m V n m.code[k].a) \/
 (m.code[k].op=2/\k<m.code[k].a/\m.code[k].a<m.code.length/\k<m.code[k].b/\m.code[k].b<m.code.length/\∃g:m.code[k].x<m.tests.length,Lu m.names.length m.consts.length m.zg.length m.tests[m.code[k].x] /\
   runM m V (n+1) k=runM m V n (if Jz m (V (m.names.getD m.tests[m.code[k].x].n [])) m.tests[m.code[k].x] then m.code[k].a else m.code[k].b)):=by
 have h:=ok.code.2.2 k f;have d:=h.s;have ho:=h.op;have e:=a0a f;generalize m.code[k]=c at *;obtain⟨op,x,a,b⟩:=c;simp only at ho |-
 match op,ho with
 | 0,_=>exact .inl ⟨rfl,by rw[runM,e];rfl⟩
 | 1,_=>simp[stands]at d;exact .inr (.inl ⟨rfl,d.1.1,d.1.2.1,d.1.2.2,by rw[runM,e];rfl⟩)
 | 2,_=>simp[stands]at d;refine .inr (.inr ⟨rfl,d.1.2.1,d.1.2.2,d.2.1,d.2.2,d.1.1,ok.tests.2 _ (a0u _),?_⟩);rw[runM,e];simp only[a0a d.1.1]
theorem PR.c0(h:PR A w pb V m):zC w pb 0 V.n:=by simp[World.cell?,h.row,V6.cells]
theorem PR.c1(h:PR A w pb V m):zC w pb 1 V.c:=by simp[World.cell?,h.row,V6.cells]
theorem PR.c2(h:PR A w pb V m):zC w pb 2 V.a:=by simp[World.cell?,h.row,V6.cells]
theorem PR.c3(h:PR A w pb V m):zC w pb 3 V.t:=by simp[World.cell?,h.row,V6.cells]
theorem PR.c4(h:PR A w pb V m):zC w pb 4 V.r:=by simp[World.cell?,h.row,V6.cells]
theorem PR.lt(h:PR A w pb V m):pb<w.heap.size:=(a0c.1 h.row).1
open Go.RowKit
open Go.RowKit
structure HR(w:World)(g o:Nat)(x:kN)(vb:Value):Prop where
 lt:g<w.heap.size
 c0:w.cell? (zB g o)=some (zT x.rc)
 c1:w.cell? (zB g (o+1))=some vb
 c2:w.cell? (zB g (o+2))=some (zI (x.wt:Nat))
 c3:w.cell? (zB g (o+3))=some (zI (x.ev:Nat))
 c4:w.cell? (zB g (o+4))=some (zI (x.rp:Nat))
 r:RW [] 1 w vb (sc x.bl)
theorem HR.drewN {g o x}(h:HR w g o x vb)(n):HR (w.drewN n) g o x vb:=⟨h.lt,h.c0,h.c1,h.c2,h.c3,h.c4,h.r.aC ((aB.refl [] w).drewN n) (by simp)⟩
theorem HR.aC {g o x}(h:HR w g o x vb)(f:aB [] w w'):HR w' g o x vb :=
 ⟨a0t h.lt f.size,f.at h.lt h.c0,f.at h.lt h.c1,f.at h.lt h.c2,f.at h.lt h.c3,f.at h.lt h.c4,h.r.aC f (by simp)⟩
def su(w:World)(v:Value)(b:List kN):Prop :=
 ∃a cap,v=.slice a b.length cap/\b.length<=cap/\∀j (h:j<b.length),∃g o vb,a=some (zB g o)/\HR w g (o+j*5) b[j] vb
theorem su.aC {b}(h:su w v b)(f:aB [] w w'):su w' v b:=by obtain⟨a,cap,e,d,h⟩:=h;refine⟨a,cap,e,d,λj c=>?_⟩;obtain⟨g,o,vb,k,i⟩:=h j c;exact⟨g,o,vb,k,i.aC f⟩
theorem su.nil(w):su w zN []:=⟨none,0,rfl,a0b _,λj h=>absurd h (by simp)⟩
def ary(m:mP)(L:List kW):List kN:=uu m (runM m (dH L) m.code.length 0)
def avv(C:List CR)(V:LB->LB):List kN:=(iw (hold gQ V C) C 6 0).map λi=>(fD C C.length).getD i ⟨[],[],0,0,0⟩
def ai6 {t L C s}(ht:t.length<=1048576)(h:jH t=.ok (L,C))(a:pread gH gQ lT 0 C=.ok s)(A):ary (iZ C s) A=avv C (dH A):=by
 unfold ary;rw[aod ab5 ht h a (dH A)];rfl
def aok(m V):∀k i,(runM m V k i).length<=k:=by
 intro k;induction k with
 | zero=>intro i;simp[runM]
 | succ k a =>
   intro i;rw[runM]
   repeat' split
   all_goals first | (simp;done)|(simp only[a0r];have:=a;omega)|(refine a0h (a _) (by omega))|(simp only[a0r];exact Nat.succ_le_succ (a _))
def akY(ok:MOK m)(l):∀x∈uu m l,x.bl.length<=1000:=by
 intro x a;obtain⟨i,_,rfl⟩:=a0q.1 a;by_cases h:i<m.q9.length
 .have:=(ok.q9.2 m.q9[i] (a0u h)).b1;simp[List.getD,h];omega
 simp[List.getD,h]
def acg(w b a A B L)(d:RW A 1 w b (sc L))(c:RW B 1 w a (sc L))(hlen:L.length<=1000) :
 zF 41 #[b,a] w λe w'=>e=zR (.bool true)/\∃q,w'=w.drewN q:=by
 obtain⟨y,_,rfl,m⟩:=d.str;obtain⟨x,_,rfl,l⟩:=c.str;have:=aT;clear d c;delta zF;go_in;go_wp2_with fail;go_loopg [5] L.length (λk g wr=>∃j q:Nat,j+k=L.length/\g=zI j/\wr=w.drewN q);exact⟨0,0,by omega,rfl,rfl⟩
 .obtain⟨j,q,p,rfl,h⟩:=hrel;subst h;by_cases f:j<L.length
  .obtain⟨v,o,rfl,z,_⟩:=m j f;obtain⟨u,n,rfl,r,_⟩:=l j f;generalize L[j]=s at *;go_wp2_with fail;go_quiet (fail);go_wp2;go_roundg (gk-1);exact⟨j+1,_,by omega,by go_num,rfl⟩;omega
  go_wp2;go_ret;exact⟨rfl,q,rfl⟩
def af8(w i g h f x d c)(b:HR w i g x d)(a:HR w h f x c)(hlen:x.bl.length<=1000) :
 zF 26 #[.pointer (some (zB i g)),.pointer (some (zB h f))] w λe w'=>e=zR (.bool true)/\∃q,w'=w.drewN q:=by
 have j:∀n,zF 41 #[d,c] (w.drewN n) λe w'=>e=zR (.bool true)/\∃q,w'=(w.drewN n).drewN q:=λn=>acg _ _ _ [] [] x.bl (b.drewN n).r (a.drewN n).r hlen;obtain⟨B,_,rfl,_⟩:=b.r.str;obtain⟨A,_,rfl,_⟩:=a.r.str;have:=b.c0;have:=b.c1;have:=b.c2;have:=b.c3;have:=b.c4;have:=a.c0;have:=a.c1;have:=a.c2;have:=a.c3;have:=a.c4;have:=aT;delta zF;go_in;go_wp2_with fail;go_quiet ((go_at_call 41;exact Calls.quiet_of (j _)));go_wp2_with fail;go_quiet (fail);go_wp2;go_ret;exact⟨rfl,_,yD _ _ _⟩
def acD(w v1 v2 A B cs1 cs2 xs)(h1:RW A 5 w v1 (fZ cs1))(h2:RW B 5 w v2 (fZ cs2))(i1:dV Gj A w cs1 xs)(i2:dV Gj B w cs2 xs)(hlen:xs.length<=1048576)(hx:∀x∈xs,x.bl.length<=1000) :
 zF 11 #[v1,v2] w λe w'=>e=zR (.bool true)/\∃q,w'=w.drewN q:=by
 obtain⟨_,_,rfl,r1⟩:=sP h1 i1;obtain⟨_,_,rfl,r2⟩:=sP h2 i2;have R1:=aj r1;have R2:=aj r2;have HX:=aj hx;clear h1 h2 i1 i2 r1 r2 hx;delta zF;go_in;go_wp2_with fail;go_loopg [5] xs.length (λk v5 wr=>∃j q:Nat,j+k=xs.length/\v5=zI j/\wr=w.drewN q);case atStart=>exact⟨0,0,by omega,rfl,rfl⟩
 case round =>
  obtain⟨j,q,_,rfl,hw⟩:=hrel;have HW:=aj hw;clear hw;by_cases aL:j<xs.length
  ·obtain⟨g1,o1,_,rfl,IE,_,⟨b1,rfl,rb1⟩,k1⟩:=R1.o j aL;obtain⟨g2,o2,_,rfl,iM,_,⟨b2,rfl,rb2⟩,k2⟩:=R2.o j aL;have yS:=HX.o _ (a0u aL);have H1:HR w g1 (o1+j*5) xs[j] b1:=⟨IE,k1 0 _ rfl,k1 1 _ rfl,k1 2 _ rfl,k1 3 _ rfl,k1 4 _ rfl,rb1.cO (by simp)⟩;have H2:HR w g2 (o2+j*5) xs[j] b2:=⟨iM,k2 0 _ rfl,k2 1 _ rfl,k2 2 _ rfl,k2 3 _ rfl,k2 4 _ rfl,rb2.cO (by simp)⟩;have K1:HR wr g1 (o1+j*5) xs[j] b1:=by rw[HW.o];exact H1.drewN q
   have K2:HR wr g2 (o2+j*5) xs[j] b2:=by rw[HW.o];exact H2.drewN q
   have N1:Z_ (∀n,zF 26 #[.pointer (some (zB g1 (o1+j*5))),.pointer (some (zB g2 (o2+j*5)))] (wr.drewN n) λe w'=>e=zR (.bool true)/\∃q',w'=(wr.drewN n).drewN q'):=λn=>af8 _ _ _ _ _ xs[j] b1 b2 (K1.drewN n) (K2.drewN n) yS;clear H1 H2 K1 K2 k1 k2 rb1 rb2;go_wp2_with fail;go_quiet ((go_at_call 26;exact Calls.quiet_of (N1.o _)));go_wp2;go_roundg (gk-1);case measure=>omega
   case rel=>exact⟨j+1,_,by omega,by go_num,by rw[HW.o];exact yD _ _ _⟩
  go_wp2;go_ret;exact⟨rfl,q,HW⟩
def EN:Nat->List kW->Nat
 | n,[]=>n
 | n,x::r=>if n<=16384 then EN (n+x.1.length+x.2.length) r else n
def Zb:∀L n,n<=EN n L
 | [],n=>a0b _
 | x::r,n=>by
   unfold EN;split
   .have:=Zb r (n+x.1.length+x.2.length);omega
   omega
def LQ(w:World)(a:Option Addr)(L:List kW):Prop :=
 ∀(j:Nat) (h:j<L.length),∃g off,a=some (zB g off)/\g<w.heap.size/\w.cell? (zB g (off+j*2))=some (.string (bs L[j].1))/\w.cell? (zB g (off+j*2+1))=some (.string (bs L[j].2))
def LQ.lr(h:LQ w a L)(cap)(b:L.length<=1048576):LR w (.slice a L.length cap) L:=⟨a,cap,rfl,b,h⟩
theorem LQ.aC(h:LQ w a L)(f:aB [] w w'):LQ w' a L:=by intro j c;obtain⟨g,off,rfl,b,e,d⟩:=h j c;exact⟨g,off,rfl,a0t b f.size,(f.cell (p:=(zB g (off+j*2))) b (by simp)).trans e,(f.cell (p:=(zB g (off+j*2+1))) b (by simp)).trans d⟩
open Go.RowKit
def aol(w a cap L)(h:LQ w a L)(E:L.length<=4398046511104)(y:∀x∈L,x.1.length<=140737488355328/\x.2.length<=140737488355328) :
 zF 12 #[.slice a L.length cap] w λe w'=>e=zR (zI (EN L.length L:Nat))/\∃q,w'=w.drewN q:=by
 have:=bL;delta zF;go_in;go_wp2;go_loopg [3,4] L.length (λk p o wr=>∃j n q:Nat,j+k=L.length/\o=zI j/\p=zI n/\n<=562949953421312/\wr=w.drewN q/\(EN n (L.drop j)=EN L.length L));exact⟨0,L.length,0,by omega,rfl,rfl,by omega,rfl,by simp⟩
 .obtain⟨j,n,q,A,rfl,rfl,B,v,b⟩:=hrel;subst v;by_cases c:j<L.length
  .by_cases d:n<=16384
   .have s:decide ((n:Int)<=16384)=true:=a0g (by omega);obtain⟨g,_,rfl,D,t,r⟩:=h j c;have u:=y L[j] (a0u c);have m:EN (n+L[j].1.length+L[j].2.length) (L.drop (j+1))=EN L.length L:=by rw[<-b,a0k c,EN,a0m d]
    generalize L[j]=x at *;obtain⟨nm,l⟩:=x;simp only at t r u m;have:=bL nm;have:=bL l;go_wp2;go_quiet (fail);go_wp2;go_roundg (gk-1);exact⟨j+1,n+nm.length+l.length,_,by omega,by go_num,by go_num,by omega,rfl,m⟩;omega
   have:decide ((n:Int)<=16384)=false:=a0f (by omega);have i:EN L.length L=n:=by rw[<-b,a0k c,EN,a0n d]
   go_wp2;go_ret;rw[i];exact⟨rfl,q,rfl⟩
  have i:EN L.length L=n:=by rw[<-b,a0i (by omega),EN]
  go_wp2;go_ret;rw[i];exact⟨rfl,q,rfl⟩
def ai9:∀L n,n<=562949953421312->(∀x∈L,x.1.length<=140737488355328/\x.2.length<=140737488355328)->EN n L<=562949953421312
 | [],n,h,_=>h
 | x::r,n,h,a=>by
   unfold EN;have:=a x (by simp);split
   .exact ai9 r _ (by omega) (λy b=>a y (by simp[b]))
   omega
def aom(w t)(ht:t.length<=140737488355328)(a cap L)(h:LQ w a L)(g:L.length<=4398046511104)(b:∀x∈L,x.1.length<=140737488355328/\x.2.length<=140737488355328) :
 zF 4 #[zT t,.slice a L.length cap] w λe w'=>e=zR (.bool (decide (16384<t.length+EN L.length L)))/\∃q,w'=w.drewN q:=by
 have d:=aol w a cap L h g b;have:=ai9 L L.length (by omega) b;have:=bL t;generalize EN L.length L=S at *;cases hd:decide (16384<t.length+S);have c:¬ 16384<t.length+S:=of_decide_eq_false hd;have f:decide ((16384:Int)<(t.length:Int)+(S:Int))=false:=a0f (by omega);rotate_left;have:16384<t.length+S:=a2q hd;have:decide ((16384:Int)<(t.length:Int)+(S:Int))=true:=a0g (by omega);all_goals
  delta zF;go_in;go_wp2_with fail;refine d.mono ?_;rintro e i ⟨rfl,q,rfl⟩;go_wp2;go_ret;exact⟨rfl,q,rfl⟩
def zf(w:World)(b:Nat)(s:LB)(ok:Bool):Prop:=w.heap[b]?=some (.cells #[zT s,.bool ok] 56 (0,0))/\s.length<=1048576
theorem zf.c0 {ok}(h:zf w b s ok):zC w b 0 (zT s):=by simp[World.cell?,h.1]
theorem zf.c1 {ok}(h:zf w b s ok):zC w b 1 (.bool ok):=by simp[World.cell?,h.1]
theorem zf.fz {ok}(h:zf w b s ok)(o):w.frozen? (zB b o)=false:=by simp[World.frozen?,h.1]
theorem zf.lt {ok}(h:zf w b s ok):b<w.heap.size:=(a0c.1 h.1).1
theorem zf.aC {ok}(h:zf w b s ok)(f:aB S w w')(a:b∉S):zf w' b s ok:=⟨(f.block b h.lt a).trans h.1,h.2⟩
theorem zf.grown {ok row}(h:zf w b s ok)(c:w.grownBy w' row)(a:∀r,row=some r->r≠b):zf w' b s ok:=⟨(c.block b h.lt (λe=>a b e.symm rfl)).trans h.1,h.2⟩
def zf.set0 {ok:Bool}(h:zf w b s ok)(s':LB)(a:s'.length<=1048576):zf (w.setCell (zA b) (zT s')) b s' ok:=by refine⟨?_,a⟩;simp[World.setCell,a0v,h.1]
def zf.set1 {ok}(h:zf w b s ok)(k):zf (w.setCell (zB b 1) (.bool k)) b s k:=by refine⟨?_,h.2⟩;simp[World.setCell,a0v,h.1]
def MK(w:World)(mb:Nat)(V:V6):Prop:=w.heap[mb]?=some (.cells #[V.n,V.c,V.a,V.t,V.r,V.i] 60 (0,0))
theorem MK.lt(h:MK w mb V):mb<w.heap.size:=(a0c.1 h).1
theorem MK.fz(h:MK w mb V)(o):w.frozen? (zB mb o)=false:=by unfold MK at h;simp[World.frozen?,h]
theorem MK.aC(h:MK w mb V)(f:aB S w w')(a:mb∉S):MK w' mb V:=(f.block mb h.lt a).trans h
theorem MK.grown {row}(h:MK w mb V)(b:w.grownBy w' row)(a:∀r,row=some r->r≠mb):MK w' mb V:=(b.block mb h.lt (λe=>a mb e.symm rfl)).trans h
theorem MK.c0(h:MK w mb V):zC w mb 0 V.n:=by unfold MK at h;simp[World.cell?,h]
theorem MK.c1(h:MK w mb V):zC w mb 1 V.c:=by unfold MK at h;simp[World.cell?,h]
theorem MK.c2(h:MK w mb V):zC w mb 2 V.a:=by unfold MK at h;simp[World.cell?,h]
theorem MK.c3(h:MK w mb V):zC w mb 3 V.t:=by unfold MK at h;simp[World.cell?,h]
theorem MK.c4(h:MK w mb V):zC w mb 4 V.r:=by unfold MK at h;simp[World.cell?,h]
def MK.c5(h:MK w mb V):zC w mb 5 V.i:=by unfold MK at h;simp[World.cell?,h]
def MK.set0(h:MK w mb V)(v):MK (w.setCell (zA mb) v) mb { V with n:=v }:=by unfold MK at h |-;simp[World.setCell,a0v,h]
def MK.set1(h:MK w mb V)(v):MK (w.setCell (zB mb 1) v) mb { V with c:=v }:=by unfold MK at h |-;simp[World.setCell,a0v,h]
def MK.set2(h:MK w mb V)(v):MK (w.setCell (zB mb 2) v) mb { V with a:=v }:=by unfold MK at h |-;simp[World.setCell,a0v,h]
def MK.ahr(h:MK w mb V)(v):MK (w.setCell (zB mb 3) v) mb { V with t:=v }:=by unfold MK at h |-;simp[World.setCell,a0v,h]
def MK.Lm(h:MK w mb V)(v):MK (w.setCell (zB mb 4) v) mb { V with r:=v }:=by unfold MK at h |-;simp[World.setCell,a0v,h]
def MK.awm(h:MK w mb V)(v):MK (w.setCell (zB mb 5) v) mb { V with i:=v }:=by unfold MK at h |-;simp[World.setCell,a0v,h]
def aAB{α:Type}(f:α->LN):TQ α where
 rel A w cs x:=∃v,cs=#[v]/\RW A 1 w v (ic (f x))
 aC:=by rintro A S w w' cs x ⟨v,b,a⟩ g c;exact⟨v,b,a.aC g c⟩
 cO:=by rintro A B w cs x ⟨v,b,a⟩ d;exact⟨v,b,a.cO d⟩
def azy:TQ bX:=aAB λx=>[x.op,x.x,x.a,x.b]
def aAk:TQ jd:=aAB λx=>[x.n,x.k,x.x]
def azZ:(Tryz.prog.info? 63).map (λi=>(i.zero,i.size,i.bytes))=some (some zN,1,24):=by kernel_rfl
theorem az0:∀n v,v<256 ^ n->nmV (nb n v)=v
 | 0,v,h=>by simp at h;subst h;rfl
 | n+1,v,h=>by
   rw[nb,axw,az0 n (v / 256) (by omega)];have:(UInt8.ofNat (v % 256)).toNat=v % 256:=by simp
   omega
def TRs(w:World)(b:Nat)(r:LB)(v:Value)(e:Ending)(w':World):Prop:=e=zR v/\zf w' b r true/\aB [b] w w'
def azO(b x r nv w)(h:zf w b (x++r) true)(c:nv=(x.length:Int)) :
 zF 17 #[zP b,zI nv] w (TRs w b r (zT x)):=by
 subst c;have:=h.c0;have:=h.fz 0;have d:=bL (x++r);have a:=h.2;rw[a0p]at d a;have:(bs (x++r)).extract 0 x.length=bs x:=by rw[tF];simp
 have:(bs (x++r)).extract x.length (x.length+r.length)=bs r:=by rw[tF,<-a0p,a2h,List.drop_left]
 have e:TRs w b r (zT x) (zR (zT x)) (w.setCell (zA b) (zT r)):=⟨rfl,h.set0 _ (by omega),(aB.refl [b] w).setCell (.inl (by simp)) _⟩;clear h;delta zF;go_in;go_wp2;go_ret;exact e
def YM(b n v r nv a w)(h:zf w b (nb n v++r) true)(g:nv=(n:Int))(f:v<256 ^ n)(A:(v:Int)<=a)(c:n<=3) :
 zF 18 #[zP b,zI nv,zI a] w (TRs w b r (zI v)):=by
 have i:=azO b (nb n v) r nv w h (by rw[bz];exact g);have:=bz n v;have F:=az0 n v f;have B:256 ^ n<=256 ^ 3:=a1r (by omega) c;generalize nb n v=x at *;clear h f B g;delta zF;go_in;go_wp2_with fail;refine i.mono ?_;clear i;rintro e l ⟨rfl,E,F1⟩;have C:=bL x;go_wp2_with fail;go_loopg [8,9] x.length (λk q o wr=>∃j:Nat,j+k=x.length/\o=zI j/\q=zI (nmV (x.take j))/\wr=l);exact⟨0,by omega,rfl,rfl,rfl⟩
 .obtain⟨j,I,rfl,rfl,u⟩:=hrel;subst u;by_cases D:j<x.length
  .have:(bs x)[j]'(by rw[C];omega)=x[j]:=rfl;have G:nmV (x.take (j+1))=nmV (x.take j)*256+x[j].toNat:=by rw[a0F D,axw]
   have hb:=azY j (x.take j) (by rw[a1k];omega);have s:256 ^ j<=256 ^ 2:=a1r (by omega) (by omega);have:=x[j].toNat_lt;generalize x[j]=y at *;generalize nmV (x.take j)=m at *;generalize 256 ^ j=p at *;have:m<65536:=by omega
   clear hb s;go_wp2_with fail;go_roundg (gk-1);exact⟨j+1,by omega,by go_num,by rw[G];go_num,rfl⟩;omega
  have d:j=x.length:=by omega
  subst d;rw[a2h,F];have:decide (a<(v:Int))=false:=a0f (by omega);go_wp2;go_ret;exact⟨rfl,E,F1⟩
def aAl(b t r c w)(h:zf w b (eT t++r) true)(ht:t.length<256)(j:(t.length:Int)<=c) :
 zF 20 #[zP b,zI c] w (TRs w b r (zT t)):=by
 have g:=YM _ _ _ _ _ _ _ (by rw[<-a0M];exact h) rfl (by simpa using ht) j (by omega);clear h;delta zF;go_in;go_wp2_with fail;refine g.mono ?_;rintro e i ⟨rfl,a,F1⟩;have f:=azO b t r _ i a rfl;clear a g;go_wp2_with fail;refine f.mono ?_;rintro e l ⟨rfl,k,d⟩;have F2:=F1.trans d;clear d f;go_wp2;go_ret;exact⟨rfl,k,F2⟩
def azQ(b t r w)(h:zf w b (eT t++r) true)(ht:Bo t) :
 zF 19 #[zP b] w (TRs w b r (zT t)):=by
 have a:=(aAl b t r 8 w h (by have:=ht.1;omega) (by have:=ht.1;omega));have i:=ht.1;have d:∀w,zF 13 #[zT t] w λe w'=>e=zR (.bool true)/\w=w':=λw=>by have:=nH t w (by omega);rwa [ht.2]at this
 clear h ht;delta zF;go_in;go_wp2_with fail;refine a.mono ?_;rintro e g ⟨rfl,c,F1⟩;clear a;go_wp2_with fail;refine(d _).mono ?_;rintro e f ⟨rfl,rfl⟩;go_wp2;go_ret;exact⟨rfl,c,F1⟩
def NR(l:LN)(b:Nat)(r:LB)(w:World)(e:Ending)(w':World):Prop:=∃a c,e=zR (.slice a l.length c)/\zf w' b r true/\aB [b] w w'/\OW 3 1 w.heap.size w' (.slice a l.length c) (ic l)
def azR(b)(l:LN)(r nv p w)(h:zf w b (l.flatMap (nb 1)++r) true)(E:nv=(l.length:Int))(T:l.length<=100000)(D:∀x∈l,x<256/\(x:Int)<=p) :
 zF 36 #[zP b,zI nv,zI p] w (NR l b r w):=by
 subst E;have hb:=h.lt;delta zF;go_in;go_wp2_with fail;go_loopg [7,8] l.length (λk C B wr=>∃(j:Nat) (acc:LN),j+k=l.length/\B=zI j/\acc.length<=j/\(acc=l.take j)/\zf wr b ((l.drop j).flatMap (nb 1)++r) true/\aB [b] w wr/\OW 3 1 w.heap.size wr C (ic acc));exact⟨0,[],by omega,rfl,by simp,by simp,h,zK,OW.nil _ _ _ _⟩
 .clear h;obtain⟨j,acc,R,rfl,S,o,d,F,O⟩:=hrel;obtain⟨a,c,he⟩:=O.shape;rw[TM]at he;subst he;have c1:=d.c1;have hz:=F.size;by_cases i:j<l.length
  .have hd:=decLt j l.length (by omega);have H:decide (j<l.length)=true:=a0g i;have J:acc++[l[j]]=l.take (j+1):=by rw[a0F i,<-o]
   rw[pN i]at d;have t:=D l[j] (a0u i);have v:=YM b 1 l[j] _ 1 p wr d rfl t.1 t.2 (by omega);generalize l[j]=m at *;clear d o;go_wp2_with fail;refine v.mono ?_;rintro e A ⟨rfl,I,n⟩;have F2:=F.trans n;have u:=(O.aC n (by intro g G;simp at G;omega));have U:=n.size;have y:∀r,Value.ownBlock (.slice a acc.length c)=some r->w.heap.size<=r:=λr f=>(u.lt f).1;clear n v F O c1;go_wp2_with (first | (at_builtin;refine anu _ rfl _ _ rfl w.heap.size (.slice a acc.length c) acc A.heap.size m rfl (u.aC zG (by simp)) rfl (by simp) (by omega) (by simp;omega) ?_;intro V W P L z q X;clear q));go_roundg (gk-1)
   .exact⟨j+1,acc++[m],by omega,by go_num,by simp;omega,J,(I.aC zG (by simp)).grown z (λr f=>by have:=y r f;omega),(F2.alloc _).grown z (λr f=>.inr (y r f)),L⟩
   omega
  have s:j=l.length:=by omega
  have hd:=aBb j l.length (by omega);have H:decide (j<l.length)=false:=a0f i;have N:acc=l:=by rw[o,s];simp
  have M:zf wr b r true:=by show zf _ _ _ _;rw[s]at d;simpa using d
  clear o d;go_wp2;go_ret;have:=N;subst this;exact⟨a,c,rfl,M,F,O⟩
structure YT(t:TypeId)(z:List Value)(b:Nat)(w0 w:World)(s:LB)(cs:List Value):Prop where
 tk:zf w b s true
 f:aB [b] w0 w
 z:w.heap[w0.heap.size]?=some (.cells z.toArray t (0,0))
 h:w.heap[w0.heap.size+1]?=some (.cells cs.toArray t (0,0))
 lt:b<w0.heap.size
def YT.low {z cs}(h:YT t z b w0 w s cs):w0.heap.size+1<w.heap.size:=(a0c.1 h.h).1
def YT.start(h:zf w0 b s true)(t z):YT t z b w0 ((w0.alloc (.cells z.toArray t)).alloc (.cells z.toArray t)) s z:=by
 have F:aB [] w0 ((w0.alloc (.cells z.toArray t)).alloc (.cells z.toArray t)):=((aB.refl [] w0).alloc _).alloc _;refine⟨h.aC F (by simp),F.mono (by simp),(((aB.refl [] (w0.alloc (.cells z.toArray t))).alloc _).block w0.heap.size (by simp) (by simp)).trans (bD _ _),?_,h.lt⟩;have:=bD (w0.alloc (.cells z.toArray t)) (.cells z.toArray t);rwa [show(w0.alloc (.cells z.toArray t)).heap.size=w0.heap.size+1 by simp]at this
def YT.call {z cs s'}(h:YT t z b w0 w s cs)(f:aB [b] w w')(k:zf w' b s' true):YT t z b w0 w' s' cs :=
 ⟨k,h.f.trans f,(f.block _ (by have:=h.low;omega) (by have:=h.lt;simp;omega)).trans h.z,(f.block _ h.low (by have:=h.lt;simp;omega)).trans h.h,h.lt⟩
def YT.fs {z cs:List Value}(_:YT t z b w0 w s cs)(i:Nat)(v:Value):aB [w0.heap.size+1] w (w.setCell (zB (w0.heap.size+1) i) v):=zK.setCell (p:=(zB (w0.heap.size+1) i)) (.inl (by simp)) _
theorem YT.put {z cs}(h:YT t z b w0 w s cs)(i v):YT t z b w0 (w.setCell (zB (w0.heap.size+1) i) v) s (cs.set i v):=by have c:=h.lt;have d:=h.low;refine⟨h.tk.aC (h.fs i v) (by simp;omega),h.f.over (h.fs i v) (by intro x a;simp at a;left;omega),((h.fs i v).block _ (by omega) (by simp)).trans h.z,?_,c⟩;simp[World.setCell,a0v,h.h]
theorem YT.c {z cs}(h:YT t z b w0 w s cs) {x}(e:cs[i]?=some x):zC w (w0.heap.size+1) i x:=by simp[World.cell?,h.h,e]
theorem YT.fz {z cs}(h:YT t z b w0 w s cs)(o):w.frozen? (zB (w0.heap.size+1) o)=false:=by simp[World.frozen?,h.h]
theorem YT.zc {z cs}(h:YT t z b w0 w s cs) {x}(e:z[i]?=some x):zC w w0.heap.size i x:=by simp[World.cell?,h.z,e]
def YT.zz {z cs}(h:YT t z b w0 w s cs)(o):w.frozen? (zB w0.heap.size o)=false:=by simp[World.frozen?,h.z]
theorem YT.row {z cs base v'}(h:YT t z b w0 w s cs)(o:OW e k base w v vs)(hb:w0.heap.size+1<base):OW e k base (w.setCell (zB (w0.heap.size+1) i) v') v vs:=o.aY (h.fs i v') (λr a=>by have:=(o.lt a).1;simp;omega)
def OW.low{base base'}(h:OW e k base w v vs)(hb:base'<=base):OW e k base' w v vs:=by
 refine⟨⟨h.1.1,?_⟩,h.2⟩;rcases h.1.2 with b|⟨g,cap,cur,rfl,c,a,rest⟩
 .exact .inl b
 exact .inr ⟨g,cap,cur,rfl,by omega,a,rest⟩
def OW.past{base g}(o:OW e k base w v vs)(hb:g<base)(f:aB [g] w w'):OW e k g w' v vs:=(o.aY f (λr a=>by have:=(o.lt a).1;simp;omega)).low (by omega)
def ai3(x:gz)(v1 v2 v3:Value):Array Value:=#[.int .i64 (x.k:Nat),v1,v2,v3]
def az9:(Tryz.prog.info? 65).map (·.size)=some 4:=by kernel_rfl
def aAa {g cs}(h:w.heap[g]?=some (.cells cs 65 (0,0)))(a:cs.size=4):(loadVar 65 (zA g)).run Tryz.prog w=.ok (.agg cs) w :=
 run_loadVar_row w g 65 65 cs (0,0) _ h Tryz.underlying65 rfl (by rw[a];exact az9)
def AR(x:gz)(b:Nat)(r:LB)(w:World)(e:Ending)(w':World):Prop :=
 ∃d c a,e=zR (.agg (ai3 x d c a))/\zf w' b r true/\aB [b] w w'/\OW 3 1 w.heap.size w' d (ic x.cl)/\OW 3 1 w.heap.size w' c (ic x.acc)/\OW 3 1 w.heap.size w' a (ic x.nx)
def aAK(b x r w)(h:zf w b (eA x++r) true)(ok:Mo x) :
 zF 21 #[zP b] w (AR x b r w):=by
 have S0:=YT.start h 65 [zI 0,zN,zN,zN];have e0:eA x++r=nb 1 x.acc.length++(nb 2 x.k++(x.cl.flatMap (nb 1)++(x.acc.flatMap (nb 1)++(x.nx.flatMap (nb 1)++r)))):=by simp[eA]
 rw[e0]at S0;obtain⟨s1,s2,k1,k2,hc,pY,ha,hn,hns⟩:=ok;obtain⟨k,cl,acc,nx⟩:=x;simp only at s1 s2 k1 k2 hc pY ha hn hns S0;have:=a0D s2 k2;have N1:=aj (YM b 1 acc.length _ 1 40 _ S0.tk rfl (by omega) (by omega) (by omega));have B0:=aj S0;have HN:=aj hn;have HC:=aj hc;have:cl.length<=256:=by omega
 have:nx.length<=10240:=by omega
 clear h e0 S0 hc hn;go_enter Tryz.func21,Tryz.ntmps21;go_wp2_with fail;refine N1.o.mono ?_;clear N1;rintro e w2 ⟨rfl,hT,hF⟩;have B1:=aj (B0.o.call hF hT);have N2:=aj (YM b 2 k _ 2 256 w2 hT rfl (by omega) (by omega) (by omega));clear hT hF B0;go_wp2_with fail;refine N2.o.mono ?_;clear N2;rintro e _ ⟨rfl,hT,hF⟩;have S3:=B1.o.call hF hT;have d0:=S3.c (i:=0) rfl;have dz:=S3.fz;have B3:=aj (S3.put 0 (zI k));have:((acc.length:Int)==0)=false:=a0j.2 (by omega);have:((k:Int)==0)=false:=a0j.2 (by omega);clear hT hF B1 S3;have c0:=B3.o.c (i:=0) rfl;have N3:=aj (azR b cl _ 256 ((k:Int)-1) _ B3.o.tk (by rw[HC.o];rfl) (by omega) (λc hm=>by have:=pY c hm;omega));go_wp2_with fail;refine N3.o.mono ?_;clear N3 d0 dz c0;rintro e _ ⟨a1,q1,rfl,hT,hF,O1⟩;have S4:=B3.o.call hF hT;have Yl:=B3.o.low;have d0:=S4.c (i:=0) rfl;have d1:=S4.c (i:=1) rfl;have dz:=S4.fz;have B4:=aj (S4.put 1 (.slice a1 cl.length q1));have P1:=aj (S4.row (i:=1) (v':=.slice a1 cl.length q1) O1 Yl);clear hT hF B3 S4 O1;have N4:=aj (azR b acc _ (acc.length:Int) 1 _ B4.o.tk rfl (by omega) (λc hm=>by have:=ha c hm;omega));go_wp2_with fail;refine N4.o.mono ?_;clear N4 d0 d1 dz;rintro e _ ⟨a2,q2,rfl,hT,hF,O2⟩;have S5:=B4.o.call hF hT;have Fu:=B4.o.low;have d0:=S5.c (i:=0) rfl;have d2:=S5.c (i:=2) rfl;have dz:=S5.fz;have:=S5.lt;have B5:=aj (S5.put 2 (.slice a2 acc.length q2));have P2:=aj (S5.row (i:=2) (v':=.slice a2 acc.length q2) O2 Fu);have P1b:=aj (S5.row (i:=2) (v':=.slice a2 acc.length q2) (P1.o.aC hF (by intro g hg;simp at hg;omega)) Yl);clear hT hF B4 S5 O2 P1;have c0:=B5.o.c (i:=0) rfl;have:(acc.length:Int)*(k:Int)=((nx.length:Nat):Int):=by rw[HN.o];simp
 have N5:=aj (azR b nx _ (nx.length:Int) ((acc.length:Int)-1) _ B5.o.tk rfl (by omega) (λc hm=>by have:=hns c hm;omega));go_wp2_with fail;refine N5.o.mono ?_;clear N5 d0 d2 dz c0;rintro e _ ⟨a3,q3,rfl,hT,hF,O3⟩;have S6:=B5.o.call hF hT;have Sa:=B5.o.low;have:=S6.c (i:=0) rfl;have:=S6.c (i:=1) rfl;have:=S6.c (i:=2) rfl;have:=S6.c (i:=3) rfl;have:=S6.fz;have:=S6.zc (i:=0) rfl;have:=S6.zc (i:=1) rfl;have:=S6.zc (i:=2) rfl;have:=S6.zc (i:=3) rfl;have:=S6.zz;have B6:=aj (S6.put 3 (.slice a3 nx.length q3));have P3:=aj (S6.row (i:=3) (v':=.slice a3 nx.length q3) O3 Sa);have P2c:=aj (S6.row (i:=3) (v':=.slice a3 nx.length q3) (P2.o.aC hF (by intro g hg;simp at hg;omega)) Fu);have P1c:=aj (S6.row (i:=3) (v':=.slice a3 nx.length q3) (P1b.o.aC hF (by intro g hg;simp at hg;omega)) Yl);clear hT hF B5 S6 O3 P2 P1b;go_wp2;refine bodyPost_ret (qE rfl _ _ w.heap.size (ai3 ⟨k,cl,acc,nx⟩ (.slice a1 cl.length q1) (.slice a2 acc.length q2) (.slice a3 nx.length q3)) rfl (aAa (VB _ _ _ _ B6.o.z) rfl)) rfl ?_;exact⟨_,_,_,rfl,B6.o.tk.aC (Nc _ _ _ _ _ _) (by simp;omega),B6.o.f.over (Nc _ _ _ _ _ _) (by simp),P1c.o.past (by omega) (Nc _ _ _ _ _ _),P2c.o.past (by omega) (Nc _ _ _ _ _ _),P3.o.past (by omega) (Nc _ _ _ _ _ _)⟩
def azS:TQ gz where
 rel A w cs x:=∃c b a,cs=ai3 x c b a/\RW A 1 w c (ic x.cl)/\RW A 1 w b (ic x.acc)/\RW A 1 w a (ic x.nx)
 aC:=by rintro A S w w' cs x ⟨c,b,a,j,i,h,g⟩ f d;exact⟨c,b,a,j,i.aC f d,h.aC f d,g.aC f d⟩
 cO:=by rintro A B w cs x ⟨c,b,a,j,i,h,g⟩ e;exact⟨c,b,a,j,i.cO e,h.cO e,g.cO e⟩
def aAb:(Tryz.prog.info? 65).map (λi=>(i.zero,i.size,i.bytes))=some (some (.agg #[zI 0,zN,zN,zN]),4,80):=by kernel_rfl
structure RMr(A:LN)(w:World)(mb:Nat)(V:V6)(m:mP):Prop where
 row:MK w mb V
 n:RW A 1 w V.n (sc m.names)
 c:RW A 1 w V.c (sc m.consts)
 a:∃bB,RW A 4 w V.a (fZ bB)/\dV azS A w bB m.zg
 t:∃bB,RW A 1 w V.t (fZ bB)/\dV aAk A w bB m.tests
 r:∃bB,RW A 5 w V.r (fZ bB)/\dV Gj A w bB m.q9
 i:∃bB,RW A 1 w V.i (fZ bB)/\dV azy A w bB m.code
theorem RMr.aC(h:RMr A w mb V m)(f:aB S w w')(b:∀g∈S,g∈A)(d:mb∉A):RMr A w' mb V m:=by obtain⟨c1,u,s⟩:=h.a;obtain⟨c2,q,p⟩:=h.t;obtain⟨c3,o,l⟩:=h.r;obtain⟨c4,j,e⟩:=h.i;exact⟨h.row.aC f (λk=>d (b _ k)),h.n.aC f b,h.c.aC f b,⟨c1,u.aC f b,s.aC f b⟩,⟨c2,q.aC f b,p.aC f b⟩,⟨c3,o.aC f b,l.aC f b⟩,⟨c4,j.aC f b,e.aC f b⟩⟩
def RMr.cO{B}(h:RMr A w mb V m)(e:∀g∈B,g∈A):RMr B w mb V m:=by
 obtain⟨c1,s,q⟩:=h.a;obtain⟨c2,p,o⟩:=h.t;obtain⟨c3,l,k⟩:=h.r;obtain⟨c4,j,f⟩:=h.i;have b:∀g∈B,g∈A\/w.heap.size<=g:=λg d=>.inl (e g d);exact⟨h.row,h.n.cO b,h.c.cO b,⟨c1,s.cO b,q.cO b⟩,⟨c2,p.cO b,o.cO b⟩,⟨c3,l.cO b,k.cO b⟩,⟨c4,j.cO b,f.cO b⟩⟩
def azA(A w mb V m)(h:RMr A w mb V m)(t)(ht:Lu m.names.length m.consts.length m.zg.length t)(vx)(hx:RW A 1 w vx (ic [t.n,t.k,t.x]))
 (vl L) (hL:LR w vl L) (jk:∀a∈m.zg,Mo a) (hv:(dH L (m.names.getD t.n [])).length<=1048576) :
 zF 24 #[zP mb,vx,vl] w λe w'=>e=zR (.bool (Jz m (dH L (m.names.getD t.n [])) t))/\∃q,w'=w.drewN q:=by
 obtain⟨_,_,hVn,hn⟩:=h.n.str;obtain⟨_,_,hVc,hc⟩:=h.c.str;obtain⟨_,ha1,ha2⟩:=h.a;obtain⟨_,_,hVa,ha⟩:=sP ha1 ha2;obtain⟨_,_,rfl,Yr⟩:=hx.num;obtain⟨_,_,rfl,_,x0⟩:=Yr 0 (by simp);obtain⟨_,_,e',_,x1⟩:=Yr 1 (by simp);simp[Option.some.injEq,Addr.mk.injEq,a2u]at e';obtain⟨rfl,rfl⟩:=e';obtain⟨_,_,e',_,x2⟩:=Yr 2 (by simp);simp only[Option.some.injEq,Addr.mk.injEq,a2u]at e';obtain⟨rfl,rfl⟩:=e';simp only[List.getElem_cons_zero,List.getElem_cons_succ,a1Q,a0r,a1e,a1n]at x0 x1 x2 |-;obtain⟨_,_,rfl,_,_⟩:=hn t.n ht.n;have jP:m.names.getD t.n []=m.names[t.n]'ht.n:=by simp[List.getD,ht.n]
 rw[jP]at hv |-;have RV:Z_ (∀n,zF 38 #[vl,zT (m.names[t.n]'ht.n)] (w.drewN n) λe w'=>e=zR (zT (dH L (m.names[t.n]'ht.n)))/\w'=w.drewN n):=λn=>(aiH vl L _ (w.drewN n) (hL.aC ((aB.refl [] w).drewN n) (by simp))).mono (λe w' h=>⟨h.1,h.2.symm⟩);have m0:=h.row.c0;have m1:=h.row.c1;have m2:=h.row.c2;rw[hVn]at m0;rw[hVc]at m1;rw[hVa]at m2;have:=ht.n;have:=ht.k;have JH:=ht.x;have:=aT;generalize UA:m.names[t.n]'ht.n=nm at *;have eG:=bL (dH L nm);generalize hvv:dH L nm=v at *;by_cases hk:t.k=0
 ·have yS:t.x<m.consts.length:=by rw[a0n (by omega)]at JH;exact JH
  obtain⟨_,_,rfl,_,_⟩:=(aj hc).o t.x yS;have HV:Z_ (Jz m v t=(v==m.consts[t.x])):=by
   show _=_;unfold Jz;rw[a0m hk];simp[List.getD,yS]
  generalize m.consts[t.x]=cst at *;rw[hk]at x1;go_enter Tryz.func24,Tryz.ntmps24;go_wp2_with fail;go_quiet ((go_at_call 38;exact Calls.quiet_of_same (RV.o _)));go_wp2_with fail;go_quiet (fail);go_wp2;go_ret;rw[HV.o];exact⟨rfl,_,yD _ _ _⟩
 have hk1:t.k=1:=by omega
 have yS:t.x<m.zg.length:=by rw[a0m hk1]at JH;exact JH
 obtain⟨ga,oa,_,rfl,_,_,hrel,pY⟩:=(aj ha).o t.x yS;have OK:Z_ (Mo m.zg[t.x]):=(aj jk).o _ (a0u yS);have HV:Z_ (Jz m v t=(m.zg[t.x].acc.getD (yC m.zg[t.x] 0 v) 0==1)):=by
  show _=_;unfold Jz;rw[a0n hk];simp[List.getD,yS]
 generalize m.zg[t.x]=x at *;obtain⟨_,_,_,rfl,r1,r2,r3⟩:=hrel;obtain⟨a1,c1,rfl,lz⟩:=r1.num;obtain⟨a2,c2,rfl,lq⟩:=r2.num;obtain⟨a3,c3,rfl,Ak⟩:=r3.num;have:zC w ga (oa+t.x*4) (zI (x.k:Nat)):=pY 0 _ rfl;have:zC w ga (oa+t.x*4+1) (.slice a1 x.cl.length c1):=pY 1 _ rfl;have:zC w ga (oa+t.x*4+2) (.slice a2 x.acc.length c2):=pY 2 _ rfl;have:zC w ga (oa+t.x*4+3) (.slice a3 x.nx.length c3):=pY 3 _ rfl;have H3:=aj Ak;rw[hk1]at x1;have hkk:=OK.o.k2;have:=OK.o.s2;have:=OK.o.s1;have uA:x.cl.length=256:=OK.o.cl;have Ao:=aj uA;have:x.nx.length<=10240:=by rw[OK.o.nx];exact a0h (a0D OK.o.s2 OK.o.k2) (by decide)
 go_enter Tryz.func24,Tryz.ntmps24
 go_wp2_with fail;go_quiet ((go_at_call 38;exact Calls.quiet_of_same (RV.o _)));go_wp2_with fail;go_quiet (fail);go_wp2_with fail;go_loopg [9,10] v.length (λk v9 v10 wr=>∃(i s q:Nat),i+k=v.length/\v10=zI i/\v9=zI s/\s<x.acc.length/\Z_ (yC x s (v.drop i)=yC x 0 v)/\wr=w.drewN q);case atStart=>exact⟨0,0,_,by omega,rfl,rfl,by omega,rfl,yD _ _ _⟩
 case round =>
  obtain⟨i,s,q,_,rfl,rfl,hs,HT,hw⟩:=hrel;subst hw;by_cases aL:i<v.length
  ·have:(bs v)[i]'(by rw[eG];omega)=v[i]:=rfl;obtain⟨hr,akR⟩:=ab9 OK.o hs v[i];have HT2:Z_ (yC x (x.nx.getD (s*x.k+x.cl.getD v[i].toNat 0) 0) (v.drop (i+1))=yC x 0 v):=by
    have h2:=HT.o;rw[a0k aL,yC]at h2;exact h2
   have hb:v[i].toNat<256:=v[i].toNat_lt;have jE:v[i].toNat<x.cl.length:=by rw[Ao.o];exact hb
   obtain⟨_,_,rfl,_,_⟩:=(aj lz).o v[i].toNat jE;have hge:x.cl.getD v[i].toNat 0=x.cl[v[i].toNat]'jE:=by simp[List.getD,jE]
   have:x.cl[v[i].toNat]'jE<256:=by
    have:=OK.o.cls (x.cl[v[i].toNat]'jE) (a0u _);omega
   rw[hge]at HT2 hr akR;clear HT hge;generalize x.cl[v[i].toNat]'jE=mm at *;generalize v[i]=y at *;have hsm:s*x.k<=40*256:=a0D (by omega) hkk;obtain⟨p,hp⟩:∃p,p=s*x.k:=⟨_,rfl⟩;have:(s:Int)*(x.k:Int)=(p:Int):=by rw[hp];simp
   rw[<-hp]at HT2 hsm hr akR;clear hp;obtain⟨_,_,rfl,_,_⟩:=H3.o (p+mm) hr;have jP:x.nx.getD (p+mm) 0=x.nx[p+mm]:=by simp[List.getD,hr]
   rw[jP]at HT2 akR;generalize x.nx[p+mm]=z at *;clear jP;go_wp2_with fail;go_quiet (fail);go_wp2_with fail;go_roundg (gk-1);case measure=>omega
   case rel=>exact⟨i+1,z,_,by omega,by go_num,rfl,akR,HT2,rfl⟩
  have HT2:Z_ (s=yC x 0 v):=by
   have h2:=HT.o;rw[a0i (by omega),yC]at h2;exact h2
  obtain⟨_,_,rfl,_,_⟩:=(aj lq).o s hs;have Du:Z_ (x.acc.getD (yC x 0 v) 0=x.acc[s]):=by show _=_;rw[<-HT2.o];simp[List.getD,hs]
  generalize x.acc[s]=z at *;go_wp2;go_ret;rw[HV.o,Du.o];refine⟨dD ?_,q,rfl⟩;by_cases hz:z=1
  ·subst hz;rfl
  rw[a0j.2 hz,a0j.2 (by omega)]
end
section
variable {w w6 wa:World} {v va vn:Value} {L R T:LB} {b q sb:Nat} {t:TypeId} {x:gz} {a:Act} {A:LN}
def aAP(m:mP)(l:LN)(w:World)(e:Ending)(w':World):Prop :=
 ∃v a,e=zR v/\aB [] w w'/\OW 68 5 w.heap.size w' v (fZ a)/\dV Gj [] w' a (uu m l)
def aAc(w mb V m)(h:RMr [] w mb V m)(ok:MOK m)(vl L)(hL:LR w vl L)(Ux:∀n,(dH L n).length<=1048576) :
 zF 9 #[zP mb,vl] w (aAP m (runM m (dH L) m.code.length 0) w):=by
 have H:=aj h;have OK:=aj ok;have axv:=aj Ux;have:=ok.code.2.1;have:=ok.code.1;go_enter Tryz.func9,Tryz.ntmps9;go_wp2_with fail;go_loopg [5,6] m.code.length (λk v5 v6 wr=>∃(i:Nat) (l:LN) (bB:List (Array Value)),v6=zI i/\i<m.code.length/\m.code.length<=i+k/\bB.length<=i/\aB [] w wr/\OW 68 5 w.heap.size wr v5 (fZ bB)/\Z_ (dV Gj [] w bB (uu m l))/\Z_ (l++runM m (dH L) k i=runM m (dH L) m.code.length 0));case atStart=>exact⟨0,[],[],rfl,by omega,by omega,by simp,aB.refl _ _,OW.nil _ _ _ _,dV.nil _ _ _,rfl⟩
 case round =>
  obtain⟨i,l,bB,rfl,hi,_,_,hF,hO,HI,HR⟩:=hrel;obtain⟨ao,co,he⟩:=hO.shape;rw[jA]at he;subst he;have F:=aj hF;have O:=aj hO;have:=hF.size;obtain⟨n,hn⟩:∃n,gk=n+1:=⟨gk-1,by omega⟩;subst hn;obtain⟨_,IJ,Ic⟩:=H.o.i;obtain⟨_,_,hVi,iG⟩:=sP IJ Ic;obtain⟨gi,oi,_,rfl,YI,_,⟨vc,rfl,hvc⟩,aO⟩:=iG i hi;have m5:=hF.at H.o.row.lt H.o.row.c5;rw[hVi]at m5;have k0:zC wr gi (oi+i*1+0) vc:=hF.at (p:=(zB gi (oi+i*1+0))) YI (aO 0 _ rfl);rw[a1H,a1Q]at k0;obtain⟨_,_,rfl,Yr⟩:=hvc.num;obtain⟨gx,ox,rfl,hgx,x0⟩:=Yr 0 (by simp);obtain⟨g',o',e',_,x1⟩:=Yr 1 (by simp);simp only[Option.some.injEq,Addr.mk.injEq,a2u]at e';obtain⟨rfl,rfl⟩:=e';obtain⟨_,o',e',_,x2⟩:=Yr 2 (by simp);simp only[Option.some.injEq,Addr.mk.injEq,a2u]at e';obtain⟨rfl,rfl⟩:=e';obtain⟨_,_,e',_,x3⟩:=Yr 3 (by simp);simp only[Option.some.injEq,Addr.mk.injEq,a2u]at e';obtain⟨rfl,rfl⟩:=e';simp only[List.getElem_cons_zero,List.getElem_cons_succ,a1Q,a0r,a1e,a1n]at x0 x1 x2 x3 k0;have y0:=hF.at (p:=(zB gx ox)) hgx x0;have y1:=hF.at (p:=(zB gx (ox+1))) hgx x1;have y2:=hF.at (p:=(zB gx (ox+2))) hgx x2;have y3:=hF.at (p:=(zB gx (ox+3))) hgx x3;have X2:=aj x2;have af6:=akX OK.o (dH L) hi n;have mI:Z_ ((fZ bB).length=bB.length):=jA bB;clear x0 x1 x2 x3 Yr hvc iG aO IJ Ic hVi hF hO;generalize m.code[i]=c at *;obtain⟨_,x,a,b⟩:=c;simp only at y0 y1 y2 y3 X2 af6;rcases af6 with⟨rfl,wW⟩|⟨rfl,Ar,hia,han,wW⟩|⟨rfl,hia,han,hib,hbn,hxt,axx,wW⟩
  ·have HE:Z_ (runM m (dH L) m.code.length 0=l):=by
    show _=_;rw[<-HR.o,wW,a0R]
   clear HR wW;go_wp2;go_ret;rw[HE.o];exact⟨_,bB,rfl,F,O,HI.o.aC F.o (by simp)⟩
  ·have tV:Z_ ((l++[x])++runM m (dH L) n a=runM m (dH L) m.code.length 0):=by
    show _=_;rw[<-HR.o,wW];simp
   obtain⟨_,r1,r2⟩:=H.o.r;obtain⟨_,_,hVr,hrr⟩:=sP r1 r2;obtain⟨gr,orr,_,rfl,Au,_,hrel,aO⟩:=hrr x Ar;have HS:Z_ (uu m (l++[x])=uu m l++[m.q9[x]]):=ai1 m l x Ar;generalize m.q9[x]=hx at *;have aAQ:=aj hrel;obtain⟨_,rfl,Be⟩:=hrel;obtain⟨ab,cb,rfl,_⟩:=Be.str;have m4:=F.o.at (p:=(zB mb 4)) H.o.row.lt H.o.row.c4;rw[hVr]at m4;have q0:zC wr gr (orr+x*5) (zT hx.rc):=F.o.at (p:=(zB gr (orr+x*5+0))) Au (aO 0 _ rfl);have q1:zC wr gr (orr+x*5+1) (.slice ab hx.bl.length cb):=F.o.at (p:=(zB gr (orr+x*5+1))) Au (aO 1 _ rfl);have q2:zC wr gr (orr+x*5+2) (zI (hx.wt:Nat)):=F.o.at (p:=(zB gr (orr+x*5+2))) Au (aO 2 _ rfl);have q3:zC wr gr (orr+x*5+3) (zI (hx.ev:Nat)):=F.o.at (p:=(zB gr (orr+x*5+3))) Au (aO 3 _ rfl);have q4:zC wr gr (orr+x*5+4) (zI (hx.rp:Nat)):=F.o.at (p:=(zB gr (orr+x*5+4))) Au (aO 4 _ rfl);obtain⟨h1,h2,h3,h4,h5⟩:=hx;simp only at q0 q1 q2 q3 q4;clear HR wW aO hrr r1 r2 hVr Be;go_wp2_with fail;go_region_law ((refine CU _ (by rfl) _ _ 34 68 _ 5 64 CV Tryz.underlying34 (by rfl) (by omega) (by rfl) w.heap.size (.slice ao bB.length co) (fZ bB) wr.heap.size (aO ⟨h1,h2,h3,h4,h5⟩ (.slice ab h2.length cb)) (0,0) (by rfl) (O.o.aC (S:=[]) (((aB.refl [] _).alloc _).drew) (by simp)) (by rfl) (by rfl) (by exact bD _ _) (ay9 _ _ _ _) (by rw[mI.o];omega) (by rw[mI.o];omega) (by simp;omega) (wr.heap.size+1) (by simp) ?_;intro _ _ w4 bT aH _ _;rw[mI.o]at bT |-));all_goals
    have F4:Z_ (aB [] w w4):=((F.o.alloc _).drew).grown aH (λr hr=>.inr (O.o.lt hr).1);have O4:=aj bT;have:=F4.o.at (p:=(zB gx (ox+2))) hgx X2;clear aH bT;go_wp2;go_roundg n;case measure=>omega
    case rel =>
     have O5:=O4.o;rw[Gi]at O5;refine⟨a,l++[x],bB++[aO ⟨h1,h2,h3,h4,h5⟩ (.slice ab h2.length cb)],rfl,han,by omega,by simp;omega,F4,?_,?_,tV⟩
     ·exact O5
     show dV _ _ _ _ _;rw[HS.o];exact HI.o.snoc aAQ
  obtain⟨_,t1,t2⟩:=H.o.t;obtain⟨_,_,hVt,htr⟩:=sP t1 t2;obtain⟨gt,ot,_,rfl,dZ,_,⟨vt,rfl,hvt⟩,aO⟩:=htr x hxt;have m3:=F.o.at (p:=(zB mb 3)) H.o.row.lt H.o.row.c3;rw[hVt]at m3;have q0:zC wr gt (ot+x*1+0) vt:=F.o.at (p:=(zB gt (ot+x*1+0))) dZ (aO 0 _ rfl);rw[a1H,a1Q]at q0;obtain⟨avt,cvt,hvs,_⟩:=hvt.num;subst hvs;have CK:Z_ (∀n,zF 24 #[zP mb,.slice avt 3 cvt,vl] (wr.drewN n) λe w'=>e=zR (.bool (Jz m (dH L (m.names.getD m.tests[x].n [])) m.tests[x]))/\∃q,w'=(wr.drewN n).drewN q):=λn =>
   azA [] (wr.drewN n) mb V m (H.o.aC (F.o.drewN n) (by simp) (by simp)) m.tests[x] axx (.slice avt 3 cvt) (hvt.aC (F.o.drewN n) (by simp)) vl L ((aj hL).o.aC (F.o.drewN n) (by simp)) OK.o.zg.2 (axv.o _)
  have ami:=aj wW;generalize X0:Jz m (dH L (m.names.getD m.tests[x].n [])) m.tests[x]=bt at *;cases bt
  ·have tV:Z_ (l++runM m (dH L) n b=runM m (dH L) m.code.length 0):=by
    show _=_;rw[<-HR.o,ami.o];rfl
   go_wp2_with fail;go_quiet ((go_at_call 24;exact Calls.quiet_of (CK.o _)));go_wp2;go_roundg n;case measure=>omega
   case rel=>exact⟨b,l,bB,rfl,hbn,by omega,by omega,F.o.drewN _,O.o.aC ((aB.refl [] _).drewN _) (by simp),HI,tV⟩
  have tV:Z_ (l++runM m (dH L) n a=runM m (dH L) m.code.length 0):=by
   show _=_;rw[<-HR.o,ami.o];rfl
  go_wp2_with fail;go_quiet ((go_at_call 24;exact Calls.quiet_of (CK.o _)));go_wp2;go_roundg n;case measure=>omega
  case rel=>exact⟨a,l,bB,rfl,han,by omega,by omega,F.o.drewN _,O.o.aC ((aB.refl [] _).drewN _) (by simp),HI,tV⟩
def yc(L:LB):List (List Value):=L.map λc=>[.int .u8 c.toNat]
theorem aon(L):(yc L).length=L.length:=by simp[yc]
theorem aAm(L c):yc L++[[.int .u8 c.toNat]]=yc (L++[c]):=by simp[yc]
theorem azb(L):(yc L).flatten=byt L:=by
 induction L with
 | nil=>rfl
 | cons c L a=>simp only[yc,byt,a0E,List.flatten_cons]at a |-;rw[a];rfl
def aAy(L):∀z∈yc L,z.length=1:=by simp[yc]
def YB(base:Nat)(w:World)(v:Value)(L:LB):Prop :=
 OW 5 1 base w v (yc L)\/(∃g,v=zS g 3 3/\base<=g/\L=I4/\w.heap[g]?=some (.cells #[.int .u8 79,.int .u8 66,.int .u8 49] 5 (3,4)))
theorem YB.u8 {base}(h:YB base w v L) {r}(a:v.ownBlock=some r):base<=r/\∃cur fz,w.heap[r]?=some (.cells cur 5 fz):=by
 rcases h with h|⟨g,rfl,hb,_,c⟩
 .refine⟨(h.lt a).1,?_⟩;rcases h.1.2 with⟨rfl,_⟩|⟨g,cap,cur,rfl,_,b,_⟩
  .simp[Value.ownBlock]at a
  simp[Value.ownBlock]at a;subst a;exact⟨cur,_,b⟩
 simp[Value.ownBlock]at a;subst a;exact⟨hb,_,_,c⟩
def YB.ne {base}(h:YB base w v L) {cs}(ht:t≠5)(c:w.heap[b]?=some (.cells cs t (0,0))):some b≠v.ownBlock:=by intro e;obtain⟨_,cur,fz,a⟩:=h.u8 e.symm;rw[c]at a;simp at a;exact ht a.2.1
theorem YB.alloc {base}(h:YB base w v L)(o):YB base (w.alloc o) v L:=by
 rcases h with h|⟨g,d,c,b,a⟩
 .exact .inl (h.aC zG (by simp))
 exact .inr ⟨g,d,c,b,(((aB.refl [] w).alloc o).block g (a0c.1 a).1 (by simp)).trans a⟩
def YB.shape {base}(h:YB base w v L):∃a c,v=.slice a L.length c:=by
 rcases h with h|⟨g,d,i,b,f⟩
 .obtain⟨a,c,e⟩:=h.shape;rw[aon]at e;exact⟨a,c,e⟩
 exact⟨_,3,by rw[d,b];rfl⟩
structure SVx(W0:World)(sb:Nat)(B:List (Nat × TypeId × Array Value))(T R L:LB)(v:Value)(w:World):Prop where
 te:L++R=T
 ml:3<=L.length
 tl:T.length<=300000000
 row:w.heap[sb]?=some (.cells #[v] 92 (0,0))
 sz:W0.heap.size<=sb
 yb:YB W0.heap.size w v L
 fr:aB [] W0 w
 st:∀p∈B,p.1≠sb/\p.2.1≠5/\w.heap[p.1]?=some (.cells p.2.2 p.2.1 (0,0))
def SVr(W0:World)(sb:Nat)(B:List (Nat × TypeId × Array Value))(T R:LB)(w:World):Prop:=∃L v,SVx W0 sb B T R L v w
theorem SVx.lt {W0 B}(h:SVx W0 sb B T R L v w):sb<w.heap.size:=(a0c.1 h.row).1
def SVx.far {W0 B}(h:SVx W0 sb B T R L v w)(f:aB [] w wa)(g:wa.grownBy w6 v.ownBlock) {cs}(ht:t≠5)(a:w.heap[b]?=some (.cells cs t (0,0))):w6.heap[b]?=some (.cells cs t (0,0)):=by have hb:=(a0c.1 a).1;exact(g.block b (a0t hb f.size) (h.yb.ne ht a)).trans ((f.block b hb (by simp)).trans a)
theorem SVx.put {W0 B x v'}(h:SVx W0 sb B T (x++R) L v w)(f:aB [] w wa)(g:wa.grownBy w6 v.ownBlock)(q:OW 5 1 W0.heap.size w6 v' (yc (L++x))) :
 SVr W0 sb B T R (w6.setCell (zA sb) v'):=by
 have a:=h.far f g (by decide) h.row;have F:=(aB.refl [sb] w6).setCell (p:=(zA sb)) (.inl (by simp)) v';refine⟨L++x,v',by rw[<-h.te];simp,by have:=h.ml;simp;omega,h.tl,by simp[World.setCell,a0v,a],h.sz,.inl (q.aY F (λr e b=>?_)),((h.fr.trans f).grown g (λk j=>.inr (h.yb.u8 j).1)).setCell (.inr h.sz) _,λp i=>?_⟩
 .simp at b;subst b;exact YB.ne (.inl q) (by decide) a e.symm
 obtain⟨d,c,l⟩:=h.st p i;have:=h.far f g c l;exact⟨d,c,(F.block _ (a0c.1 this).1 (by simpa using d)).trans this⟩
theorem SVx.c {W0 B}(h:SVx W0 sb B T R L v w):zC w sb 0 v/\sb<w.heap.size:=⟨by simp[World.cell?,h.row],h.lt⟩
def one_cell(h:w.heap[b]?=some (.cells #[v] t (0,0))):zC w b 0 v/\w.frozen? (zA b)=false:=by simp[World.cell?,World.frozen?,h]
theorem SVr.fr {W0 B}(h:SVr W0 sb B T R w):aB [] W0 w:=by obtain⟨_,_,h⟩:=h;exact h.fr
def SVr.new {W0 B}(h:SVr W0 sb B T R w)(cs)(ht:t≠5):SVr W0 sb ((w.heap.size,t,cs)::B) T R (w.alloc (.cells cs t)):=by
 obtain⟨L,v,h⟩:=h;have F:=(aB.refl [] w).alloc (.cells cs t);refine⟨L,v,h.te,h.ml,h.tl,(F.block _ h.lt (by simp)).trans h.row,h.sz,h.yb.alloc _,h.fr.trans F,λp a=>?_⟩;rcases a0l.1 a with rfl|a
 .exact⟨Nat.ne_of_gt h.lt,ht,bD _ _⟩
 obtain⟨d,c,b⟩:=h.st p a;exact⟨d,c,(F.block _ (a0c.1 b).1 (by simp)).trans b⟩
def SVr.tl {W0 B p}(h:SVr W0 sb (p::B) T R w):SVr W0 sb B T R w:=by obtain⟨L,v,h⟩:=h;exact⟨L,v,h.te,h.ml,h.tl,h.row,h.sz,h.yb,h.fr,λp a=>h.st p (by simp[a])⟩
theorem SVr.cs {W0 cs B}(h:SVr W0 sb ((b,t,cs)::B) T R w)(i):w.cell? (zB b i)=cs[i]?:=by obtain⟨L,v,h⟩:=h;simp[World.cell?,(h.st (b,t,cs) (by simp)).2.2]
def zm {ops rest o} {Q:Exit->Act->World->Prop}(m:o.guard=none)(s x)
 (ho:o.op=.call { callee:=.builtin .append,args:=#[s,x],argTypes:=#[90,90] })
  {W0 B c cs} (h:SVx W0 sb B T (c::R) L v w) (p:a.eval s=v) (n:a.eval x=zS w.heap.size 1 1) (r:cs=#[.int .u8 c.toNat])
 (k:∀g cap w6,(zC w6 sb 0 v/\w6.frozen? (zA sb)=false)->SVr W0 sb B T R (w6.setCell (zA sb) (zS g (L.length+1) cap))->wpList Tryz.prog ops Q rest (a.put o.dst (zS g (L.length+1) cap)) w6) :
 wpList Tryz.prog ops Q (o::rest) a (w.alloc (.cells cs 5)):=by
 subst r;have A:=aon L;have M:L.length<=300000000:=by have:=h.tl;rw[<-h.te,a0p]at this;omega
 have hb:W0.heap.size<=(w.alloc (.cells #[.int .u8 c.toNat] 5)).heap.size:=by have:=h.fr.size;simp;omega
 have q:∀j u,([.int .u8 c.toNat]:List Value)[j]?=some u->zC (w.alloc (.cells #[.int .u8 c.toNat] 5)) w.heap.size j u:=by intro j u l;cases j<;>simp_all
 have F:=(aB.refl [] w).alloc (.cells #[.int .u8 c.toNat] 5);have i:=λg cap w6 f d=>k g cap w6 (one_cell (h.far F d (by decide) h.row)) (h.put (x:=[c]) F d f);rcases h.yb.alloc (.cells #[.int .u8 c.toNat] 5) with I|⟨g,y,J,z,D⟩
 .refine qD _ m s x 90 5 (.int .u8 0) 1 1 ak6 Tryz.underlying90 rfl (by decide) ho W0.heap.size v (yc L) w.heap.size [.int .u8 c.toNat] p I n rfl q (by simp[Value.oneCell']) (by omega) (by omega) hb ?_;rw[A,aAm];exact λg cap w6 f d _ _=>i g cap w6 f d
 subst y z;obtain⟨t,C,gT,H,E⟩:=kg ak6;refine wpList_append_grows _ m s x 90 ho 5 t _ 1 1 Tryz.underlying90 C gT H E rfl (by decide) (some (zA g)) 3 3 [.int .u8 79,.int .u8 66,.int .u8 49] p (λe=>by cases e) rfl ?_ (zA w.heap.size) 1 1 [.int .u8 c.toNat] n rfl (λj u l=>by rw[add0];exact q j u l) (by simp[Value.oneCell']) (by omega) (by unfold maxLen;omega) (by omega) ?_
 .intro b e j u l;cases e;rw[add0,cell_of_row _ g j _ _ _ D];simpa using l
 intro v' w' f d;obtain⟨G,cap,e,_,_⟩:=f.form (by omega);subst e;exact i G cap w' (OW.base ⟨by rw[aon];exact f,aAy _⟩ hb) ⟨d.os,d.tape,d.output,d.size,λk i _=>d.block k i (by simp)⟩
theorem Mq(n:Nat):#[Value.int .u8 ((n:Int) % 256)]=#[.int .u8 (UInt8.ofNat (n % 256)).toNat]:=by simp
def az:∀(k:Nat) {W0 sb B T R w} n sz,k<=3->sz=(k:Int)+1->n<16777216->SVr W0 sb B T (nb (k+1) n++R) w ->
 zF 33 #[zP sb,zI sz,zI (n:Nat)] w λe w'=>e=zQ #[]/\SVr W0 sb B T R w':=by
 intro k;induction k with
 | zero =>
   intro W0 sb B T R w n sz _ hz f ⟨L,v,h⟩;subst hz;obtain⟨a,c,rfl⟩:=h.yb.shape;have c0:=h.c;replace h:SVx W0 sb B T (UInt8.ofNat (n % 256)::R) L _ w:=h;delta zF;go_in;go_wp2_with (first | (at_builtin;refine zm rfl _ _ rfl h rfl rfl (Mq n) ?_;intro g cap w6 c6 b));go_end0;exact⟨rfl,b⟩
 | succ k d =>
   intro W0 sb B T R w n sz m hz f h;have i:1<sz:=by omega
   have l:sz<=4:=by omega
   have hd:decide ((1:Int)<sz)=true:=a0g i;have N:=d (R:=UInt8.ofNat (n % 256)::R) (n / 256) (sz-1) (by omega) (by omega) (by omega) (by rw[nb]at h;simpa using h);rw[show((n / 256:Nat):Int)=(n:Int) / 256 by omega]at N;clear d h hz;delta zF;go_in;go_wp2_with fail;refine N.mono ?_;rintro e j ⟨rfl,L,v,h⟩;obtain⟨a,c,rfl⟩:=h.yb.shape;have c0:=h.c;go_wp2_with (first | (at_builtin;refine zm rfl _ _ rfl h rfl rfl (Mq n) ?_;intro g cap w6 c6 b));go_end0;exact⟨rfl,b⟩
theorem azT(x):Lib.strCells (bs x)=byt x:=by simp[Lib.strCells,byt,bs]
theorem azB(a b):byt (a++b)=byt a++byt b:=by simp[byt]
def as1 {W0 B}(x)(u:x.length<=1048576)(h:SVr W0 sb B T (eT x++R) w) :
 zF 53 #[zP sb,zT x] w λe w'=>e=zQ #[]/\SVr W0 sb B T R w':=by
 have N:=az 0 (R:=x++R) x.length 1 (by omega) rfl (by omega) (by simpa[eT] using h);have hz:=bL x;delta zF;go_in;go_wp2_with fail;refine N.mono ?_;obtain⟨C,t,f⟩:=h;rintro e g ⟨rfl,L,v,h⟩;obtain⟨a,c,rfl⟩:=h.yb.shape;have c0:=h.c;have z:L.length<=300000000:=by have:=h.tl;rw[<-h.te,a0p]at this;omega
 obtain⟨i,k,gT,m,l⟩:=kg ak6;have q:g.ownsRow W0.heap.size 5 1 (.slice a L.length c) L.length (byt L):=by
  have p:=congrArg List.length f.te;have o:=congrArg List.length h.te;have:=f.ml;rcases h.yb with y|⟨_,_,_,e,_⟩
  .have:=y.1;rw[aon,azb]at this;exact this
  simp[e,I4,eT,bz]at p o;omega
 go_wp2_with (first | (at_builtin;refine Lib.wpList_append_own_string _ rfl _ _ 90 9 rfl W0.heap.size 5 i Tryz.underlying90 Tryz.underlying9 k gT m l (.slice a L.length c) L.length (byt L) rfl q (bs x) rfl (by rw[hz];unfold maxLen;omega) (by rw[hz];omega) h.fr.size ?_;intro s w6 b d j;have c6:=one_cell (h.far zK d (by decide) h.row);obtain⟨A,r,n⟩:=aW b;subst n));go_end0;exact⟨rfl,h.put zK d ⟨by rw[azT,<-azB,hz]at b;rw[aon,azb,a0p];exact b,aAy _⟩⟩
def ai4 {W0 B f xs}(ht:RW A 1 W0 f (sc xs))(i:∀x∈xs,x.length<=1048576)(l:xs.length<16777216)(h:SVr W0 sb B T (We xs++R) w) :
 zF 32 #[zP sb,f] w λe w'=>e=zQ #[]/\SVr W0 sb B T R w':=by
 obtain⟨a,c,rfl,o⟩:=ht.str;have N:=az 0 (R:=xs.flatMap eT++R) xs.length 1 (by omega) rfl l (by simpa[We] using h);delta zF;go_in;go_wp2_with fail;refine N.mono ?_;rintro e q ⟨rfl,S⟩;go_wp2_with fail;go_loopg [12] xs.length (λk b wr=>∃j:Nat,j+k=xs.length/\b=zI j/\SVr W0 sb B T ((xs.drop j).flatMap eT++R) wr);exact⟨0,by omega,rfl,S⟩
 .obtain⟨j,r,rfl,S⟩:=hrel;by_cases d:j<xs.length
  .have hd:=decLt j xs.length (by omega);obtain⟨g,off,rfl,m,n⟩:=o j d;have y:=S.fr.at m n;rw[a0k d,a1i,a0M]at S;have N:=as1 _ (i xs[j] (a0u d)) S;generalize xs[j]=x at *;go_wp2_with fail;refine N.mono ?_;rintro e p ⟨rfl,S⟩;go_wp2_with fail;go_roundg (gk-1);exact⟨j+1,by omega,by go_num,S⟩;omega
  have hd:=aBb j xs.length (by omega);rw[a0i (by omega)]at S;go_wp2;go_end0;exact⟨rfl,S⟩
def azC {W0 B x b cb}(ht:RW A 1 W0 (.slice b x.bl.length cb) (sc x.bl))(a:afH x)(h:SVr W0 sb B T (eH x++R) w) :
 zF 35 #[zP sb,.agg (aO x (.slice b x.bl.length cb))] w λe w'=>e=zQ #[]/\SVr W0 sb B T R w':=by
 have p:=a.rc.1;have o:=a.wt;have n:=a.ev;have m:=a.rp;have l:=a.b1;have d:∀y∈x.bl,y.length<=1048576:=λy c=>by have:=(a.b2 y c).1;omega
 obtain⟨rc,bl,wt,ev,rp⟩:=x;simp only[eH,a0M]at *;have N:=as1 rc (by omega) (h.new (t:=68) (aO ⟨rc,bl,wt,ev,rp⟩ (.slice b bl.length cb)) (by decide));delta zF;go_in;simp only[aO]at N |-;go_wp2_with fail;refine N.mono ?_;rintro e k ⟨rfl,S⟩;have y:=S.cs;have N:=ai4 ht d (by omega) S;go_wp2_with fail;refine N.mono ?_;rintro e j ⟨rfl,S⟩;have y:=S.cs;have N:=az 2 wt 3 (by omega) rfl (by omega) S;go_wp2_with fail;refine N.mono ?_;rintro e i ⟨rfl,S⟩;have y:=S.cs;have N:=az 2 ev 3 (by omega) rfl (by omega) S;go_wp2_with fail;refine N.mono ?_;rintro e g ⟨rfl,S⟩;have y:=S.cs;have N:=az 2 rp 3 (by omega) rfl (by omega) S;go_wp2_with fail;refine N.mono ?_;rintro e f ⟨rfl,S⟩;go_wp2;go_end0;exact⟨rfl,S.tl⟩
theorem aAL(g q j):((zB g q):Addr).add j=(zB g (q+j)):=by unfold Addr.add;split<;>simp_all
def azD(w a ty cs d)(h:∀j v,cs.toList[j]?=some v->w.cell? (a.add j)=some v)
 (f:Tryz.prog.underlying ty=some d) (hd:(match d with | .struct _ | .array _ _=>true|_=>false)=true) (e:(Tryz.prog.info? ty).map (·.size)=some cs.size) :
 (loadVar ty a).run Tryz.prog w=.ok (.agg cs) w:=by
 have c:(loadCells a cs.toList.length).run Tryz.prog w=.ok cs.toList.toArray w:=run_loadCells_list w a cs.toList h;cases hq:Tryz.prog.info? ty with
 | none=>simp[hq]at e
 | some i =>
   have g:i.size=cs.size:=by simpa[hq] using e
   have b:(isAgg ty).run Tryz.prog w=.ok true w:=by unfold isAgg;rw[Sem.run_bind,run_underlying f w];cases d<;>simp_all
   simp[loadVar,b,sizeOf,typeInfo,hq,g];rw[a3o]at c;rw[c];simp
def azE {o:Oper} {K:Act->World->Prop} {Q:Exit->Act->World->Prop}(t x)(ho:o.op=.load t x)(p)(b:a.eval x=.pointer (some p))(cs)(c:(loadVar t p).run Tryz.prog w=.ok (.agg cs) w)(h:K (a.put o.dst (.agg cs)) w):o.wp Tryz.prog a w K Q:=by unfold Oper.wp execOp;simp only[ho,b,Instr.loadAt,Instr.sureAddr,Sem.run_bind,Sem.run_pure,Result.andThen_ok,c];exact h
def aAo:(Tryz.prog.info? 97).map (·.size)=some 256:=by kernel_rfl
def aAd(w cs j v)(i:j<256)(h:cs[j]?=some v):(Instr.index 97 (.agg cs) (zI (j:Nat))).run Tryz.prog w=.ok v w:=by
 obtain⟨g,c,gT,d,l⟩:=kg ak6;have a:(isAgg 5).run Tryz.prog w=.ok false w:=by
  unfold isAgg;rw[Sem.run_bind,run_underlying Tryz.underlying5 w];rfl
 have f:(j:Int)<256:=by omega
 have e:=(a0c.1 h).1;have b:cs[j]=v:=(a0c.1 h).2;simp[Instr.index,asIntOf,run_underlying Tryz.underlying97,part,sizeOf,typeInfo,c,d,a,f,h,e,b];omega
def clA(x:gz):Array Value:=(x.cl.map λ(c:Nat)=>Value.int .u8 c).toArray
def as4 {W0 B g}(i:AUm W0 g q x va vn)(ra:RW A 1 W0 va (bc x.acc))(rn:RW A 1 W0 vn (ic x.nx))(ok:Mo x)(h:SVr W0 sb B T (eA x++R) w) :
 zF 34 #[zP sb,.pointer (some (zB g q))] w λe w'=>e=zQ #[]/\SVr W0 sb B T R w':=by
 obtain⟨aa,ca,rfl,M⟩:=ra.bool;obtain⟨an,cn,rfl,J⟩:=rn.num;have X:=ok.s2;have Z:=ok.k2;have F:=ok.cl;have Y:x.nx.length<=10240:=by rw[ok.nx];exact a0h (a0D ok.s2 ok.k2) (by decide)
 simp only[eA,a0M]at h;have N:=az 0 x.acc.length 1 (by omega) rfl (by omega) h;have H:=(i.aC h.fr).ca;delta zF;go_in;go_wp2_with fail;refine N.mono ?_;rintro e W ⟨rfl,S⟩;have N:=az 1 x.k 2 (by omega) rfl (by omega) S;have G:=(i.aC S.fr).c0;go_wp2_with fail;refine N.mono ?_;rintro e l ⟨rfl,S⟩;have I:(clA x).size=256:=by simp[clA,F]
 have C:∀j,j<256->(clA x)[j]?=some (.int .u8 (x.cl.getD j 0:Nat)):=by
  intro j b;have a:j<x.cl.length:=by omega
  simp[clA,a,List.getD]
 have E:(loadVar 97 (zB g (q+1))).run Tryz.prog l=.ok (.agg (clA x)) l:=by
  refine azD l (zB g (q+1)) 97 (clA x) _ (λj u b=>?_) Tryz.underlying97 rfl (by rw[I];exact aAo);rw[Array.getElem?_toList]at b;have a:j<256:=by have:=(a0c.1 b).1;omega
  rw[aAL,(i.aC S.fr).cc j a,<-b,C j a]
 clear H N G;go_wp2_with fail;refine azE 97 (.tmp 25) rfl (zB g (q+1)) rfl (clA x) E ?_;clear E;go_wp2_with fail;go_loopg [27] 256 (λk p wr=>∃j:Nat,j+k=256/\p=zI j/\SVr W0 sb B T ((x.cl.drop j).flatMap (nb 1)++(x.acc.flatMap (nb 1)++(x.nx.flatMap (nb 1)++R))) wr);exact⟨0,by omega,rfl,S⟩
 case round =>
 clear S;obtain⟨j,b,rfl,S⟩:=hrel;by_cases a:j<256
 .have hd:decide ((j:Int)<256)=true:=a0g (by omega);have f:j<x.cl.length:=by omega
  have s:=aAd wr (clA x) j _ a (C j a);have hb:=ok.cls x.cl[j] (a0u f);rw[pN f]at S;rw[show x.cl.getD j 0=x.cl[j] by simp[List.getD,f]]at s;generalize x.cl[j]=m at *;obtain⟨L,v,h⟩:=S;replace h:SVx W0 sb B T (UInt8.ofNat (m % 256)::_) L v wr:=h;obtain⟨a3,c3,rfl⟩:=h.yb.shape;have c0:=h.c;go_wp2_with (first | (at_builtin;refine zm rfl _ _ rfl h rfl rfl (by rw[<-Mq,show(m:Int) % 256=m by omega]) ?_;intro g2 aU w6 c6 P));go_roundg (gk-1);exact⟨j+1,by omega,by go_num,P⟩;omega
 have hd:decide ((j:Int)<256)=false:=a0f (by omega);rw[wS (by omega)]at S;have r:=(i.aC S.fr).ca;clear C b;go_wp2_with fail;generalize wr=V at *;go_loopg [46] x.acc.length (λk o wr=>∃j:Nat,j+k=x.acc.length/\o=zI j/\SVr W0 sb B T ((x.acc.drop j).flatMap (nb 1)++(x.nx.flatMap (nb 1)++R)) wr);exact⟨0,by omega,rfl,S⟩
 case round =>
 clear S r;obtain⟨j,b,rfl,S⟩:=hrel;by_cases a:j<x.acc.length
 .have hd:=decLt j x.acc.length (by omega);obtain⟨O,off,rfl,t,z⟩:=M j a;have y:=S.fr.at t z;have D:x.acc[j]=0\/x.acc[j]=1:=by have:=ok.acc _ (a0u a);omega
  rw[pN a]at S;have N:=az 0 x.acc[j] 1 (by omega) rfl (by omega) S;generalize x.acc[j]=m at *;rcases D with rfl|rfl;all_goals
   go_wp2_with fail;refine N.mono ?_;rintro e w6 ⟨rfl,S⟩;go_wp2_with fail;go_roundg (gk-1);exact⟨j+1,by omega,by go_num,S⟩;omega
 have hd:=aBb j x.acc.length (by omega);rw[wS a]at S;have r:=(i.aC S.fr).cn;skip;go_wp2_with fail;generalize wr=U at *;go_loopg [61] x.nx.length (λk n wr=>∃j:Nat,j+k=x.nx.length/\n=zI j/\SVr W0 sb B T ((x.nx.drop j).flatMap (nb 1)++R) wr);exact⟨0,by omega,rfl,S⟩
 case round =>
 clear S r;obtain⟨d,b,rfl,S⟩:=hrel;by_cases a:d<x.nx.length
 .have hd:=decLt d x.nx.length (by omega);obtain⟨O,off,rfl,t,z⟩:=J d a;have y:=S.fr.at t z;have D:=ok.nxs _ (a0u a);rw[pN a]at S;have N:=az 0 x.nx[d] 1 (by omega) rfl (by omega) S;generalize x.nx[d]=m at *;go_wp2_with fail;refine N.mono ?_;rintro e w6 ⟨rfl,S⟩;go_wp2_with fail;go_roundg (gk-1);exact⟨d+1,by omega,by go_num,S⟩;omega
 have hd:=aBb d x.nx.length (by omega);rw[wS a]at S;go_wp2;go_end0;exact⟨rfl,S⟩
def OW.str {base}(h:OW 5 1 base w v (yc L))(c:0<L.length):(convert 90 9 v).run Tryz.prog w=.ok (zT L) w:=by have a:=h.1;rw[aon,azb]at a;obtain⟨g,cap,rfl,_,_⟩:=a.form c;refine run_convert_bytes_back (P:=Tryz.prog) w 90 9 5 (zA g) cap L Tryz.underlying90 Tryz.underlying5 Tryz.underlying9 ?_;intro j b;exact World.ownsRow.cells a (g:=g) rfl j _ (by simp[byt,b])
theorem RW.map {α:Type} {k} {f:α->Array Value} {L:List α}(h:RW A k w v (L.map λx=>(f x).toList)):∃a cap,v=.slice a L.length cap/\∀j (b:j<L.length),∃g off,a=some (zB g off)/\g<w.heap.size/\∀c x,(f L[j])[c]?=some x->zC w g (off+j*k+c) x:=by obtain⟨a,cap,e,_,m⟩:=h;refine⟨a,cap,by simpa using e,λj b=>?_⟩;obtain⟨g,off,n,_,l,i⟩:=m j (by simpa using b);exact⟨g,off,n,l,λc x d=>i c x (by simpa using d)⟩
def SVr.rows {W0 B}(h:SVr W0 sb B T R w) {cs:Array Value}(hb:b<W0.heap.size)(a:∀i,W0.cell? (zB b i)=cs[i]?)(i):w.cell? (zB b i)=cs[i]?:=(h.fr.cell (p:=(zB b i)) hb (by simp)).trans (a i)
def M5{g}(b:g<w.heap.size)(a:x.cl.length=256)(hh:∀c y,(Lv x va vn)[c]?=some y->zC w g (q+c) y):AUm w g q x va vn:=by
 refine⟨b,hh 0 _ (by simp[Lv]),λc d=>?_,hh 257 _ (by simp[Lv,nv,a]),hh 258 _ (by simp[Lv,nv,a])⟩;rw[a2M]
 exact hh (1+c) _ (by have:c<x.cl.length:=by omega
                      rw[a2w];simp[Lv,nv,this,List.getElem?_append,List.getD])
def azU(A pb V m w)(s:pb<w.heap.size)(u:∀i,w.cell? (zB pb i)=V.cells[i]?)(hG:PG A w V m)(hM:MOK m)(hL:(eM m).length<=300000000) :
 zF 16 #[zP pb] w λe w'=>e=zR (zT (eM m))/\aB [] w w':=by
 obtain⟨m1,m2,o,l,f,d⟩:=m;obtain⟨_,_,_,_,_,_⟩:=V;obtain⟨q1,q2,⟨_,q3,i3⟩,q4,⟨_,q5,i5⟩,q6⟩:=hG;obtain⟨⟨_,o1⟩,⟨_,o2⟩,⟨_,o3⟩,⟨_,o4⟩,⟨_,o5⟩,_,_,o6⟩:=hM;obtain⟨_,_,e1,_⟩:=q1.str;obtain⟨_,_,e2,_⟩:=q2.str;obtain⟨_,_,e3,r3⟩:=sP q3 i3;obtain⟨_,_,e4,r4⟩:=q4.map;obtain⟨_,_,e5,r5⟩:=sP q5 i5;obtain⟨_,_,e6,r6⟩:=q6.map;simp only[V6.cells]at *;subst e1 e2 e3 e4 e5 e6;obtain⟨W2,hW⟩:∃W2,W2=(w.alloc (.cells #[.int .u8 79,.int .u8 66,.int .u8 49] 5 (3,4))).alloc (.cells #[zS w.heap.size 3 3] 92):=⟨_,rfl⟩;obtain⟨T,O⟩:∃T,T=eM ⟨m1,m2,o,l,f,d⟩:=⟨_,rfl⟩;obtain⟨R5,E⟩:∃R,R=nb 2 d.length++(d.flatMap eI++[]):=⟨_,rfl⟩;obtain⟨R4,G⟩:∃R,R=nb 1 f.length++(f.flatMap eH++R5):=⟨_,rfl⟩;obtain⟨R3,H⟩:∃R,R=nb 1 l.length++(l.flatMap pR++R4):=⟨_,rfl⟩;have S:SVr w (w.heap.size+1) [] T (We m1++(We m2++(nb 1 o.length++(o.flatMap eA++R3)))) W2:=by
  refine⟨I4,_,by rw[O,H,G,E];simp[eM],by decide,by rw[O];exact hL,?_,by omega,.inr ⟨w.heap.size,rfl,a0b _,rfl,?_⟩,?_,by simp⟩;all_goals rw[hW]
  .exact Nf _ _ _
  .exact(((aB.refl [] (w.alloc _)).alloc _).block w.heap.size (by simp) (by simp)).trans (bD _ _)
  exact((aB.refl [] w).alloc _).alloc _
 have N:=ai4 q1 (λy Z=>by have:=(o1 y Z).1;omega) (by omega) S;have y:=S.rows s u;rw[hW]at N y;have kc:=λ(w:World) (C:Array Value) (n c:Nat)=>Lib.run_convert_bytes_const (P:=Tryz.prog) w 90 5 C n c Tryz.underlying90 Tryz.underlying5;rw[<-O];delta zF;go_in;go_wp2_with fail;refine N.mono ?_;rintro e _ ⟨rfl,S⟩;have N:=ai4 q2 (λy Z=>by have:=o2 y Z;omega) (by omega) S;have y:=S.rows s u;go_wp2_with fail;refine N.mono ?_;rintro e _ ⟨rfl,S⟩;have N:=az 0 o.length 1 (by omega) rfl (by omega) S;have y:=S.rows s u;go_wp2_with fail;refine N.mono ?_;rintro e _ ⟨rfl,S⟩;have y:=S.rows s u;go_wp2_with fail;go_loopg [35] o.length (λk X wr=>∃j:Nat,j+k=o.length/\X=zI j/\SVr w (w.heap.size+1) [] T ((o.drop j).flatMap eA++R3) wr);exact⟨0,by omega,rfl,S⟩
 case round =>
 obtain⟨j,I,rfl,S⟩:=hrel;have y:=S.rows s u;by_cases b:j<o.length
 .have hd:=decLt j o.length (by omega);obtain⟨g,off,cs,rfl,D,_,⟨_,_,rfl,ra,rn⟩,hh⟩:=r3 j b;have ok:=o3 _ (a0u b);rw[pN b]at S;have N:=as4 (M5 D ok.cl hh) ra rn ok S;generalize o[j]=x at *;go_wp2_with fail;refine N.mono ?_;rintro e _ ⟨rfl,S⟩;go_wp2_with fail;go_roundg (gk-1);exact⟨j+1,by omega,by go_num,S⟩;omega
 have hd:=aBb j o.length (by omega);rw[wS b,H]at S;have N:=az 0 l.length 1 (by omega) rfl (by omega) S;go_wp2_with fail;refine N.mono ?_;rintro e _ ⟨rfl,S⟩;have y:=S.rows s u;go_wp2_with fail;go_loopg [57] l.length (λk vk wr=>∃j:Nat,j+k=l.length/\vk=zI j/\SVr w (w.heap.size+1) [] T ((l.drop j).flatMap pR++R4) wr);exact⟨0,by omega,rfl,S⟩
 case round =>
 obtain⟨j,I,rfl,S⟩:=hrel;by_cases b:j<l.length
 .have hd:=decLt j l.length (by omega);obtain⟨g,off,rfl,D,hh⟩:=r4 j b;obtain⟨k1,k2,Y⟩:=o4 _ (a0u b);rw[pN b]at S;generalize l[j]=x at *;obtain⟨B,z,r⟩:=x;have h c y e:=S.fr.at (p:=(zB g (off+j*3+c))) D (hh c y e);have h0:wr.cell? (zB g (off+j*3))=_:=h 0 (zI (B:Nat)) rfl;have h1:=h 1 (zI (z:Nat)) rfl;have h2:=h 2 (zI (r:Nat)) rfl;simp only[pR,a0M]at *;replace Y:r<256:=by split at Y<;>omega
  have N:=az 0 B 1 (by omega) rfl (by omega) (S.new (t:=102) #[zI (B:Nat),zI (z:Nat),zI (r:Nat)] (by decide));go_wp2_with fail;refine N.mono ?_;rintro e M ⟨rfl,S⟩;have y:=S.cs;have N:=az 0 z 1 (by omega) rfl (by omega) S;go_wp2_with fail;refine N.mono ?_;rintro e W ⟨rfl,S⟩;have y:=S.cs;have N:=az 0 r 1 (by omega) rfl (by omega) S;go_wp2_with fail;refine N.mono ?_;rintro e U ⟨rfl,S⟩;go_wp2_with fail;go_roundg (gk-1);exact⟨j+1,by omega,by go_num,S.tl⟩;omega
 have hd:=aBb j l.length (by omega);rw[wS b,G]at S;have N:=az 0 f.length 1 (by omega) rfl (by omega) S;have y:=S.rows s u;go_wp2_with fail;refine N.mono ?_;rintro e _ ⟨rfl,S⟩;have y:=S.rows s u;go_wp2_with fail;go_loopg [82] f.length (λk vk wr=>∃j:Nat,j+k=f.length/\vk=zI j/\SVr w (w.heap.size+1) [] T ((f.drop j).flatMap eH++R5) wr);exact⟨0,by omega,rfl,S⟩
 case round =>
 obtain⟨j,I,rfl,S⟩:=hrel;by_cases b:j<f.length
 .have hd:=decLt j f.length (by omega);obtain⟨g,off,_,rfl,D,_,⟨_,rfl,rb⟩,hh⟩:=r5 j b;obtain⟨ab,cb,e,_⟩:=rb.str;subst e;have ok:=o5 _ (a0u b);rw[pN b]at S;generalize f[j]=x at *;have N:=azC rb ok (S.new (t:=68) (aO x (.slice ab x.bl.length cb)) (by decide));obtain⟨B,z,r,J,x4⟩:=x;have h c y e:=S.fr.at (p:=(zB g (off+j*5+c))) D (hh c y e);have h0:wr.cell? (zB g (off+j*5))=_:=h 0 (zT B) rfl;have h1:=h 1 (.slice ab z.length cb) rfl;have h2:=h 2 (zI (r:Nat)) rfl;have h3:=h 3 (zI (J:Nat)) rfl;have:=h 4 (zI (x4:Nat)) rfl;simp only[aO]at N;go_wp2_with fail;refine N.mono ?_;rintro e M ⟨rfl,S⟩;go_wp2_with fail;go_roundg (gk-1);exact⟨j+1,by omega,by go_num,S.tl⟩;omega
 have hd:=aBb j f.length (by omega);rw[wS b,E]at S;have N:=az 1 d.length 2 (by omega) rfl (by omega) S;have y:=S.rows s u;go_wp2_with fail;refine N.mono ?_;rintro e _ ⟨rfl,S⟩;have y:=S.rows s u;go_wp2_with fail;go_loopg [100] d.length (λk vk wr=>∃j:Nat,j+k=d.length/\vk=zI j/\SVr w (w.heap.size+1) [] T ((d.drop j).flatMap eI++[]) wr);exact⟨0,by omega,rfl,S⟩
 case round =>
 obtain⟨j,I,rfl,S⟩:=hrel;by_cases b:j<d.length
 .have hd:=decLt j d.length (by omega);obtain⟨g,off,rfl,D,hh⟩:=r6 j b;obtain⟨_,_,_,Y,_⟩:=o6 j b;rw[pN b]at S;generalize d[j]=x at *;obtain⟨B,z,r,J⟩:=x;have h c y e:=S.fr.at (p:=(zB g (off+j*4+c))) D (hh c y e);have:wr.cell? (zB g (off+j*4))=_:=h 0 (zI (B:Nat)) rfl;have:=h 1 (zI (z:Nat)) rfl;have:=h 2 (zI (r:Nat)) rfl;have:=h 3 (zI (J:Nat)) rfl;simp only[eI,a0M]at *;have N:=az 0 B 1 (by omega) rfl (by omega) (S.new (t:=105) #[zI (B:Nat),zI (z:Nat),zI (r:Nat),zI (J:Nat)] (by decide));go_wp2_with fail;refine N.mono ?_;rintro e M ⟨rfl,S⟩;have y:=S.cs;have N:=az 0 z 1 (by omega) rfl (by omega) S;go_wp2_with fail;refine N.mono ?_;rintro e W ⟨rfl,S⟩;have y:=S.cs;have N:=az 1 r 2 (by omega) rfl (by omega) S;go_wp2_with fail;refine N.mono ?_;rintro e U ⟨rfl,S⟩;have y:=S.cs;go_wp2_with fail;refine (az 1 J 2 (by omega) rfl (by omega) S).mono ?_;rintro e _ ⟨rfl,S⟩;go_wp2_with fail;go_roundg (gk-1);exact⟨j+1,by omega,by go_num,S.tl⟩;omega
 have:=aBb j d.length (by omega);rw[wS b]at S;obtain⟨L,v,h⟩:=S;obtain rfl:L=T:=by simpa using h.te
 have:=h.c;have:(convert 90 9 v).run Tryz.prog wr=.ok (zT L) wr:=by
  have:=h.ml;rcases h.yb with q|⟨_,_,_,q,_⟩
  .exact q.str (by omega)
  have e2:=congrArg List.length (O.symm.trans q);simp[eM,I4,bz]at e2
 obtain⟨a,c,rfl⟩:=h.yb.shape;clear O;go_wp2;go_ret;exact⟨rfl,h.fr⟩
theorem azV(A pb V m w)(h:PR A w pb V m)(hM:MOK m)(hL:(eM m).length<=300000000) :
 Calls Tryz.prog 7 #[.pointer (some ⟨pb,0,none⟩)] w λe w'=>e=.returned (.string (bs (eM m)))/\aB [] w w':=by
 have N1:=aj (azU (pb::A) pb V m w (a0c.1 h.row).1 (λi=>by simp[World.cell?,h.row]) h.pg hM hL);obtain⟨a6,c6,e6⟩:=h.pg.i.shape;rw[CZ]at e6;have k5:w.cell? ⟨pb,5,none⟩=some (.slice a6 m.code.length c6):=by
  simp only[World.cell?,h.row];rw[<-e6];rfl
 have Ox:=hM.code.1;have hb:((m.code.length:Int)==0)=false:=by rw[a0j];omega
 clear h hM;go_enter Tryz.func7,Tryz.ntmps7;go_wp2_with fail;refine(N1.o).mono ?_;rintro e w1 ⟨rfl,hF⟩;have F:=aj hF;clear hF N1;go_wp2;go_ret;exact⟨rfl,F⟩
end
section
variable {A:LN} {w w' w0 w6:World} {v:Value} {L:List LB} {e t:TypeId} {b b1 Ci cap gg i k n:Nat} {s':LB} {V:V6} {m:mP} {ops:Array Oper} {H α β:Type}
theorem RW.rs(h:RW A 1 w v (sc L))(d:L.length<=1048576):RS 0 w v L:=by
 obtain⟨a,cap,e,b,i⟩:=h;rw[iC]at e b;refine⟨a,cap,e,d,b,λj c=>?_⟩;obtain⟨g,off,k,_,l,f⟩:=i j (by rw[iC];omega);refine⟨g,off,k,a1G _,?_⟩;have:=f 0 (.string (bs L[j])) (by simp[sc]);rwa [a1H,a1Q]at this
def azp:∀L,aqt L=true↔Asc L
 | []=>by simp[aqt,Asc]
 | [a]=>by simp[aqt,Asc]
 | a::b::l=>by
   have f:=azp (b::l);rw[aqt,a0O,f,aqh,a1E];unfold Asc;rw[a1F (a:=a)];constructor
   .rintro⟨e,d⟩;refine⟨λy c=>?_,d⟩;rw[a0l]at c;rcases c with rfl|c
    .omega
    exact List.lt_trans e ((a1F.1 d).1 y c)
   rintro⟨e,d⟩;exact⟨e b (by simp),d⟩
def YT.of {z cs s}(h:YT t z b w0 w s cs)(f:aB [] w w'):YT t z b w0 w' s cs:=h.call (f.mono (by simp)) (h.tk.aC f (by simp))
theorem YT.grown {z cs s row}(h:YT t z b w0 w s cs)(c:w.grownBy w' row)(a:∀r,row=some r->w0.heap.size+1<r):YT t z b w0 w' s cs:=by
 have d:=h.lt;have g:=h.low;have B:∀q,q<=w0.heap.size+1->w'.heap[q]?=w.heap[q]?:=λq hq=>c.block q (by omega) (λe=>by have:=a _ e.symm;omega);exact⟨h.tk.grown c (λr e=>by have:=a r e;omega),h.f.grown c (λr e=>.inr (by have:=a r e;omega)),(B _ (by omega)).trans h.z,(B _ (by omega)).trans h.h,d⟩
def HRt(x:kN)(b:Nat)(r:LB)(w:World)(e:Ending)(w':World):Prop :=
 ∃a,e=zR (.agg (aO x a))/\zf w' b r true/\aB [b] w w'/\OW 9 1 w.heap.size w' a (sc x.bl)
def aAU(b x r w)(h:zf w b (eH x++r) true)(ok:afH x)(E:aqt x.bl=true) :
 zF 22 #[zP b] w (HRt x b r w):=by
 have R:=YT.start h 68 [.string ByteArray.empty,zN,zI 0,zI 0,zI 0];have e0:eH x++r=eT x.rc++(nb 1 x.bl.length++(x.bl.flatMap eT++(nb 3 x.wt++(nb 3 x.ev++(nb 3 x.rp++r))))):=by simp[eH,We]
 rw[e0]at R;obtain⟨k1,k2,K3,k4,k5,k6⟩:=ok;obtain⟨rc,bl,wt,ev,rp⟩:=x;simp only at k1 k2 K3 k4 k5 k6 R E;have HR:=(az8 bl).2 ((azp bl).1 E);have N1:=azQ b rc _ _ R.tk k1;clear h e0 E;delta zF;go_in;go_wp2_with fail;refine N1.mono ?_;clear N1;rintro e w2 ⟨rfl,l,hF⟩;have V:=R.call hF l;have d0:=V.c (i:=0) rfl;have dz:=V.fz;have B2:=V.put 0 (zT rc);have N2:=YM b 1 bl.length _ 1 4 _ B2.tk rfl (by omega) (by omega) (by omega);clear l hF R V;go_wp2_with fail;refine N2.mono ?_;clear N2 d0 dz;rintro e w4 ⟨rfl,l,hF⟩;have B4:=B2.call hF l;clear l hF B2;generalize hR3:nb 3 wt++(nb 3 ev++(nb 3 rp++r))=r3 at *;go_wp2_with fail;go_loopg [5] bl.length (λk v5 wr=>∃(j:Nat) (acc:List LB) (Z:Value),j+k=bl.length/\v5=zI j/\acc.length<=j/\(acc=bl.take j)/\(YT 68 [.string ByteArray.empty,zN,zI 0,zI 0,zI 0] b w wr ((bl.drop j).flatMap eT++r3) [zT rc,Z,zI 0,zI 0,zI 0])/\OW 9 1 (w.heap.size+2) wr Z (sc acc));exact⟨0,[],_,by omega,rfl,by simp,by simp,B4,OW.nil _ _ _ _⟩
 .clear B4;obtain⟨j,acc,Z,lU,rfl,ja,W,B,O⟩:=hrel;obtain⟨a,c,he⟩:=O.shape;rw[iC]at he;subst he;have hlw:=B.low;by_cases G:j<bl.length
  .have hd:=decLt j bl.length (by omega);have YA:decide (j<bl.length)=true:=a0g G;have PN:acc++[bl[j]]=bl.take (j+1):=by rw[a0F G,<-W]
   have l:=B.tk;rw[pN G]at l;have N6:=azQ b bl[j] _ wr l (K3 _ (a0u G));generalize bl[j]=y at *;clear l W;go_wp2_with fail;refine N6.mono ?_;clear N6;rintro e w6 ⟨rfl,l,hF⟩;have P:=B.call hF l;have hlb:=P.lt;have O6:=(O.aC hF (by intro g q;simp at q;omega));have LD:∀r,Value.ownBlock (.slice a acc.length c)=some r->w.heap.size+1<r:=λr E=>by have:=(O6.lt E).1;omega
   have hl6:=P.low;have T:=P.c (i:=1) rfl;have ez:=P.fz 1;clear l hF B O;go_wp2_with (first | (at_builtin;refine ant _ rfl _ _ rfl (w.heap.size+2) (.slice a acc.length c) acc w6.heap.size y rfl (O6.aC zG (by simp)) rfl (by simp) (by omega) (by simp;omega) ?_;intro g2 aU w7 O7 F avu azF;have U:=(P.of zG).grown F LD;have c7:=U.c (i:=1) rfl;have f7:=U.fz 1;clear F avu));go_roundg (gk-1);exact⟨j+1,acc++[y],_,by omega,by go_num,by simp;omega,PN,U.put 1 _,U.row O7 (by omega)⟩;omega
  have qI:j=bl.length:=by omega
  have hd:=aBb j bl.length (by omega);have YA:decide (j<bl.length)=false:=a0f G;have HL:acc=bl:=by rw[W,qI];simp
  have B5:YT 68 [.string ByteArray.empty,zN,zI 0,zI 0,zI 0] b w wr r3 [zT rc,.slice a acc.length c,zI 0,zI 0,zI 0]:=by have:=B;rw[qI]at this;simpa using this
  subst HL;have T:=B5.c (i:=1) rfl;have s:RW [] 1 wr (.slice a acc.length c) (sc acc):=O.rw (by simp);have N8:=ahR (.slice a acc.length c) acc wr (s.rs (by omega)) (by omega);rw[HR]at N8;clear W B qI;go_wp2_with fail;refine N8.mono ?_;clear N8;rintro e S ⟨v8,rfl,D,o⟩;obtain⟨ar,cr,rfl,_,_,M⟩:=D.rs (by omega);have Qi:∀(j:Nat) (h:j<acc.length),∃g off,a=some (zB g off)/\0<=g/\zC S g (off+j) (.string (bs acc[j])):=by obtain⟨a9,c9,e3,_,_,h⟩:=(s.aC o (by simp)).rs (by omega);simp only[Value.slice.injEq]at e3;rw[e3.1];exact h
  have B8:=B5.of o;have O8:=O.aC o (by simp);clear D o O B5 s T;go_wp2_with fail;go_loopg [8] acc.length (λk v8 wq=>∃(i:Nat),i+k=acc.length/\v8=zI i/\(aB [] S wq));exact⟨0,by omega,rfl,zK⟩
  .obtain⟨i,Ku,rfl,HW⟩:=hrel;have A:=HW;have N:=B8.of A;have T:=N.c (i:=1) rfl;by_cases X:i<acc.length
   .have hd3:=decLt i acc.length (by omega);have aAV:decide (i<acc.length)=true:=a0g X;have hd4:=aBc acc.length i (by omega);have aA6:decide (acc.length<=i)=false:=a0f (by omega);obtain⟨g1,o1,e2,_,kL⟩:=M i X;obtain⟨g2,o2,e4,_,oN⟩:=Qi i X;subst e2 e4;have q1:zC wr g1 (o1+i) (.string (bs acc[i])):=(A.cell (p:=(zB g1 (o1+i))) (World.block_lt_of_cell? S _ kL) (by simp)).trans kL;have q2:zC wr g2 (o2+i) (.string (bs acc[i])):=(A.cell (p:=(zB g2 (o2+i))) (World.block_lt_of_cell? S _ oN) (by simp)).trans oN;generalize acc[i]=y at *;clear kL oN A;go_wp2_with fail;go_quiet (fail);go_wp2;go_roundg (gk-1);exact⟨i+1,by omega,by go_num,HW.drewN _⟩;omega
   have hd3:=aBb i acc.length (by omega);have aAV:decide (i<acc.length)=false:=a0f X;have O9:=O8.aC A (by simp);have l:=N.tk;rw[<-hR3]at l;obtain⟨Y,C⟩:∃Y,Y=wr:=⟨_,rfl⟩;rw[<-C]at l N T O9 |-;have N9:=YM b 3 wt _ 3 99999 Y l rfl (by omega) (by omega) (by omega);clear HW A B8 O8 M Qi C l;go_wp2_with fail;refine N9.mono ?_;clear N9;rintro e w10 ⟨rfl,l,hF⟩;have m:=N.call hF l;have hlb:=m.lt;have d2:=m.c (i:=2) rfl;have dz:=m.fz;have v:=m.put 2 (zI wt);have I:=(m.row (i:=2) (v':=zI wt) (O9.aC hF (by intro g q;simp at q;omega)) (by omega));have L:=YM b 3 ev _ 3 99999 _ v.tk rfl (by omega) (by omega) (by omega);clear l hF m N O9;go_wp2_with fail;refine L.mono ?_;clear L d2 dz;rintro e w11 ⟨rfl,l,hF⟩;have n:=v.call hF l;have d3:=n.c (i:=3) rfl;have dz:=n.fz;have u:=n.put 3 (zI ev);have H:=(n.row (i:=3) (v':=zI ev) (I.aC hF (by intro g q;simp at q;omega)) (by omega));have J:=YM b 3 rp _ 3 99999 _ u.tk rfl (by omega) (by omega) (by omega);clear l hF n v I;go_wp2_with fail;refine J.mono ?_;clear J d3 dz;rintro e w12 ⟨rfl,l,hF⟩;have d:=u.call hF l;have d0:=d.c (i:=0) rfl;have d1:=d.c (i:=1) rfl;have d2:=d.c (i:=2) rfl;have d3:=d.c (i:=3) rfl;have d4:=d.c (i:=4) rfl;have dz:=d.fz;have r0:=d.zc (i:=0) rfl;have r1:=d.zc (i:=1) rfl;have r2:=d.zc (i:=2) rfl;have r3:=d.zc (i:=3) rfl;have r4:=d.zc (i:=4) rfl;have rz:=d.zz;have hl12:=d.low;have t:=d.put 4 (zI rp);have O12:=(d.row (i:=4) (v':=zI rp) (H.aC hF (by intro g q;simp at q;omega)) (by omega));clear l hF d u H;go_wp2;refine bodyPost_ret (qE rfl _ _ w.heap.size (aO ⟨rc,acc,wt,ev,rp⟩ (.slice a acc.length c)) rfl (Gl (yZ _ _ _ _ _ t.z) rfl)) rfl ?_;exact⟨_,rfl,t.tk.aC (l8 _ _ _ _ _ _ _) (by simp;omega),t.f.over (l8 _ _ _ _ _ _ _) (by simp),O12.past (by omega) (l8 _ _ _ _ _ _ _)⟩
def M0:TQ LB where
 rel _ _ cs x:=cs=#[zT x]
 aC:=λh _ _=>h
 cO:=λh _=>h
structure RX6 where
 rTp:Type
 rIn:TQ rTp
 rTy:TypeId
 rKc:Nat
 rVl:Value
 rCs:List (Array Value)
 rXs:List rTp
def RX6.rd(r:RX6):RD:=⟨r.rTy,r.rKc,r.rVl,fZ r.rCs⟩
def y5(V:V6)(C:Nat->List (Array Value))(m:mP):List RX6:=[⟨_,M0,9,1,V.n,C 0,m.names⟩,⟨_,M0,9,1,V.c,C 1,m.consts⟩,⟨_,azS,65,4,V.a,C 2,m.zg⟩,⟨_,aAk,63,1,V.t,C 3,m.tests⟩,⟨_,Gj,68,5,V.r,C 4,m.q9⟩,⟨_,azy,63,1,V.i,C 5,m.code⟩]
structure MXx(w0 w:World)(s:LB)(V:V6)(C:Nat->List (Array Value))(m:mP):Prop where
 tk:zf w w0.heap.size s true
 fr:aB [] w0 w
 mc:MK w (w0.heap.size+1) V
 rw:RWS (w0.heap.size+2) w ((y5 V C m).map RX6.rd)
 ri:∀(i:Nat) (r:RX6),(y5 V C m)[i]?=some r->dV r.rIn ([w0.heap.size]++(w0.heap.size+1)::owns ((y5 V C m).map RX6.rd)) w r.rCs r.rXs
def MXr(w0 w:World)(s:LB)(V:V6)(m:mP):Prop:=∃C,MXx w0 w s V C m
def MXx.call{s} {C:Nat->List (Array Value)}(h:MXx w0 w s V C m)(f:aB [w0.heap.size] w w')(t:zf w' w0.heap.size s' true):MXx w0 w' s' V C m :=
 ⟨t,h.fr.over f (by simp),h.mc.aC f (by simp),h.rw.aC f (by simp),λi r a=>(h.ri i r a).aC f (by simp)⟩
def MXx.of {s} {C:Nat->List (Array Value)}(h:MXx w0 w s V C m)(f:aB [] w w'):MXx w0 w' s V C m:=h.call (f.mono (by simp)) (h.tk.aC f (by simp))
theorem MXx.lt {s} {C:Nat->List (Array Value)}(h:MXx w0 w s V C m):∀g ∈ [w0.heap.size]++(w0.heap.size+1)::owns ((y5 V C m).map RX6.rd),g<w.heap.size:=by
 have c:=h.mc.lt;intro g a;rcases a0e.1 a with a|a
 .simp at a;omega
 rcases a0l.1 a with rfl|a
 .exact c
 obtain⟨i,r,d,b⟩:=oK.1 a;exact((h.rw.asz i r d).lt b).2
theorem MK.cs(h:MK w b V):(∀i,w.cell? (zB b i)=#[V.n,V.c,V.a,V.t,V.r,V.i][i]?)/\∀o,w.frozen? (zB b o)=false:=by unfold MK at h;simp[World.cell?,World.frozen?,h]
def MXx.own {s} {C:Nat->List (Array Value)}(h:MXx w0 w s V C m) {r}(a:(y5 V C m)[i]?=some r):OW r.rTy r.rKc (w0.heap.size+2) w r.rVl (fZ r.rCs):=h.rw.asz i r.rd (by simp[a])
def MXx.shape {s} {C:Nat->List (Array Value)}(h:MXx w0 w s V C m) {r}(b:(y5 V C m)[i]?=some r):∃a c,r.rVl=.slice a r.rXs.length c:=by obtain⟨a,c,e⟩:=(h.own b).shape;rw[jA,(h.ri i r b).1]at e;exact⟨a,c,e⟩
def MXx.mid {s} {C:Nat->List (Array Value)}(h:MXx w0 w s V C m) {r}(a:(y5 V C m)[i]?=some r)(g:w.grownBy w6 r.rVl.ownBlock):MK w6 (w0.heap.size+1) V:=h.mc.grown g (λq e=>by have:=((h.own a).lt e).1;omega)
theorem MXx.app {s V'} {C c:Nat->List (Array Value)}{b}(h:MXx w0 w s V C m)(i) {r r'}(l:(y5 V C m)[i]?=some r)(f:y5 V' c b=(y5 V C m).set i r')(t:MK (w6.setCell (zB (w0.heap.size+1) i) r'.rVl) (w0.heap.size+1) V')(g:w.grownBy w6 r.rVl.ownBlock)(q:OW r'.rTy r'.rKc (w0.heap.size+2) w6 r'.rVl (fZ r'.rCs))(hb:r'.rVl.ownBlock=some gg)(n:r.rVl.ownBlock=some gg\/gg=w.heap.size)
 (o:dV r'.rIn ([w0.heap.size]++(w0.heap.size+1)::owns ((y5 V C m).map RX6.rd)) w r'.rCs r'.rXs):MXr w0 (w6.setCell (zB (w0.heap.size+1) i) r'.rVl) s V' b:=by
 have d:((y5 V C m).map RX6.rd)[i]?=some r.rd:=by simp[l]
 have lo:∀q,r.rVl.ownBlock=some q->w0.heap.size+2<=q:=λq e=>((h.own l).lt e).1;have F:aB [w0.heap.size+1] w6 (w6.setCell (zB (w0.heap.size+1) i) r'.rVl):=zK.setCell (p:=(zB (w0.heap.size+1) i)) (.inl (by simp)) _;have e:(y5 V' c b).map RX6.rd=((y5 V C m).map RX6.rd).set i r'.rd:=by rw[f,a2d]
 have T:∀{α:Type} {I:TQ α} {bB xs},dV I ([w0.heap.size]++(w0.heap.size+1)::owns ((y5 V C m).map RX6.rd)) w bB xs->dV I ([w0.heap.size]++(w0.heap.size+1)::owns ((y5 V' c b).map RX6.rd)) (w6.setCell (zB (w0.heap.size+1) i) r'.rVl) bB xs:=λk=>by rw[e];exact(k.turn g (λq hq=>VP i d hq) n (VN i d hb)).aC F (by simp)
 refine⟨c,(h.tk.grown g (λq e=>by have:=lo q e;omega)).aC F (by simp),(h.fr.grown g (λq e=>.inr (by have:=lo q e;omega))).setCell (.inr (by simp)) _,t,by rw[e];exact(h.rw.grow i d g q hb n).aC F (by simp),λj x a=>?_⟩;rw[f,List.getElem?_set]at a;split at a
 .split at a
  .simp at a;subst a;exact T o
  simp at a
 exact T (h.ri j x a)
def PXr(w0:World)(s:LB)(V:V6)(C:Nat->List (Array Value))(m:mP)(i:Nat)(r:RX6)(cs:Array Value)(y:r.rTp)(v:Value)(w6:World):Prop :=
 MK w6 (w0.heap.size+1) V/\∀V' a,y5 V' (λj=>if j=i then r.rCs++[cs] else C j) a=(y5 V C m).set i ⟨r.rTp,r.rIn,r.rTy,r.rKc,v,r.rCs++[cs],r.rXs++[y]⟩->MK (w6.setCell (zB (w0.heap.size+1) i) v) (w0.heap.size+1) V'->MXr w0 (w6.setCell (zB (w0.heap.size+1) i) v) s V' a
def MXx.post {s} {C:Nat->List (Array Value)}(h:MXx w0 w s V C m) {r}(a:(y5 V C m)[i]?=some r) {cs} {y:r.rTp}(b:r.rIn.rel ([w0.heap.size]++(w0.heap.size+1)::owns ((y5 V C m).map RX6.rd)) w cs y)(g:w.grownBy w6 r.rVl.ownBlock)(q:OW r.rTy r.rKc (w0.heap.size+2) w6 (zS gg n cap) (fZ r.rCs++[cs.toList]))(c:r.rVl.ownBlock=some gg\/gg=w.heap.size) :
 PXr w0 s V C m i r cs y (zS gg n cap) w6 :=
 ⟨h.mid a g,λV' d e k=>h.app i a e k g (by rw[Gi]at q;exact q) rfl c ((h.ri i r a).snoc b)⟩
structure AXr(w0 w:World)(s:LB)(V:V6)(C:Nat->List (Array Value))(m:mP)(i:Nat)(r:RX6)(t:TypeId)(z:Value)(Ci b1:Nat)(cs:Array Value)(y:r.rTp):Prop where
 Aq:MXx w0 w s V C m
 MM:(y5 V C m)[i]?=some r
 M9:(Tryz.prog.info? r.rTy).map (λi=>(i.zero,i.size,i.bytes))=some (some z,r.rKc,Ci)
 Nu:Tryz.prog.underlying t=some (.slice r.rTy)
 NC:z.cells.size=r.rKc
 RH:0<r.rKc
 as3:Ci<=1000
 TA:cs.size=r.rKc
 Ut:w.heap[b1]?=some (.cells cs r.rTy (0,0))
 af4:cs.all (·.oneCell')=true
 M3:r.rXs.length<=70000
 arC:r.rIn.rel ([w0.heap.size]++(w0.heap.size+1)::owns ((y5 V C m).map RX6.rd)) w cs y
theorem AXr.ln {s} {C:Nat->List (Array Value)} {r z cs} {y:r.rTp}(q:AXr w0 w s V C m i r t z Ci b1 cs y):(fZ r.rCs).length=r.rXs.length/\(r.rXs.length+1)*Ci<=140737488355328:=⟨by rw[jA,(q.Aq.ri i r q.MM).1],a0h (a0D (Nat.succ_le_succ q.M3) q.as3) (by decide)⟩
theorem A9 {rest o a} {Q:Exit->Act->World->Prop}(d:o.guard=none)(b x) {s} {C:Nat->List (Array Value)} {r z cs} {y:r.rTp}(q:AXr w0 w s V C m i r t z Ci b1 cs y)
 (ho:o.op=.call { callee:=.builtin .append,args:=#[b,x],argTypes:=#[t,t] }) (f:a.eval b=r.rVl) (e:a.eval x=zS b1 1 1)
 (k:∀g cap w6,PXr w0 s V C m i r cs y (zS g (r.rXs.length+1) cap) w6->wpList Tryz.prog ops Q rest (a.put o.dst (zS g (r.rXs.length+1) cap)) w6) :
 wpList Tryz.prog ops Q (o::rest) a w:=by
 obtain⟨c,l2⟩:=q.ln;have v:=q.M3;refine qD w d b x t r.rTy z r.rKc Ci q.M9 q.Nu q.NC q.RH ho (w0.heap.size+2) r.rVl (fZ r.rCs) b1 cs.toList f (q.Aq.own q.MM) e (by simpa using q.TA) (λj u h=>by simp[World.cell?,q.Ut];simpa using h) (by have:=q.af4;grind [Array.all_eq_true_iff_forall_mem]) (by rw[c];exact l2) (by omega) q.Aq.mc.lt ?_;rw[c];exact λg cap w6 p n l _=>k g cap w6 (q.Aq.post q.MM q.arC n p l)
def at1 {o a} {K:Act->World->Prop} {Q:Exit->Act->World->Prop} {E}(d:o.guard=none)(b x) {s} {C:Nat->List (Array Value)} {r z cs} {y:r.rTp}(q:AXr w0 w s V C m i r t z Ci b1 cs y)
 (ho:o.op=.call { callee:=.builtin .append,args:=#[b,x],argTypes:=#[t,t] }) (f:a.eval b=r.rVl) (e:a.eval x=zS b1 1 1)
 (k:∀g cap w6,PXr w0 s V C m i r cs y (zS g (r.rXs.length+1) cap) w6->K (a.put o.dst (zS g (r.rXs.length+1) cap)) w6) :
 if Region.wanted o (yielded ops a.tmps)=true then Oper.wp Tryz.prog o a w K Q else E:=by
 obtain⟨c,l2⟩:=q.ln;have n:=q.M3;refine CU w d b x t r.rTy z r.rKc Ci q.M9 q.Nu q.NC q.RH ho (w0.heap.size+2) r.rVl (fZ r.rCs) b1 cs (0,0) f (q.Aq.own q.MM) e q.TA q.Ut q.af4 (by rw[c];exact l2) (by omega) q.Aq.mc.lt _ rfl ?_;rw[c];exact λg cap w6 l j h _=>k g cap w6 (q.Aq.post q.MM q.arC j l h)
def IA:(Tryz.prog.info? 9).map (λi=>(i.zero,i.size,i.bytes))=some (some (.string ByteArray.empty),1,16):=by kernel_rfl
def azG(w:World)(a b):((w.alloc a).alloc b).drew.heap[w.heap.size+1]?=some b:=Nf w a b
def MXx.new {s} {C:Nat->List (Array Value)}(h:MXx w0 w s V C m) {vs}(q:OW e k w.heap.size w' v vs):RW ([w0.heap.size]++(w0.heap.size+1)::owns ((y5 V C m).map RX6.rd)) k w' v vs:=q.rw (λg b a=>by have:=(q.lt b).1;have:=h.lt g a;omega)
def MXr.call{s}(h:MXr w0 w s V m)(f:aB [w0.heap.size] w w')(t:zf w' w0.heap.size s' true):MXr w0 w' s' V m:=by obtain⟨C,h⟩:=h;exact⟨C,h.call f t⟩
theorem MXr.tk {s}(h:MXr w0 w s V m):zf w w0.heap.size s true:=by obtain⟨C,h⟩:=h;exact h.tk
theorem RW.lit{g L}(h:w.heap[g]?=some (.cells (L.map λn=>.int .i64 n).toArray 3 (0,0)))(hA:g∉A)(hk:k=L.length):RW A 1 w (.slice (some ⟨g,0,none⟩) k k) (ic L):=by
 subst hk;refine⟨some ⟨g,0,none⟩,L.length,by rw[TM],by rw[TM];omega,λi hi=>⟨g,0,rfl,hA,(a0c.1 h).1,λq u hu=>?_⟩⟩;rw[TM]at hi;cases q with
 | zero=>simp[ic]at hu;simp[World.cell?,h,hi,hu]
 | succ q=>simp[ic]at hu
theorem I8 {a xs}(h:dV M0 A w a xs):fZ a=sc xs:=by
 refine List.ext_getElem? λi=>?_;have c:=h.1;by_cases b:i<a.length
 .have:=h.2 i a[i] (xs[i]'(by omega)) (by simp[b]) (by simp);simp[fZ,sc,b,show i<xs.length by omega,show a[i]=_ from this]
 simp[fZ,sc,b,show ¬ i<xs.length by omega]
def MXr.rm {s}(h:MXr w0 w s V m):RMr [] w (w0.heap.size+1) V m:=by
 obtain⟨C,h⟩:=h;have q:∀{i:Nat} {r:RX6},(y5 V C m)[i]?=some r->RW [] r.rKc w r.rVl (fZ r.rCs)/\dV r.rIn [] w r.rCs r.rXs:=λe=>⟨(h.own e).rw (by simp),(h.ri _ _ e).cO (by simp)⟩;obtain⟨b,d⟩:=q (i:=0) rfl;obtain⟨a,c⟩:=q (i:=1) rfl;rw[I8 d]at b;rw[I8 c]at a;exact⟨h.mc,b,a,⟨_,q (i:=2) rfl⟩,⟨_,q (i:=3) rfl⟩,⟨_,q (i:=4) rfl⟩,⟨_,q (i:=5) rfl⟩⟩
def azh {r:LB} {nm cn:List LB} {au:List gz} {m:List jd} {rt:List kN} {a:List bX}(S:MXr w0 w (nb 2 a.length++(a.flatMap eI++r)) V ⟨nm,cn,au,m,rt,[]⟩)(h1:1<=a.length)(h2:a.length<65536)(ok:∀j (h:j<a.length),awT rt.length m.length a.length j a[j]) :
 zF 23 #[zP (w0.heap.size+1),zP w0.heap.size] w λe w'=>e=zQ #[]/\∃V,MXr w0 w' r V ⟨nm,cn,au,m,rt,a⟩:=by
 have N:=YM w0.heap.size 2 a.length _ 2 65535 w S.tk rfl (by omega) (by omega) (by omega);delta zF;go_in;go_wp2_with fail;refine N.mono ?_;rintro e X ⟨rfl,T,F⟩;replace S:=S.call F T;have kM:((a.length:Int)==0)=false:=a0j.2 (by omega);clear N T F;go_wp2_with fail;go_loopg [5] a.length (λk q wr=>∃(j:Nat) (V:V6),j+k=a.length/\q=zI j/\MXr w0 wr ((a.drop j).flatMap eI++r) V ⟨nm,cn,au,m,rt,a.take j⟩);exact⟨0,_,by omega,rfl,S⟩
 case round =>
 clear S;obtain⟨j,⟨v0,v1,v2,Z,Y,q⟩,hj,rfl,C,L⟩:=hrel;obtain⟨a3,c3,v⟩:=L.shape (i:=3) rfl;obtain⟨a4,c4,u⟩:=L.shape (i:=4) rfl;obtain⟨a5,c5,t⟩:=L.shape (i:=5) rfl;simp only at v u t;subst v u t;have O:=L.tk.c1;by_cases f:j<a.length
 .have hd:=decLt j a.length (by omega);have R:decide (j<a.length)=true:=a0g f;have T:=L.tk;rw[pN f]at T;obtain⟨b,k1,k2,I,H⟩:=ok j f;have U:=a0F f;have J:(a.take j).length<=70000:=by simp;omega
  generalize a[j]=x at *;generalize a.take j=acc at *;obtain⟨op,x,d,c⟩:=x;simp only[eI,a0M]at T k1 k2 I H;have hf:d<a.length/\c<a.length:=by
   unfold stands at b
   match op with
   | 0=>simp at b;omega
   | 1=>simp at b;omega
   | 2=>simp at b;omega
   | k+3=>omega
  have N:=YM w0.heap.size 1 op _ 1 2 wr T rfl (by omega) (by omega) (by omega);go_wp2_with fail;refine N.mono ?_;rintro e G ⟨rfl,T,F⟩;replace L:=L.call F T;have N:=YM w0.heap.size 1 x _ 1 255 G T rfl (by omega) (by omega) (by omega);go_wp2_with fail;refine N.mono ?_;rintro e w6 ⟨rfl,T,F⟩;replace L:=L.call F T;have N:=YM w0.heap.size 2 d _ 2 ((a.length:Int)-1) w6 T rfl (by omega) (by omega) (by omega);go_wp2_with fail;refine N.mono ?_;rintro e E ⟨rfl,T,F⟩;replace L:=L.call F T;have N:=YM w0.heap.size 2 c _ 2 ((a.length:Int)-1) E T rfl (by omega) (by omega) (by omega);go_wp2_with fail;refine N.mono ?_;rintro e l ⟨rfl,T,F⟩;replace L:=L.call F T;have y:=L.mc.cs;have s:=L.mc.lt;have hb:=L.tk.lt;have O:=T.c1;have M:=T.fz 1;replace L:=L.call ((aB.refl [w0.heap.size] l).setCell (p:=(zB w0.heap.size 1)) (.inl (by simp)) (.bool true)) (T.set1 true);have hz:(l.setCell (zB w0.heap.size 1) (.bool true)).heap.size=l.heap.size:=by simp
  clear N T F;unfold stands at b;rcases(show op=0\/op=1\/op=2 by omega) with n|n|n;all_goals simp only[n,a0O,a0W,a1E]at b
  case' inl =>
   have o:((x:Int)+(d:Int)+(c:Int)==0)=true:=by rw[a0W];omega
   have z:((op:Int)==0)=true:=by rw[a0W];omega
  case' inr.inl =>
   have o:decide (x<rt.length)=true:=a0g b.1.1;have D:decide (j<d)=true:=a0g b.1.2.1;have B:((c:Int)==0)=true:=by rw[a0W];omega
   have z:((op:Int)==0)=false:=by rw[a0j];omega
   have b1:((op:Int)==1)=true:=by rw[a0W];omega
  case' inr.inr =>
   have o:decide (x<m.length)=true:=a0g b.1.1;have D:decide (j<d)=true:=a0g b.1.2.1;have B:decide (j<c)=true:=a0g b.2.1;have z:((op:Int)==0)=false:=by rw[a0j];omega
   have b1:((op:Int)==1)=false:=by rw[a0j];omega
   have b2:((op:Int)==2)=true:=by rw[a0W];omega
  all_goals
   clear n b;go_wp2_with (first | (at_builtin;(refine A9 (i:=5) (b1:=l.heap.size+1) (cs:=#[zS l.heap.size 4 4]) (y:=(⟨op,x,d,c⟩:bX)) rfl _ _ ⟨L.of (zG.alloc _),rfl,azZ,Tryz.underlying58,rfl,Nat.succ_pos _,by decide,rfl,by rw[<-hz];exact Nf _ _ _,by simp[Value.oneCell'],J,⟨_,rfl,RW.lit (L:=[op,x,d,c]) (by rw[<-hz];exact(zG.block _ (by simp) (by simp)).trans (bD _ _)) (λs=>by have:=L.lt _ s;omega) rfl⟩⟩ rfl rfl rfl ?_;intro g cap W P;have A:=P.1.cs)));go_roundg (gk-1);exact⟨j+1,_,by omega,by go_num,by rw[U];exact P.2 _ _ rfl (P.1.awm _)⟩;omega
 have hd:=aBb j a.length (by omega);have R:decide (j<a.length)=false:=a0f f;rw[wS f,a0C (by omega)]at L;go_wp2;go_end0;exact⟨rfl,_,C,L⟩
def aAs(m w)(ok:MOK m)(hr:∀x∈m.q9,aqt x.bl=true)(a:(eM m).length<=262144) :
 zF 8 #[zT (eM m)] w λe w'=>aB [] w w'/\∃V mb,e=zR (zP mb)/\RMr [] w' mb V m:=by
 obtain⟨o1,o2,o3,o4,o5,W⟩:=ok;obtain⟨nm,cn,au,b,rt,E⟩:=m;simp only at o1 o2 o3 o4 o5 W hr;obtain⟨t,ht⟩:∃t,t=eM ⟨nm,cn,au,b,rt,E⟩:=⟨_,rfl⟩;rw[<-ht]at a |-;obtain⟨R4,e4⟩:∃R,R=nb 1 rt.length++(rt.flatMap eH++(nb 2 E.length++(E.flatMap eI++[]))):=⟨_,rfl⟩;obtain⟨R3,e3⟩:∃R,R=nb 1 b.length++(b.flatMap pR++R4):=⟨_,rfl⟩;obtain⟨R2,e2⟩:∃R,R=nb 1 au.length++(au.flatMap eA++R3):=⟨_,rfl⟩;obtain⟨R1,e1⟩:∃R,R=nb 1 cn.length++(cn.flatMap eT++R2):=⟨_,rfl⟩;have e0:t=I4++(nb 1 nm.length++(nm.flatMap eT++R1)):=by rw[ht,e1,e2,e3,e4];simp[eM,We]
 have eG:=bL t;have hd:decide ((t.length:Int)<=262144)=true:=a0g (by omega);have d:decide (t.length<=262144)=true:=a0g (by omega);obtain⟨Z,A⟩:∃Z,Z=(w.alloc (.cells #[zT t,.bool true] 56)).alloc (.cells #[zN,zN,zN,zN,zN,zN] 60):=⟨_,rfl⟩;have S:MXr w Z t V6.z ⟨[],[],[],[],[],[]⟩:=by
  refine⟨λ_=>[],⟨?_,by omega⟩,by rw[A];exact((aB.refl [] w).alloc _).alloc _,by rw[A];exact Nf _ _ _,⟨λi r D=>?_,λi j r s _ D _ g hg=>?_⟩,λi r D=>?_⟩
  .rw[A];exact(((aB.refl [] (w.alloc _)).alloc _).block w.heap.size (by simp) (by simp)).trans (bD _ _)
  all_goals
   simp only[y5,a0E,a1V,RX6.rd]at D;rcases i with _|_|_|_|_|_|i<;>simp at D<;>subst D
  all_goals first | exact OW.nil _ _ _ _|exact dV.nil _ _ _|simp[V6.z,Value.ownBlock]at hg
 rw[e0]at S;have N:=azO w.heap.size I4 _ 3 Z S.tk rfl;rw[A]at N;clear e0 ht;delta zF;go_in;go_wp2_with fail;refine N.mono ?_;rw[<-A];rintro e w2 ⟨rfl,T,F⟩;replace S:=S.call F T;clear N A hd d eG F;have N:=YM w.heap.size 1 nm.length _ 1 255 w2 T rfl (by omega) (by omega) (by omega);go_wp2_with fail;refine N.mono ?_;rintro e w3 ⟨rfl,T,F⟩;replace S:=S.call F T;clear N F;go_wp2_with fail;go_loopg [7] nm.length (λk vk wr=>∃(j:Nat) (V:V6),j+k=nm.length/\vk=zI j/\MXr w wr ((nm.drop j).flatMap eT++R1) V ⟨nm.take j,[],[],[],[],[]⟩);exact⟨0,_,by omega,rfl,S⟩
 case round =>
 clear S T;obtain⟨j,⟨U,O,M,J,I,H⟩,p,rfl,C,L⟩:=hrel;obtain⟨a0,c0,e⟩:=L.shape (i:=0) rfl;simp only at e;subst e;have c:=L.tk.c1;by_cases a:j<nm.length
 .have hd:=decLt j nm.length (by omega);have d:decide (j<nm.length)=true:=a0g a;have T:=L.tk;rw[pN a]at T;have N:=azQ w.heap.size nm[j] _ wr T (o1.2 _ (a0u a));have n:=a0F a;have l:(nm.take j).length<=70000:=by simp;omega
  generalize nm[j]=x at *;generalize nm.take j=acc at *;go_wp2_with fail;refine N.mono ?_;rintro e h ⟨rfl,T,F⟩;replace L:=L.call F T;have y:=L.mc.cs;clear N T F c;go_wp2_with (first | (at_builtin;(refine A9 (i:=0) rfl _ _ ⟨L.of zG,rfl,IA,Tryz.underlying46,rfl,Nat.succ_pos _,by decide,rfl,bD _ _,by simp[Value.oneCell'],l,rfl⟩ rfl rfl rfl ?_;intro g cap B P;have f:=P.1.cs)));go_roundg (gk-1);exact⟨j+1,_,by omega,by go_num,by rw[n];exact P.2 _ _ rfl (P.1.set0 _)⟩;omega
 have hd:=aBb j nm.length (by omega);have d:decide (j<nm.length)=false:=a0f a;rw[wS a,e1,a0C (by omega)]at L;replace L:MXr _ _ _ _ _:=⟨C,L⟩;have N:=YM w.heap.size 1 cn.length _ 1 255 wr L.tk rfl (by omega) (by omega) (by omega);clear e1;go_wp2_with fail;refine N.mono ?_;rintro e w5 ⟨rfl,T,F⟩;replace L:=L.call F T;clear N F T p a hd d c;go_wp2_with fail;go_loopg [9] cn.length (λk vk wr=>∃(j:Nat) (V:V6),j+k=cn.length/\vk=zI j/\MXr w wr ((cn.drop j).flatMap eT++R2) V ⟨nm,cn.take j,[],[],[],[]⟩);exact⟨0,_,by omega,rfl,L⟩
 case round =>
 clear L;obtain⟨j,⟨U,O,M,J,I,H⟩,p,rfl,C,L⟩:=hrel;obtain⟨a1,c1,e⟩:=L.shape (i:=1) rfl;simp only at e;subst e;have c:=L.tk.c1;by_cases a:j<cn.length
 .have hd:=decLt j cn.length (by omega);have d:decide (j<cn.length)=true:=a0g a;have T:=L.tk;rw[pN a]at T;have hx:=o2.2 _ (a0u a);have N:=aAl w.heap.size cn[j] _ 40 wr T (by omega) (by omega);have n:=a0F a;have l:(cn.take j).length<=70000:=by simp;omega
  generalize cn[j]=x at *;generalize cn.take j=acc at *;go_wp2_with fail;refine N.mono ?_;rintro e h ⟨rfl,T,F⟩;replace L:=L.call F T;have y:=L.mc.cs;clear N T F c;go_wp2_with (first | (at_builtin;(refine A9 (i:=1) rfl _ _ ⟨L.of zG,rfl,IA,Tryz.underlying46,rfl,Nat.succ_pos _,by decide,rfl,bD _ _,by simp[Value.oneCell'],l,rfl⟩ rfl rfl rfl ?_;intro g cap B P;have f:=P.1.cs)));go_roundg (gk-1);exact⟨j+1,_,by omega,by go_num,by rw[n];exact P.2 _ _ rfl (P.1.set1 _)⟩;omega
 have hd:=aBb j cn.length (by omega);have d:decide (j<cn.length)=false:=a0f a;rw[wS a,e2,a0C (by omega)]at L;replace L:MXr _ _ _ _ _:=⟨C,L⟩;have N:=YM w.heap.size 1 au.length _ 1 255 wr L.tk rfl (by omega) (by omega) (by omega);clear e2;go_wp2_with fail;refine N.mono ?_;rintro e B ⟨rfl,T,F⟩;replace L:=L.call F T;clear N F T p a hd d c;go_wp2_with fail;go_loopg [11] au.length (λk vk wr=>∃(j:Nat) (V:V6),j+k=au.length/\vk=zI j/\MXr w wr ((au.drop j).flatMap eA++R3) V ⟨nm,cn,au.take j,[],[],[]⟩);exact⟨0,_,by omega,rfl,L⟩
 case round =>
 clear L;obtain⟨j,⟨U,O,M,J,I,H⟩,p,rfl,C,L⟩:=hrel;obtain⟨a2,c2,e⟩:=L.shape (i:=2) rfl;simp only at e;subst e;have c:=L.tk.c1;by_cases a:j<au.length
 .have hd:=decLt j au.length (by omega);have d:decide (j<au.length)=true:=a0g a;have T:=L.tk;rw[pN a]at T;have N:=aAK w.heap.size au[j] _ wr T (o3.2 _ (a0u a));have n:=a0F a;have l:(au.take j).length<=70000:=by simp;omega
  generalize au[j]=x at *;generalize au.take j=acc at *;go_wp2_with fail;refine N.mono ?_;rintro e h ⟨v6,v7,v8,rfl,T,F,u,q2,q3⟩;have hy:=λo o'=>azS.aC (w':=((h.alloc o).alloc o').drew) ⟨_,_,_,rfl,L.new u,L.new q2,L.new q3⟩ ((zG.alloc _).drew) (by simp);replace L:=L.call F T;have y:=L.mc.cs;have cm:zC h (w.heap.size+1) 2 (.slice a2 acc.length c2):=y.1 2;have X:=L.mc.lt;have hb:=L.tk.lt;obtain⟨b1,d1,rfl⟩:=u.shape;obtain⟨b2,d2,rfl⟩:=q2.shape;obtain⟨b3,d3,rfl⟩:=q3.shape;clear N T F c u q2 q3 y;obtain⟨x1,x2,x3,x4⟩:=x;simp only[ai3];go_wp2_with fail;go_region_law (refine at1 (i:=2) (by rfl) _ _ ⟨L.of ((zG.alloc _).drew),rfl,aAb,Tryz.underlying57,rfl,Nat.succ_pos _,by decide,rfl,azG _ _ _,by simp[Value.oneCell'],l,hy _ _⟩ (by rfl) (by rfl) (by rfl) ?_;intro g cap B P;have f:=P.1.cs);all_goals
   go_wp2;go_roundg (gk-1);exact⟨j+1,_,by omega,by go_num,by rw[n];exact P.2 _ _ rfl (P.1.set2 _)⟩;omega
 have hd:=aBb j au.length (by omega);have d:decide (j<au.length)=false:=a0f a;rw[wS a,e3,a0C (by omega)]at L;replace L:MXr _ _ _ _ _:=⟨C,L⟩;have N:=YM w.heap.size 1 b.length _ 1 255 wr L.tk rfl (by omega) (by omega) (by omega);clear e3;go_wp2_with fail;refine N.mono ?_;rintro e w9 ⟨rfl,T,F⟩;replace L:=L.call F T;clear N F T p a hd d c;go_wp2_with fail;go_loopg [13] b.length (λk vk wr=>∃(j:Nat) (V:V6),j+k=b.length/\vk=zI j/\MXr w wr ((b.drop j).flatMap pR++R4) V ⟨nm,cn,au,b.take j,[],[]⟩);exact⟨0,_,by omega,rfl,L⟩
 case round =>
 clear L;obtain⟨j,⟨U,O,M,J,I,H⟩,p,rfl,C,L⟩:=hrel;obtain⟨a0,c0,f0⟩:=L.shape (i:=0) rfl;obtain⟨a1,c1,f1⟩:=L.shape (i:=1) rfl;obtain⟨a2,c2,f2⟩:=L.shape (i:=2) rfl;obtain⟨a3,c3,e⟩:=L.shape (i:=3) rfl;simp only at e f0 f1 f2;subst e f0 f1 f2;have c:=L.tk.c1;by_cases a:j<b.length
 .have hd:=decLt j b.length (by omega);have d:decide (j<b.length)=true:=a0g a;have T:=L.tk;rw[pN a]at T;obtain⟨k1,k2,v⟩:=o4.2 _ (a0u a);have n:=a0F a;have l:(b.take j).length<=70000:=by simp;omega
  generalize b[j]=x at *;generalize b.take j=acc at *;obtain⟨y1,q,G⟩:=x;simp only[pR,a0M]at T k1 k2 v;have N:=YM w.heap.size 1 y1 _ 1 ((nm.length:Int)-1) wr T rfl (by omega) (by omega) (by omega);have y:=L.mc.cs;go_wp2_with fail;refine N.mono ?_;rintro e wa ⟨rfl,T,F⟩;clear y;replace L:=L.call F T;have N:=YM w.heap.size 1 q _ 1 1 wa T rfl (by omega) (by omega) (by omega);go_wp2_with fail;refine N.mono ?_;rintro e wb ⟨rfl,T,F⟩;replace L:=L.call F T;have y:=L.mc.cs;clear N F;rcases(show q=0\/q=1 by omega) with Y|Y
  case' inl =>
   have b1:((q:Int)==1)=false:=by rw[a0j];omega
   have N:=YM w.heap.size 1 G _ 1 ((cn.length:Int)-1) wb T rfl (by rw[a0n (by omega)]at v;omega) (by rw[a0n (by omega)]at v;omega) (by omega)
  case' inr =>
   have b1:((q:Int)==1)=true:=by rw[a0W];omega
   have N:=YM w.heap.size 1 G _ 1 ((au.length:Int)-1) wb T rfl (by rw[a0m Y]at v;omega) (by rw[a0m Y]at v;omega) (by omega)
  all_goals
   clear Y v;go_wp2_with fail;refine N.mono ?_;rintro e h ⟨rfl,T,F⟩;replace L:=L.call F T;clear y T F c N;have y:=L.mc.cs;have X:=L.mc.lt;have hb:=L.tk.lt;go_wp2_with (first | (at_builtin;(refine A9 (i:=3) (y:=(⟨y1,q,G⟩:jd)) rfl _ _ ⟨L.of (zG.alloc _),rfl,azZ,Tryz.underlying58,rfl,Nat.succ_pos _,by decide,rfl,Nf _ _ _,by simp[Value.oneCell'],l,⟨_,rfl,RW.lit (L:=[y1,q,G]) ((zG.block h.heap.size (by simp) (by simp)).trans (bD _ _)) (λX=>by have:=L.lt _ X;omega) rfl⟩⟩ rfl rfl rfl ?_;intro g cap B P;have f:=P.1.cs)));go_roundg (gk-1);exact⟨j+1,_,by omega,by go_num,by rw[n];exact P.2 _ _ rfl (P.1.ahr _)⟩;omega
 have hd:=aBb j b.length (by omega);have d:decide (j<b.length)=false:=a0f a;rw[wS a,e4,a0C (by omega)]at L;replace L:MXr _ _ _ _ _:=⟨C,L⟩;have N:=YM w.heap.size 1 rt.length _ 1 16 wr L.tk rfl (by omega) (by omega) (by omega);clear e4;go_wp2_with fail;refine N.mono ?_;rintro e w11 ⟨rfl,T,F⟩;replace L:=L.call F T;clear N F T p a hd d c;go_wp2_with fail;go_loopg [19] rt.length (λk vk wr=>∃(j:Nat) (V:V6),j+k=rt.length/\vk=zI j/\MXr w wr ((rt.drop j).flatMap eH++(nb 2 E.length++(E.flatMap eI++[]))) V ⟨nm,cn,au,b,rt.take j,[]⟩);exact⟨0,_,by omega,rfl,L⟩
 case round =>
 clear L;obtain⟨j,⟨U,O,M,J,I,H⟩,p,rfl,C,L⟩:=hrel;obtain⟨a4,c4,e⟩:=L.shape (i:=4) rfl;simp only at e;subst e;have c:=L.tk.c1;by_cases a:j<rt.length
 .have hd:=decLt j rt.length (by omega);have d:decide (j<rt.length)=true:=a0g a;have T:=L.tk;rw[pN a]at T;have N:=aAU w.heap.size rt[j] _ wr T (o5.2 _ (a0u a)) (hr _ (a0u a));have n:=a0F a;have l:(rt.take j).length<=70000:=by simp;omega
  generalize rt[j]=x at *;generalize rt.take j=acc at *;go_wp2_with fail;refine N.mono ?_;rintro e h ⟨vb,rfl,T,F,u⟩;have hy:=λo o'=>Gj.aC (w':=((h.alloc o).alloc o').drew) ⟨_,rfl,L.new u⟩ ((zG.alloc _).drew) (by simp);replace L:=L.call F T;have y:=L.mc.cs;have cm:zC h (w.heap.size+1) 4 (.slice a4 acc.length c4):=y.1 4;have X:=L.mc.lt;have hb:=L.tk.lt;obtain⟨b1,d1,rfl⟩:=u.shape;clear N T F c u y;obtain⟨x1,x2,x3,x4,x5⟩:=x;simp only[aO];go_wp2_with fail;go_region_law (refine at1 (i:=4) (by rfl) _ _ ⟨L.of ((zG.alloc _).drew),rfl,CV,Tryz.underlying34,rfl,Nat.succ_pos _,by decide,rfl,azG _ _ _,by simp[Value.oneCell'],l,hy _ _⟩ (by rfl) (by rfl) (by rfl) ?_;intro g cap B P;have f:=P.1.cs);all_goals
   go_wp2;go_roundg (gk-1);exact⟨j+1,_,by omega,by go_num,by rw[n];exact P.2 _ _ rfl (P.1.Lm _)⟩;omega
 have hd:=aBb j rt.length (by omega);have d:decide (j<rt.length)=false:=a0f a;rw[wS a,a0C (by omega)]at L;replace L:MXr _ _ _ _ _:=⟨C,L⟩;have N:=azh L W.1 W.2.1 W.2.2;go_wp2_with fail;refine N.mono ?_;rintro e w13 ⟨rfl,V,C,L⟩;clear N c;have c0:=L.tk.c0;have c:=L.tk.c1;have F:=L.fr;have R:=MXr.rm ⟨C,L⟩;have hx:=aT;have hm3:(ByteArray.mk #[79,66,49]).toList=I4:=by rw[ByteArray.toList_eq];rfl
 have Ki:(ByteArray.mk #[]).toList=[]:=by rw[ByteArray.toList_eq]
 clear L;go_wp2;go_ret;exact⟨F,_,_,rfl,R⟩
def acj:LB->LB->List LB
 | [],_=>[]
 | c::r,cur=>if c==10 then (cur++[10])::acj r [] else acj r (cur++[c])
def aAt(t:LB):List LB:=acj t []
theorem axA(f:α->Option β)(a:α)(l):(a::l).mapM f=match f a with | none=>none|some b=>match l.mapM f with | none=>none|some bs=>some (b::bs):=by
 rw[List.mapM_cons];cases f a with
 | none=>rfl
 | some b=>cases l.mapM f<;>rfl
def rtL(l:LB):Option CR:=gM l.dropLast
theorem rl2:∀t ln cur R C b d,2<=ln ->
 (yw t ln cur R C=.ok (b,d)↔b=R/\(acj t cur).flatten=cur++t/\∃e,(acj t cur).mapM rtL=some e/\d=C++e)
 | [],ln,cur,R,C,b,d,h=>by
   rw[yw,acj];have:(ln==1)=false:=by simp;omega
   rw[this,Bool.or_false];cases cur with
   | nil =>
     simp;constructor
     .rintro⟨rfl,rfl⟩;exact⟨rfl,rfl⟩
     rintro⟨rfl,rfl⟩;exact⟨rfl,rfl⟩
   | cons c r=>simp
 | c::r,ln,cur,R,C,b,d,h=>by
   rw[yw,acj];by_cases l:c=10
   .subst l;have:(ln==1)=false:=by simp;omega
    simp only[a3d,a0G,this,a0A,a0I];rw[axA];have zV:rtL (cur++[10])=gM cur:=by unfold rtL;rw[List.dropLast_concat]
    rw[zV];cases n:gM cur with
    | none=>simp
    | some x =>
      simp only;rw[rl2 r (ln+1) [] R (C++[x]) b d (by omega)];simp only[List.flatten_cons,a0M,a0V,List.append_cancel_left_eq];constructor
      .rintro⟨j,i,e,a,g⟩;refine⟨j,by rw[i];rfl,x::e,by rw[a],by rw[g];rfl⟩
      rintro⟨j,i,e,a,g⟩;refine⟨j,by simpa using i,?_⟩;cases k:(acj r []).mapM rtL with
      | none=>rw[k]at a;cases a
      | some m=>rw[k]at a;cases a;exact⟨m,rfl,g⟩
   have f:(c==10)=false:=by simpa using l
   rw[f];simp[a0A,a0I];rw[rl2 r ln (cur++[c]) R C b d h];simp
theorem rl1:∀t cur R C a b,
 (yw t 1 cur R C=.ok (a,b)↔(acj t cur).flatten=cur++t/\∃f ls d,acj t cur=f::ls/\iW f.dropLast=some a/\ls.mapM rtL=some d/\b=C++d)
 | [],cur,R,C,a,b=>by rw[yw,acj];simp
 | c::r,cur,R,C,a,b=>by
   rw[yw,acj];by_cases m:c=10
   .subst m;simp only[a3d,a0G];constructor
    .intro h;cases g:iW cur with
     | none=>rw[g]at h;cases h
     | some o=>rw[g]at h;obtain⟨l,k,d,e,j⟩:=(rl2 r 2 [] o C a b (by omega)).1 h;refine⟨by simp[k],cur++[10],acj r [],d,rfl,by rw[List.dropLast_concat,g,l],e,j⟩
    rintro⟨l,f,ls,d,k,e,j,n⟩;cases k;rw[List.dropLast_concat]at e;rw[e];exact(rl2 r 2 [] a C a b (by omega)).2 ⟨rfl,by simpa using l,d,j,n⟩
   have i:(c==10)=false:=by simpa using m
   rw[i];simp only[a0A,a0I];rw[rl1 r (cur++[c]) R C a b];simp
def azl(t L C):oV t=.ok (L,C)↔(aAt t).flatten=t/\∃a ls,aAt t=a::ls/\iW a.dropLast=some L/\ls.mapM rtL=some C:=by
 unfold oV aAt;rw[rl1];simp only[a0V];constructor
 .rintro⟨e,a,ls,f,d,c,b,rfl⟩;exact⟨e,a,ls,d,c,b⟩
 rintro⟨e,a,ls,d,c,b⟩;exact⟨e,a,ls,C,d,c,b,rfl⟩
def azi:∀C i,xM L C i=0->∀c∈C,c.rc=[45]\/c.rc∈L
 | [],i,_,c,h=>by simp at h
 | x::r,i,h,c,a=>by
   rw[xM]at h;split at h
   .omega
   rename_i b;rcases a0l.1 a with rfl|a
   .by_cases e:c.rc=[45]
    .exact .inl e
    right;have d:(c.rc == [45])=false:=by simpa using e
    rw[d]at b;simpa using b
   exact azi r (i+1) h c a
def azt {t:LB} {C:List CR}(h:jH t=.ok (L,C)):mr L C=0:=by
 unfold jH at h;split at h
 .cases h
 split at h
 .cases h
 split at h
 .cases h
 split at h
 .cases h
 rename_i a;cases h;omega
def aAu(l):Asc (lK l).names:=by
 unfold lK;split
 .dsimp only;split
  .exact List.Pairwise.nil
  exact azn _ [] List.Pairwise.nil
 exact List.Pairwise.nil
def aAv {l c}(h:rtL l=some c):Asc c.jM:=by obtain⟨_,_,_,_,_,_,rfl⟩:=ae8 _ _ h;exact aAu _
def mapM_mem(f:α->Option β):∀(l:List α) m,l.mapM f=some m->∀b∈m,∃a∈l,f a=some b
 | [],m,h,b,hb=>by simp at h;subst h;simp at hb
 | a::l,m,h,b,hb=>by
   rw[axA]at h;split at h
   .cases h
   rename_i x d
   split at h
   .cases h
   rename_i bs g;cases h;rcases a0l.1 hb with rfl|hb
   .exact⟨a,by simp,d⟩
   obtain⟨y,c,e⟩:=mapM_mem f l bs g b hb;exact⟨y,by simp[c],e⟩
structure aAJ(L:List LB)(h:kN):Prop where
 rc:h.rc∈L
 bl:Asc h.bl
def azH {C:List CR}(d:Steps C)(g:∀c∈C,c.rc=[45]\/c.rc∈L)(j:∀c∈C,Asc c.jM):∀i,i<=C.length->∀h∈fD C i,aAJ L h
 | 0,_=>by simp[fD]
 | i+1,r=>by
   intro h hh;rw[fD]at hh;have f:=azH d g j i (by omega);rcases a0e.1 hh with e|e
   .exact f h e
   rw[a0a (by omega)]at e;have e:=a0w.1 e;subst e;have key:∀a:kN,(C[i].rc=[45]->a.rc∈L)->Asc a.bl->aAJ L (ny a C[i]):=by
    intro a o n;refine⟨?_,?_⟩
    .show(if C[i].rc == [45] then a.rc else C[i].rc)∈L;by_cases e:C[i].rc=[45]
     .rw[a0m (by simp[e])];exact o e
     rw[a0n (by simp[e])];exact (g C[i] (a0u _)).resolve_left e
    show Asc (if C[i].tb then C[i].jM else a.bl);split
    .exact j C[i] (a0u _)
    exact n
   cases i with
   | zero =>
     refine key _ (λe=>absurd e ((d.1 C[0] (a0a (by omega))).2)) ?_;unfold uK;have:par C 0=none:=by
      cases b:par C 0 with
      | none=>rfl
      | some p=>exact absurd (En b) (by omega)
     rw[this];exact List.Pairwise.nil
   | succ i =>
     obtain⟨p,b⟩:=asS d i (by omega);have l:uK C (fD C (i+1)) (i+1)∈fD C (i+1):=by unfold uK;rw[b];simp only;rw[a0x,a0a (by rw[ry];exact En b)];exact a0u _
     have ho:=f _ l;exact key _ (λ_=>ho.rc) ho.bl
theorem azI:∀{B},Asc B->aqt B=true
 | [],_=>rfl
 | [_],_=>rfl
 | a::b::l,h=>by
   have c:=a1F.1 h;rw[aqt,aqh,a0g (c.1 b (by simp)),azI c.2];rfl
def aAw(S c):∃f∈gP S (c+1),apart S f c=false:=by
 simp only[gP];split
 .exact⟨c,by simp,by simp[apart]⟩
 rename_i h;have a:kU S (gP S c) c<(gP S c).length:=by have:=adD S (gP S c) c;simp at h;omega
 refine⟨(gP S c)[kU S (gP S c) c],a0u a,?_⟩;have b:(!apart S ((gP S c)[kU S (gP S c) c]) c)=true:=List.findIdx_getElem (w:=a);simpa using b
def azJ {S c f}(h:S.any (λs=>chg s c)=false)(a:apart S f c=false):apart S f (c+1)=false:=by unfold apart at a |-;rw[List.any_eq_false]at h a |-;intro s b;have e:=h s b;have d:=a s b;simp[chg]at e d |-;rw[d,e]
def aAe(S c):(gP S (c+2)).length<=(gP S (c+1)).length+(if S.any (λs=>chg s c) then 1 else 0):=by
 cases h:S.any (λs=>chg s c)
 .obtain⟨f,b,a⟩:=aAw S c;rw[gP];have e:kU S (gP S (c+1)) (c+1)<(gP S (c+1)).length:=by unfold kU;exact List.findIdx_lt_length_of_exists ⟨f,b,by simp[(azJ h a)]⟩
  rw[a0n (by simp;omega)];simp
 rw[gP];split<;>simp
def azj(S):∀c,(gP S (c+1)).length<=1+(List.range c).countP (λi=>S.any (λs=>chg s i))
 | 0=>by have:=(xW S 1).1;simpa using this
 | c+1=>by
   have:=aAe S c;have:=azj S c;rw[List.range_succ,List.countP_append];have:List.countP (λi=>S.any (λs=>chg s i)) [c]=(if S.any (λs=>chg s c) then 1 else 0):=by simp[a2G]
   show(gP S (c+2)).length<=_;omega
def azk(l:LN):∀S:LN,l.countP (λi=>S.any (λs=>chg s i))<=(S.map (λs=>l.countP (chg s))).sum
 | []=>by simp
 | s::S=>by
   have h:=azk l S;have b:=aaG (p:=λi=>(s::S).any (λs=>chg s i)) (q:=chg s) (r:=λi=>S.any (λs=>chg s i)) l (by intro x _ a;simpa using a);simp only[a0E,a0Y];omega
def aAx(e):(kZ e).length<=1+cpL (dB e):=by
 have b:=azk (List.range 255) (dB e);unfold kZ;unfold cpL cp;exact a0h (azj _ 255) (by omega)
def aAf {t:LB} {e:RX}(h:fF t=some e):(kZ e).length<=1+2*t.length :=
 a0h (aAx e) (by have:=azN h;omega)
def VO {f:α->LB}:∀(l:List α),(∀x∈l,(f x).length<=b)->(l.flatMap f).length<=l.length*b
 | [],_=>by simp
 | x::l,h=>by have d:=h x (by simp);have c:=VO l (λy a=>h y (by simp[a]));rw[a1i,a0p,a0r,Nat.succ_mul];omega
theorem azK(t):(eT t).length=1+t.length:=by simp[eT,bz]
def azu {l}(h:∀t∈l,t.length<=b):(We l).length<=1+l.length*(1+b):=by have:=VO (f:=eT) (b:=1+b) l (λx a=>by rw[azK];have:=h x a;omega);simp only[We,a0p,bz];omega
def aAM {a}(ok:Mo a)(c:a.k<=81):(eA a).length<=3539:=by have:=VO (f:=nb 1) (b:=1) a.cl (λx _=>by rw[bz];omega);have:=VO (f:=nb 1) (b:=1) a.acc (λx _=>by rw[bz];omega);have:=VO (f:=nb 1) (b:=1) a.nx (λx _=>by rw[bz];omega);have:=ok.nx;have:=ok.cl;have d:=ok.s2;have:a.acc.length*a.k<=40*81:=a0D d c;simp only[eA,a0p,bz];omega
def aAN {h}(ok:afH h):(eH h).length<=55:=by have:=ok.rc.1;have:=azu (l:=h.bl) (b:=8) (λt ht=>by have:=(ok.b2 t ht).1;omega);have:=ok.b1;simp only[eH,a0p,bz,azK];omega
def aAO(ok:MOK m)(n:m.zg.length<=64)(d:∀a∈m.zg,a.k<=81)(j:m.code.length<=1000):(eM m).length<=262144:=by have:=azu (l:=m.names) (b:=8) (λt ht=>by have:=(ok.names.2 t ht).1;omega);have:=azu (l:=m.consts) (b:=40) (λt ht=>by have:=ok.consts.2 t ht;omega);have:=VO (f:=eA) (b:=3539) m.zg (λa h=>aAM (ok.zg.2 a h) (d a h));have:=VO (f:=pR) (b:=3) m.tests (λa h=>by simp[pR,bz]);have:=VO (f:=eH) (b:=55) m.q9 (λa h=>aAN (ok.q9.2 a h));have:=VO (f:=eI) (b:=6) m.code (λa h=>by simp[eI,bz]);have:=ok.names.1;have:=ok.consts.1;have:=ok.tests.1;have:=ok.q9.1;have c:I4.length=3:=rfl;simp only[eM,a0p,bz,c];omega
def AK(re:LB->Nat)(bI:LB->gz)(s:CS):Prop:=∀a∈s.a,∃v:LB,v.length<=40/\re v=0/\a=bI v
def aAg {re} {bI:LB->gz} {s s1 m t}(h:AK re bI s)(c:Qf m)(e:nP re bI s m=some (t,s1)):AK re bI s1:=by
 unfold nP at e;split at e
 .split at e
  .cases e;exact h
  split at e
  .rename_i f;cases e;intro a d;rcases a0e.1 d with b|b
   .exact h a b
   rw[a0w.1 b];exact⟨m.2.2,c.val,f,rfl⟩
  cases e
 cases e;exact h
def azL {re} {bI:LB->gz}:∀M s acc {l s1},AK re bI s->(∀m∈M,Qf m)->nu re bI s acc M=.ok (l,s1)->AK re bI s1
 | [],s,acc,l,s1,h,_,e=>by
   rw[nu]at e;cases e;omega
 | m::r,s,acc,l,s1,h,a,e=>by
   rw[nu]at e;split at e
   .cases e
   rename_i t s2 ht;have c:=aAg h (a m (by simp)) ht;exact azL r _ _ (show AK re bI { s2 with t:=pE s2.t t } from c) (λx b=>a x (by simp[b])) e
def azr {re} {bI:LB->gz}:∀C s i {s1},AK re bI s->(∀c∈C,xN c)->pread re bI s i C=.ok s1->AK re bI s1
 | [],s,i,s1,h,_,e=>by
   rw[pread]at e;cases e;omega
 | c::r,s,i,s1,h,hC,e=>by
   rw[pread]at e;split at e
   .cases e
   rename_i l s2 b;have d:=azL c.ifs s [] h (hC c (by simp)).ifs b;exact azr r { s2 with q:=s2.q++[l] } (i+1) (show AK re bI { s2 with q:=s2.q++[l] } from d) (λx a=>hC x (by simp[a])) e
def aAz {v}(b:v.length<=40)(h:gH v=0):(gQ v).k<=81:=by
 obtain⟨e,he,_,_⟩:=VX h;have c:=aAf he;have a:(gQ v).k=(kZ e).length:=by unfold gQ;rw[he]
 omega
def aAh {t:LB} {C:List CR} {s:CS}(ht:t.length<=1048576)(h:jH t=.ok (L,C))(b:pread gH gQ lT 0 C=.ok s):(eM (iZ C s)).length<=262144:=by
 obtain⟨n,f,m,y⟩:=pI h;have e:=(qT t L C ht n).2.2;have ok:=asU ab5 ht h b;obtain⟨k1,k2,x⟩:=V7 ab5 C lT 0 0 ⟨by simp[lT],by simp[lT],by simp[lT],rfl,by simp[lT],by simp[lT],by simp[lT]⟩ ⟨by simp[lT],by simp[lT],by simp[lT],by simp[lT],by simp[lT]⟩ e b;have k:=azr (re:=gH) (bI:=gQ) C lT 0 (λa c=>by simp[lT]at c) e b;refine aAO ok (by have:=k2.a;show s.a.length<=64;omega) (λa c=>?_) ?_
 .obtain⟨v,l,o,rfl⟩:=k a c;exact aAz l o
 have p:C.isEmpty=false:=by cases C with | nil=>simp at f|cons=>rfl
 have r:GL [⟨0,0,0,0⟩]:=by intro i d;simp at d;subst d;exact .inl rfl
 obtain⟨j,g,w⟩:=C9 C s.q 6 0 0 [⟨0,0,0,0⟩] r (by simp);have u:=aiP m f k1.ql;show(C8 C s.q).length<=1000;unfold C8;rw[p];obtain⟨t1,t2⟩:=akP j _ g;show(mH (ig C s.q 6 0 0 [⟨0,0,0,0⟩]).2 (ig C s.q 6 0 0 [⟨0,0,0,0⟩]).1).length<=1000;omega
def aAi {t:LB} {C:List CR} {s:CS}(h:jH t=.ok (L,C)):∀x∈(iZ C s).q9,aqt x.bl=true:=by
 obtain⟨i,o,n,m⟩:=pI h;have k:=Ur h;have b:=azt h;obtain⟨_,l,ls,q,p,j⟩:=(azl t L C).1 i;have f:∀c∈C,c.rc=[45]\/c.rc∈L:=by
  unfold mr at b;split at b
  .cases b
  exact azi C 0 b
 have d:∀c∈C,Asc c.jM:=λc g=>by obtain⟨a,_,d⟩:=mapM_mem rtL ls C j c g;exact aAv d
 intro x e;exact azI (azH k f d C.length (a0b _) x e).bl
def azv(w a cap L)(h:LQ w a L)(d:L.length<=4398046511104)(b:∀x∈L,x.1.length<=140737488355328/\x.2.length<=140737488355328) :
 zF 5 #[.slice a L.length cap] w λe w'=>e=zR (.bool (gB L))/\aB [] w w':=by
 by_cases f:12<L.length
 .have c:gB L=false:=by unfold gB;rw[a0f (by omega)];rfl
  clear h b;delta zF;go_in;go_wp2;go_ret;rw[c];exact⟨rfl,zK⟩
 exact Uo nH _ L w (h.lr cap (by omega)) b
def azW(t w)(ht:t.length<=140737488355328)(a cap L)(h:LQ w a L)(hN:L.length<=4398046511104)(hs:∀x∈L,x.1.length<=140737488355328/\x.2.length<=140737488355328) :
 zF 3 #[zT t,.slice a L.length cap] w λe w'=>e=zR (.bool true)/\aB [] w w':=by
 have k:=aom _ _ ht _ cap _ h hN hs;have f:∀q,zF 5 #[.slice a L.length cap] (w.drewN q) λe w'=>e=zR (.bool (gB L))/\aB [] (w.drewN q) w':=λq=>azv _ a cap L (h.aC ((aB.refl [] w).drewN q)) hN hs;cases hd:decide (16384<t.length+EN L.length L)
 .rw[hd]at k;have:=of_decide_eq_false hd;have:=Zb L L.length;cases W:gB L
  .rw[W]at f;delta zF;go_in;go_wp2_with fail;refine k.mono ?_;rintro e U ⟨rfl,q,rfl⟩;go_wp2_with fail;refine(f q).mono ?_;rintro e c ⟨rfl,D⟩;go_wp2;go_ret;exact⟨rfl,((aB.refl [] w).drewN q).trans D⟩
  rw[W]at f;delta zF;go_in;go_wp2_with fail;refine k.mono ?_;rintro e U ⟨rfl,q,rfl⟩;go_wp2_with fail;refine(f q).mono ?_;rintro e U ⟨rfl,qh⟩;have f:=ace t U (by omega);go_wp2_with fail;refine f.mono ?_;rintro e c ⟨D,h2⟩;have F2:=(((aB.refl [] w).drewN q).trans qh).trans D;rcases h2 with⟨_,rfl⟩|⟨pb,_,C,cb,_,X,HZ,b,rfl,hq,F,_⟩
  .go_wp2;go_ret;exact⟨rfl,F2.alloc _⟩
  obtain⟨_,_,s,V,r,l,hP,N⟩:=hq;rw[b]at r;simp only[Except.ok.injEq,Prod.mk.injEq]at r;obtain⟨rfl,rfl⟩:=r;obtain⟨T,i⟩:∃x,x=c.alloc (.cells #[zP pb,zP cb,.pointer none,.string ByteArray.empty] 29):=⟨_,rfl⟩;have Z:aB [] c T:=by rw[i];exact zG
  have z:T.heap[c.heap.size]?=some (.cells #[zP pb,zP cb,.pointer none,.string ByteArray.empty] 29 (0,0)):=by rw[i];exact bD _ _
  have F3:=F2.trans Z;have Y:uu (iZ C s) (runM (iZ C s) (dH L) (iZ C s).code.length 0)=(iw (hold gQ (dH L) C) C 6 0).map (Dw C):=ai6 (by omega) b l L;have M:∀x∈uu (iZ C s) (runM (iZ C s) (dH L) (iZ C s).code.length 0),x.bl.length<=1000:=akY N _;have yS:(uu (iZ C s) (runM (iZ C s) (dH L) (iZ C s).code.length 0)).length<=1048576:=by have:=aok (iZ C s) (dH L) (iZ C s).code.length 0;have:=N.code.2.1;simp only[uu,a0y];omega
  have hle:=aAh (by omega) b l;have su:=aAi (s:=s) b;have P3:=hP.aC Z (by simp);obtain⟨R,u⟩:∃R,R=(iw (hold gQ (dH L) C) C 6 0).map (Dw C):=⟨_,rfl⟩;rw[Y,<-u]at M yS;rw[<-u]at Y;generalize iZ C s=m at *;have G:c.heap.size<T.heap.size:=(a0c.1 z).1;have N3:=azV [] pb V m T P3 N (by omega);rw[i]at N3;go_wp2_with fail;refine N3.mono ?_;rw[<-i];rintro e w4 ⟨rfl,O⟩;have N4:=aAs m w4 N su hle;go_wp2_with fail;refine N4.mono ?_;rintro e w5 ⟨J,V2,mb,rfl,H⟩;have g:=O.trans J;have Q5:=(h.aC F3).aC g;have P:=(F.aC Z).aC g;have y:w5.heap[c.heap.size]?=_:=(g.block c.heap.size G (by simp)).trans z;have hb5:c.heap.size<w5.heap.size:=(a0c.1 y).1;go_wp2_with fail;refine (aAc w5 mb V2 m H N (.slice a L.length cap) L (Q5.lr cap (by omega)) (λn=>by have:=aoo W n;omega)).mono ?_;rintro e w6 ⟨v,bB,rfl,d,p,I6⟩;rw[Y]at I6;obtain⟨_,_,he⟩:=p.shape;rw[jA]at he;subst he;have F6:=(F3.trans g).trans d;have B:=P.aC d;have B6:w6.heap[c.heap.size]?=_:=(d.block c.heap.size hb5 (by simp)).trans y;have:zC w6 c.heap.size 1 (zP cb):=by simp[World.cell?,B6]
  obtain⟨vr,vl,kG⟩:=B.cf;obtain⟨c0,Cm,yf⟩:=aog b;have N8:=ai0 cb vr vl (as5 (by omega) b HZ B ((Q5.aC d).lr cap (by omega)) W) (aB.refl [] w6) kG c0 Cm yf;rw[<-u]at N8;go_wp2_with fail;refine N8.mono ?_;rintro e w8 ⟨_,axz,rfl,o,I,j⟩;obtain⟨_,_,E⟩:=o.shape;rw[jA]at E;subst E;have NS:=acD w8 _ _ [] [] bB axz _ ((p.rw (A:=[]) (by simp)).aC j (by simp)) (o.rw (A:=[]) (by simp)) (I6.aC j (by simp)) I yS M;go_wp2_with fail;refine NS.mono ?_;rintro e _ ⟨rfl,_,rfl⟩;go_wp2;go_ret;exact⟨rfl,(F6.trans j).drewN _⟩
 rw[hd]at k;delta zF;go_in;go_wp2_with fail;refine k.mono ?_;rintro e U ⟨rfl,q,rfl⟩;go_wp2_with fail;refine(f q).mono ?_;rintro e c ⟨rfl,D⟩;go_wp2;go_ret;exact⟨rfl,((aB.refl [] w).drewN q).trans D⟩
open Go.ChangeShapes Go.WideShapes Go.ChangeAt Go.RowKit
open Go.ChangeMaps (open_string shut_string)
def ajd:Value->LB
 | .string s=>s.data.toList
 | _=>[]
def JD {P} {d:DataW H}:∀{l},d∈l->n∈d.weights P e->n∈DataW.weightsAll P e l
 | [],hd,_=>by simp at hd
 | x::r,hd,a=>by
   simp only[DataW.weightsAll,a0e];rcases a0l.1 hd with rfl|hd
   .exact .inl a
   exact .inr (JD hd a)
def aop:Tryz.prog.cellsOf 40=2:=by kernel_rfl
def aeU:Tryz.prog.cellsOf 9=1:=by kernel_rfl
theorem aoq:Tryz.prog.bytesOf 40=32:=by kernel_rfl
def af9 {enc W a len} {d:DataW H} {F}(h:DataW.Trod enc Tryz.prog W 0 (λ_=>true) true 22 (.slice a len cap) d F)
 (y:∀n∈d.weights Tryz.prog 22,n<=reachBytes) :
 ∃L:List kW,L.length=len/\LQ W a L/\L.length<=4398046511104/\∀x∈L,x.1.length<=140737488355328/\x.2.length<=140737488355328:=by
 obtain⟨fuel,h⟩:=h;have G:(Value.slice a len cap).cells.toList=[.slice a len cap]:=rfl;rw[G]at h;rcases Deep.open_slice_pairs Tryz.underlying22 Tryz.underlying40 aop rfl rfl aeU aeU h with⟨l,_⟩|⟨M,w,N,m,n,E,D,D0,v,T,S,l,_,R,P,C,o,t⟩
 .simp only[List.cons.injEq,a2u,Value.slice.injEq]at l;obtain⟨rfl,rfl,rfl⟩:=l;exact⟨[],rfl,λj s=>absurd s (by simp),by simp,by simp⟩
 simp only[List.cons.injEq,a2u,Value.slice.injEq]at l;obtain⟨rfl,rfl,rfl⟩:=l;simp only[a0G]at C;subst C;simp only[Prod.mk.injEq]at o;obtain⟨rfl,rfl⟩:=o;have O:reachBytes<=140737488355328:=a3t reachBytes_lt;have z:∀i,i<m->∃c s1:ByteArray,E i=.string c/\D i=.string s1/\D0 i=.lit (.string c.data.toList)/\v i=.lit (.string s1.data.toList):=by intro i p;obtain⟨_,_,B,A⟩:=t i p;obtain⟨c,f,r,_⟩:=DataW.trod_string Tryz.underlying9 B;obtain⟨s1,e,q,_⟩:=DataW.trod_string Tryz.underlying9 A;simp only[List.cons.injEq,a2u]at f e;simp only[Prod.mk.injEq]at r q;exact⟨c,s1,f,e,r.1,q.1⟩
 have hlen:len*32<=reachBytes:=by have:=y ((len+(m-len))*32) (by simp[DataW.weights,Tryz.underlying22,aoq]);omega
 refine⟨(List.range len).map λi=>(ajd (E i),ajd (D i)),by simp,?_,by simp;omega,?_⟩
 .intro j s;simp only[a0y,List.length_range]at s;obtain⟨b,off,spot⟩:=M;obtain⟨c0,c1,_,_⟩:=t j (by omega);obtain⟨c,s1,f,e,_,_⟩:=z j (by omega);have u:spot=none:=by have:=World.cell?_spot (t 0 (by omega)).1;simpa[Addr.add] using this
  subst u;rw[add_plain]at c0 c1;refine⟨b,off,rfl,World.block_lt_of_cell? W _ c0,?_,?_⟩
  .rw[c0,f];simp[ajd,f,aje]
  rw[<-a2M]at c1;rw[c1,e];simp[ajd,e,aje]
 intro x o;obtain⟨i,p,rfl⟩:=a0q.1 o;rw[a2b]at p;obtain⟨c,s1,f,e,r,q⟩:=z i (by omega);have g:∀k,k=c.data.toList.length\/k=s1.data.toList.length->k<=reachBytes:=by
  intro k J;apply y;have I:k∈DataW.weightsAll Tryz.prog 40 ((List.range len).map λi=>DataW.agg [D0 i,v i]):=by refine JD (d:=.agg [D0 i,v i]) (a0q.2 ⟨i,a2b.2 p,rfl⟩) ?_;rw[r,q];simp only[DataW.weights,Tryz.underlying40];rcases J with rfl|rfl<;>simp[DataW.weightsEach,DataW.weights]
  simp only[DataW.weights,Tryz.underlying22,a0l,a0e];exact .inr (.inl I)
 have B:=g _ (.inl rfl);have A:=g _ (.inr rfl);simp only[f,e,ajd];omega
end
end Go.Proofs.YtnkobfoopcolaaaGreat
namespace Go.Proofs.YtnkobfoopcolaaaGreat.azM
open Go.ChangeShapes Go.WideShapes Go.ChangeAt Go.RowKit
open Go.ChangeMaps (open_string shut_string)
def own:ownKnob Tryz.prog.godebug=none:=by kernel_rfl
def laidOut:laidOutB Tryz.prog=true:=by kernel_rfl
theorem lifted(os:Os)(started:os.Started)(H:Type)(enc:TypeId × Value->H) :
 ReturnsInHanded {} Tryz.checked os 3 .any (Rows.savesSpec.pre6 enc Tryz.prog Tryz.f3 Rows.savesRow.domain false) (Rows.savesSpec.post enc Tryz.prog Tryz.f3 false true false false):=by
 refine returnsInHanded_of_change_sized (C:=Tryz.checked) own started (by kernel_rfl) Tryz.func3
  (ChangeSpec.witness6 (enc:=enc) (C:=Tryz.checked) false ⟨#[],#[.string ByteArray.empty,.slice none 0 0],[]⟩ 8 (by kernel_rfl) (by kernel_rfl) (by kernel_rfl) (by kernel_rfl)) ?_
 intro W base args ds gs before arE hW aze aup _;have Ux:∀(j:Nat) t v,Tryz.f3.params[j]?=some t->args[j]?=some v->Value.okWide Tryz.prog W .any base t v:=arE;have hW':=hW;obtain⟨p,q,hA0,hV,rfl,Sv,qH⟩:=hW;have hA:DataW.TrodAll enc Tryz.prog W 0 (λ_=>true) true Tryz.f3.params.toList args.toList ds p:=hA0;have eG:(DataW.weightsEach Tryz.prog (Tryz.f3.params.toList++Rows.savesSpec.plain.varTypes Tryz.prog) (ds++gs)).all (·<=reachBytes)=true:=aup;rw[Tryz.params3]at hA Ux eG;obtain⟨v0,v1,d0,d1,p0,p1,rfl,rfl,rfl,h0,h1⟩:=trodAll_two hA;obtain⟨rfl,rfl⟩:=trodVars_none hV;have h0k:=h0;obtain⟨s,rfl,rfl,rfl,hs⟩:=open_string Tryz.underlying9 (Ux 0 9 v0 rfl rfl) h0;obtain⟨a1,azf,ag0,rfl⟩:=okWide_slice Tryz.underlying22 (Ux 1 22 v1 rfl rfl);clear hA0 arE aup;simp only[a0R]at hW';have aL:∀x∈([]:List MemPlace)++p1,x.block<W.heap.size:=λx hx=>by simpa using hW'.lt x hx
 have rJ:s.data.toList.length<=140737488355328:=a0h (sized_string (j:=0) eG rfl rfl) (a3t reachBytes_lt);obtain⟨L,rfl,hQ,hN,hLs⟩:=af9 h1 (λn hn=>by
  have:=a1d.1 eG _ (DataW.weights_mem_each (j:=1) (t:=22) (d:=d1) rfl rfl n hn);simpa using this)
 have hb:Value.string s=.string (bs s.data.toList):=by rw[aje]
 rw[hb];refine(azW s.data.toList W rJ a1 ag0 L hQ hN hLs).mono λe W' ⟨he,hf⟩=>?_;rw[<-hb];subst he;refine⟨_,rfl,[.lit (.string s.data.toList),d1],[],_,[],[]++p1,[],hW',trodAll_cons_mk (shut_bool Tryz.underlying4 _) trodAll_mk0,trodAll_mk2 (shut_string Tryz.underlying9 hs) (Below.trod laidOut (by kernel_rfl) (a2q (by kernel_rfl)) h1 hf.below (λx hx=>aL x (by simpa using hx))),rfl,hf.below.frame _,λh=>by cases h⟩
theorem over:Rows.savesRow.holds Tryz.pinned (OpenSpec.ofChange Rows.savesSpec) :=
 OpenClaim.holds_of_wide 3 Tryz.f3 rfl rfl rfl rfl rfl rfl rfl ⟨rfl,rfl,rfl,rfl,rfl⟩ rfl rfl rfl rfl rfl (by kernel_rfl) Tryz.func3 (by kernel_rfl)
  (a2q (by kernel_rfl)) (by unfold Func.isWrapper;first | (rw[a0m (by decide +kernel)];kernel_rfl)|(rw[a0n (by decide +kernel)];exact⟨rfl,rfl⟩))
  (λos started H enc _=>lifted os started H enc)
end Go.Proofs.YtnkobfoopcolaaaGreat.azM
namespace Go.Proofs.YtnkobfoopcolaaaGreat
theorem saves_said:Rows.SavesSaid:=azM.over
end Go.Proofs.YtnkobfoopcolaaaGreat
