import Derived.Test.YtedmellodofajaaGreatDoorJ7
import Derived.Test.YtedmellodofajaaGreatDoorJ5
import Derived.Test.YtedmellodofajaaGreatDoorJ1
import Derived.Test.YtedmellodofajaaGreatDoorJ4
import Derived.Deep.WholeRow
import Derived.Laws.Bits64
import Derived.Laws.Bits64b
import Derived.RegionTactic
import Derived.BigRegion
set_option linter.unusedVariables false
set_option linter.unusedSimpArgs false
set_option linter.unnecessarySimpa false
set_option linter.defProp false
set_option maxRecDepth 100000
set_option maxHeartbeats 4000000
namespace Go.Proofs.YtedmellodofajaaGreatDoor
open Go.RowKit
section
variable {A X Z a:NF} {M N P P' b b' i j m m' n p t v w x y:Nat} {α:Type} {U:List NF} {hi:Option Nat}
theorem apH(b:WC X)(h:NF.one∈parts X):iw X .one=X:=by
 have d:bQ [X]=X:=Pv b.1 b.2;have c:bQ [X,.one]=bQ [X]:=by
  refine vT ?_ ?_ ?_
  .intro x a;simp at a;rcases a with rfl|rfl;exact b.1;exact trivial
  .intro x a;simp at a;subst a;exact b.1
  grind [parts]
 unfold iw;rw[c,d]
theorem adq(t:WC X)(g:nU X=true):rG (iw X .one)=false:=by
 have F:∀x ∈ [X,NF.one],wf x:=by intro x k;simp at k;rcases k with rfl|rfl;exact t.1;exact trivial
 have m:WC (iw X .one):=t.or WC.one;obtain⟨c,-⟩:=Cc m.1 m.2;have j:∀p∈parts (iw X .one),p=X\/p=.one:=by
  intro p d;unfold iw bQ at d;have A:∀q∈gU (bN ([X,NF.one].flatMap parts)),iU q=true:=by
   intro q hq;rcases wI (kK hq) with h|h
   .exact ET h
   grind [mY]
  rw[Pm A]at d;have u:=kK d;have E:[X,NF.one].flatMap parts=[X,.one]:=by cases X<;>simp[nU]at g<;>rfl
  rw[E]at u;rcases Zf u with⟨w,e⟩|B
  .cases X with
   | set s=>left;rw[e];simp[bf,bits]
   | star a=>exact absurd (by simp[bf,bits]) w
   | zero=>simp[nU]at g
   | one=>simp[nU]at g
   | pair a b=>simp[nU]at g
   | sum l=>simp[nU]at g
  simpa using B
 cases f:iw X .one with
 | sum l =>
   rw[f]at j c;simp only[parts]at j c;have v:X∈l:=by
    rw[f]at m;have n:bQ [NF.sum l]=.sum l:=Pv m.1 m.2
    by_cases k:X∈l
    .exact k
    exfalso
    have i:∀y∈l,y=.one:=λy o=>(j y o).resolve_left (λe=>k (e ▸ o))
    match l,i,c,n with
    | [],_,_,n=>simp[bQ,parts,bN,bf,gU,mkS]at n
    | [y],i,_,n=>have:=i y (by simp);subst this;simp[bQ,parts,bN,dF,bf,bits,gU,put,mkS]at n
    | y::z::r,i,c,_=>have D:=i y (by simp);have C:=i z (by simp);rw[D,C]at c;simp at c
   simp only[rG];exact apG g c j v
 | pair a b =>
   have:=j (.pair a b) (by rw[f];simp[parts]);rcases this with h|h
   .grind [nU]
   simp at h
 | zero=>rfl
 | one=>rfl
 | set s=>rfl
 | star a=>rfl
def amX {l:List NF}(a:WC (.sum l))(hb:JE l=false):NF.one∈l:=by
 by_cases f:NF.one∈l
 .exact f
 exfalso
 have e:l.filter (λy=>!vP y)=l:=by grind [vP,List.filter_eq_self]
 unfold JE at hb;rw[e]at hb
 match l,hb with
 | [],hb=>simp at hb
 | [x],hb =>
   have c:bQ [NF.sum [x]]=.sum [x]:=Pv a.1 a.2;have g:=a.1.2 x (by simp);have d:nU x=true:=by simpa using hb
   cases x<;>simp[nU]at d
   .rename_i s
    have b:s≠0:=by have:0<s:=a.1.1.1.1;omega
    simp[bQ,parts,bN,dF,bf,bits,gU,put,mkS,b]at c
   simp[bQ,parts,bN,dF,bf,bits,gU,put,mkS]at c
 | x::y::r,hb=>simp at hb
def Pt.opt {C E e:Nat->Nat}(h:Pt X p b m w t C E e)(f:WC X)(i:1<=p)(B:p<=40)(hz:X≠.zero)(ho:X≠.one) :
 ∃r D A,Pt (iw X .one) p b (m+1) (w+2) r C D A:=by
 by_cases o:NF.one∈parts X
 .rw[apH f o]
  exact⟨t,E,e,h.mono (a0b _) (by omega) (by omega)⟩
 have q:rG (iw X .one)=true->rG X=true:=by
  intro d;cases X with
  | zero=>exact absurd rfl hz
  | one=>exact absurd rfl ho
  | set s=>rw[adq f rfl]at d;cases d
  | star a=>rw[adq f rfl]at d;cases d
  | pair a c=>rfl
  | sum l =>
    cases hb:JE l
    .exact absurd (amX f hb) o
    simpa[rG] using hb
 have u:=KP.or (Y:=.one) f.1 (show wf .one from trivial) h.kp KP.one;refine⟨t+2,E,e,⟨u.mono (a0b _) (λn=>by simp) (λn=>by simp) (λn=>by simp),?_,λn=>?_,λn g=>?_,λn g=>?_,λd=>h.br (q d)⟩⟩
 .have:=h.ht
  rw[show 524+10*(m+1+b)=(524+10*(m+b))+10 by omega,a1A];omega
 .have z:=h.he n
  have x:L1 p b n<=p*L1 p b n:=a1q _ i;have v:(if jK (iw X .one) then 1+(if rG (iw X .one) then n else 0) else 0)<=L1 p b n:=by
   have:=Iv p b n
   by_cases d:rG (iw X .one)=true
   .have F:=h.br (q d)
    have k:L1 p b n=n+1:=by unfold L1;rw[a0n (by omega)]
    rw[k,d];split<;>simp<;>omega
   grind
  rw[show 1+(m+1)+b=(1+m+b)+1 by omega,a1A,a0J,a1H];omega
 .exact a0h (h.hC n g) (vD (by omega))
 have z:=h.hE n g;have x:=tails (y:=1) (e:=1) (b:=b) (t:=2) i B g (by omega) (by have:=Iv p b n;have:1*1<=p*L1 p b n:=a0D i this;simpa using this);rw[<-SX];have G:Rb p b (2*1) n=Rb p b 2 n:=rfl;have v:(t+2+3+E n+(if rG (iw X .one) then sumTo (λj=>C j+519) n else 0))*2 ^ lg p<=(t+3+E n+(if rG X then sumTo (λj=>C j+519) n else 0))*2 ^ lg p+1*2*2 ^ lg p:=by grind [rG,iw,Nat.add_mul,Nat.mul_le_mul_right,Bool.false_eq_true]
 omega
def ahd(p:α->Nat):∀l:List α,(∀a∈l,1<=p a)->(l.map p).sum<=40->(l.map λa=>dS (p a)).sum<=dS (l.map p).sum
 | [],_,_=>by simp[dS,atd]
 | a::r,h,c=>by
   simp only[a0E,a0Y]at c |-;have e:=ahd p r (λx b=>h x (by simp[b])) (by omega);have f:=h a (by simp)
   by_cases d:(r.map p).sum=0
   .have:r=[]:=by
     cases r with
     | nil=>rfl
     | cons x r=>have:=h x (by simp);simp at d;omega
    subst this;simp
   grind [aha]
def als(p:α->Nat) {l:List α}(b:(l.map p).sum<=40) {a:α}(c:a∈l):lg (p a)<=lg (l.map p).sum:=by obtain⟨A,B,rfl⟩:=a2Q c;simp only[a0P,a0E,a1Y,a0Y]at b |-;have:=afg (p:=p a) (q:=(A.map p).sum+(B.map p).sum) (by omega);rw[show(A.map p).sum+(p a+(B.map p).sum)=p a+((A.map p).sum+(B.map p).sum) by omega];exact this
def aaA(f g:α->Nat):∀l:List α,(∀a∈l,f a<=g a)->(l.map f).sum<=(l.map g).sum
 | [],_=>by simp
 | a::r,h=>by have d:=h a (by simp);have c:=aaA f g r (λx b=>h x (by simp[b]));simp only[a0E,a0Y];omega
theorem adr(f:α->Nat)(k:Nat)(l:List α):(l.map f).sum*k=(l.map λa=>f a*k).sum:=(FU f k l).symm
def aaB(t E:α->Nat) {l:List α}(h:l≠[])(k:Nat):(l.map t).sum+k+(l.map E).sum<=(l.map λa=>t a+k+E a).sum:=by
 have:∀l:List α,l≠[]->(l.map t).sum+k+(l.map E).sum<=(l.map λa=>t a+k+E a).sum:=by
  intro l
  induction l with
  | nil=>intro h;exact absurd rfl h
  | cons a r c =>
    intro _;simp only[a0E,a0Y]
    by_cases b:r=[]
    .subst b;simp
    have:=c b;omega
 exact this l h
theorem Gt.bQ {l:List α} {F:α->NF} {p t:α->Nat} {C E e:α->Nat->Nat}(j:l≠[])(q:∀a∈l,wf (F a))(s:∀a∈l,1<=p a)(i:(l.map p).sum<=40)
 (h:∀a∈l,Gt (F a) (p a) b m w (t a) (C a) (E a) (e a)) (v:∀a∈l,t a+7<=p a*(524+10*(m+b))) :
 Gt (bQ (l.map F)) (l.map p).sum b m w (l.map t).sum (λn=>(l.map λa=>C a n).sum) (λn=>(l.map λa=>E a n).sum) (λn=>(l.map λa=>e a n).sum)/\(l.map t).sum+7<=(l.map p).sum*(524+10*(m+b)):=by
 have hG:=ahd p l s i;have g:(l.map t).sum+7<=(l.map p).sum*(524+10*(m+b)):=by
  have B:=aaB t (λ_=>0) j 7;have y:=aaA (λa=>t a+7+0) (λa=>p a*(524+10*(m+b))) l (λa c=>by have:=v a c;omega);rw[FU]at y;have x:∀r:List α,(r.map λ_:α=>0).sum=0:=by
   intro r;induction r with
   | nil=>rfl
   | cons a r o=>simpa using o
  have A:=x l;omega
 have k:∀(f:α->Nat) (n:Nat),1<=n->(∀a∈l,f a*2 ^ lg (p a)<=Rb (p a) b w n)->(l.map f).sum*2 ^ lg (l.map p).sum<=Rb (l.map p).sum b w n:=by
  intro f n d u;rw[adr];refine a0h (aaA _ (λa=>964*w*dS (p a)*hh (b+lg (l.map p).sum) n) l λa c=>lift d (u a c) (als p i c)) ?_;rw[FU (λa=>964*w*dS (p a))];have z:(l.map λa=>964*w*dS (p a)).sum=964*w*(l.map λa=>dS (p a)).sum:=by
   rw[a1b (964*w),adr]
   congr 1
   exact a2s λa _=>a1b _ _
  rw[z];unfold Rb;exact a0z _ (a0o _ hG)
 refine⟨⟨KP.bQ q λa c=>(h a c).kp,by omega,λn=>?_,λn d=>?_,λn d=>?_⟩,g⟩
 .refine a0h (aaA _ (λa=>p a*((1+m+b)*L1 (l.map p).sum b n)) l λa c=>?_) ?_
  .refine a0h ((h a c).he n) ?_
   rw[a0Z];exact a0o _ (a0o _ (FY (als p i c) (a0b _)))
  rw[FU,a0Z];exact a0b _
 .exact k (λa=>C a n) n d λa c=>(h a c).hC n d
 refine a0h (a0z _ (aaB t (λa=>E a n) j 3)) ?_;exact k (λa=>t a+3+E a n) n d λa c=>(h a c).hE n d
theorem Gt.one {C E e:Nat->Nat}(h:Gt X p b m w t C E e)(d:wf X)(i:t+7<=p*(524+10*(m+b)))(c:1<=p)(g:p<=40):Gt (iw X .one) p b m (w+2) (t+2) C E e:=by
 have f:=KP.or (Y:=.one) d (show wf .one from trivial) h.kp KP.one;refine⟨f.mono (a0b _) (λn=>by simp) (λn=>by simp) (λn=>by simp),by omega,h.he,λn a=>a0h (h.hC n a) (vD (by omega)),λn a=>?_⟩;have k:=h.hE n a;have j:=tails (y:=1) (e:=1) (b:=b) (t:=2) c g a (by omega) (by have:=Iv p b n;have:1*1<=p*L1 p b n:=a0D c this;simpa using this);rw[<-SX];have o:Rb p b (2*1) n=Rb p b 2 n:=rfl;have l:(t+2+3+E n)*2 ^ lg p=(t+3+E n)*2 ^ lg p+1*2*2 ^ lg p:=by rw[<-a0J];congr 1;omega
 omega
def Jh(k n:Nat):Nat:=sumTo (hh k) n
theorem av9(k n:Nat):hh (k+1) n=hh k n+Jh k n:=rfl
def awc(k n:Nat):n<=Jh k n:=by
 have a:sumTo (λ_=>1) n<=sumTo (hh k) n:=qJ λj _ _=>YQ k j
 rw[oO]at a;simpa[Jh] using a
structure Tw(p b m:Nat)(X:NF)(i o c x y:Nat)(t:Nat)(C E e:Nat->Nat):Prop where
 k:zL X t C E e
 ho:o<=i
 ht:t+8<=i*(p*(524+10*(m+b)))+5*o
 he:∀n,e n<=i*(p*(1+m+b)*(n+1))+o*(n+1)
 hC:∀n,1<=n->C n*2 ^ lg p<=964*dS p*(c*hh (b+lg p) n)
 hE:∀n,1<=n->E n*2 ^ lg p<=964*dS p*(x*hh (b+lg p) n+y*Jh (b+lg p) n)
def apI(p b n:Nat):L1 p b n<=n+1:=by unfold L1;split<;>omega
theorem Ct.tw {C E e:Nat->Nat}(h:Ct X p b m w t C E e):Tw p b m X 1 0 w w 0 t C E e:=by
 refine⟨h.k,by omega,by have:=h.ht;omega,λn=>?_,λn a=>?_,λn a=>?_⟩
 .rw[a2T,Nat.zero_mul,a1Q];exact a0h (h.he n) (a0o _ (apI p b n))
 .have c:=h.hC n a
  unfold Rb at c;have d:964*w*dS p*hh (b+lg p) n=964*dS p*(w*hh (b+lg p) n):=by simp only[a1b,a1y,a0Z]
  omega
 have c:=h.hE n a;unfold Rb at c;have d:964*w*dS p*hh (b+lg p) n=964*dS p*(w*hh (b+lg p) n):=by simp only[a1b,a1y,a0Z]
 rw[Nat.zero_mul,a1Q];omega
def Tw.apJ{o c:Nat} {C E e:Nat->Nat}(h:Tw p b m X i o c x y t C E e)(a:1<=p)(d:m+b<=43):t+8<=964*(i*p):=by
 have l:=h.ht;have g:=h.ho;have k:i*(p*(524+10*(m+b)))<=i*(p*954):=a0o _ (a0o _ (by omega));have j:i*(p*954)=954*(i*p):=by simp only[a1b,a1y,a0Z]
 have f:i<=i*p:=a2r _ a;omega
def Tw.copy{o c tA:Nat} {J d eA C E e:Nat->Nat}(g:Ct A p b m w tA J d eA)(h:Tw p b m X i o c x y t C E e)(B:1<=p)(I:p<=40)(D:m+b<=43)
 (u:wf A) (z:aP A=true) (s:wf X) (v:aP X=true) :
 Tw p b m (aG A X) (i+1) o (c+w+2*(1+m+b)*i) (x+w+2*(1+m+b)*i) y (tA+t+3) (λn=>d n+eA n*(t+3)+C n) (λn=>d n+eA n*(t+3)+E n) (λn=>eA n+e n):=by
 have M:=g.ht;have L:=h.ht;have F:t+3<=964*(i*p):=by have:=h.apJ B D;omega
 have j:∀n,1<=n->eA n*(t+3)*2 ^ lg p<=964*dS p*(2*(1+m+b)*i*hh (b+lg p) n):=by
  intro n a;have H:=ajV p b a
  calc eA n*(t+3)*2 ^ lg p<=p*(1+m+b)*L1 p b n*(964*(i*p))*2 ^ lg p:=a0z _ (a0D (g.he n) F)
   _=964*(1+m+b)*i*(p*p)*(L1 p b n*2 ^ lg p):=by simp only[a1b,a1y,a0Z]
   _<=964*(1+m+b)*i*dS p*(2*hh (b+lg p) n):=a0D (a0o _ (YR I)) H
   _=964*dS p*(2*(1+m+b)*i*hh (b+lg p) n):=by simp only[a1b,a1y,a0Z]
 have f:∀n,1<=n->d n*2 ^ lg p<=964*dS p*(w*hh (b+lg p) n):=by
  intro n a;have l:=g.hE n a;unfold Rb at l;have q:964*w*dS p*hh (b+lg p) n=964*dS p*(w*hh (b+lg p) n):=by simp only[a1b,a1y,a0Z]
  omega
 refine⟨g.k.then h.k u z s v,by have:=h.ho;omega,?_,λn=>?_,λn a=>?_,λn a=>?_⟩
 .grind
 .have l:eA n<=p*(1+m+b)*(n+1):=a0h (g.he n) (a0o _ (apI p b n))
  have r:=h.he n;rw[a0J,a2T];omega
 .have l:=f n a
  have r:=j n a;have G:=h.hC n a;have q:964*dS p*((c+w+2*(1+m+b)*i)*hh (b+lg p) n)=964*dS p*(w*hh (b+lg p) n)+964*dS p*(2*(1+m+b)*i*hh (b+lg p) n)+964*dS p*(c*hh (b+lg p) n):=by grind
  show(d n+eA n*(t+3)+C n)*2 ^ lg p<=_;rw[q,a0J,a0J];omega
 have l:=f n a;have r:=j n a;have G:=h.hE n a;have q:964*dS p*((x+w+2*(1+m+b)*i)*hh (b+lg p) n+y*Jh (b+lg p) n)=964*dS p*(w*hh (b+lg p) n)+964*dS p*(2*(1+m+b)*i*hh (b+lg p) n)+964*dS p*(x*hh (b+lg p) n+y*Jh (b+lg p) n):=by grind
 show(d n+eA n*(t+3)+E n)*2 ^ lg p<=_;rw[q,a0J,a0J];omega
def atg {C:Nat->Nat}{c:Nat}(a:1<=p)(d:p<=40)(hC:∀n,1<=n->C n*2 ^ lg p<=964*dS p*(c*hh (b+lg p) n)):sumTo (λj=>C j+519) n*2 ^ lg p<=964*dS p*((c+1)*Jh (b+lg p) n):=by
 have g:sumTo (λj=>C j+519) n=sumTo C n+n*519:=by rw[yJ,oO]
 have q:sumTo C n*2 ^ lg p<=964*dS p*(c*Jh (b+lg p) n):=by
  rw[<-Qk];refine a0h (qJ λj h _=>hC j h) ?_;have i:∀n,sumTo (λj=>964*dS p*(c*hh (b+lg p) j)) n=964*dS p*(c*Jh (b+lg p) n):=by
   intro n;unfold Jh
   induction n with
   | zero=>simp[sumTo]
   | succ n e=>simp only[sumTo,e,a1A]
  rw[i];exact a0b _
 have o:n*519*2 ^ lg p<=964*dS p*(1*Jh (b+lg p) n):=by
  have m:=(apF a d).1;have l:=YR d;have k:p<=p*p:=a1q _ a;have f:=awc (b+lg p) n
  calc n*519*2 ^ lg p<=Jh (b+lg p) n*964*dS p:=a0D (a0D f (by omega)) (by omega)
   _=964*dS p*(1*Jh (b+lg p) n):=by rw[a2T];simp only[a1b,a1y,a0Z]
 rw[g,a0J,a0J,a1A];omega
def alu(c:1<=p)(a:p<=40)(ht:t<=964*(i*p)):t*2 ^ lg p<=964*dS p*(i*hh (b+lg p) n):=by
 have f:=(apF c a).1;have e:=YR a;have d:=YQ (b+lg p) n
 calc t*2 ^ lg p<=964*(i*p)*p:=a0D ht f
  _=964*(p*p)*(i*1):=by rw[a1H];simp only[a1b,a1y,a0Z]
  _<=964*dS p*(i*hh (b+lg p) n):=a0D (a0o _ e) (a0o _ d)
def Tw.opt{o c:Nat} {C E e:Nat->Nat}(h:Tw p b m Z i o c x y t C E e)(B:wf Z)(g:gF Z=true)(q:1<=p)(w:p<=40)(A:m+b<=43)(ho:o+1<=i)(r:iw Z .one≠.zero) :
 Tw p b m (iw Z .one) i (o+1) c (x+i) (y+c+1) (t+5) C (λn=>t+6+E n+sumTo (λj=>C j+519) n) (λn=>1+e n+n):=by
 have u:=KP.or (Y:=.one) B (show wf .one from trivial) (KP.of h.k (.inl g)) KP.one;have v:KP (iw Z .one) (t+3) C E e:=u.mono (by omega) (λn=>by simp) (λn=>by simp) (λn=>by simp);have D:zL (iw Z .one) (t+5) C (λn=>t+6+E n+sumTo (λj=>C j+519) n) (λn=>1+e n+n):=by
  cases d:jK (iw Z .one)
  .exact(v.plain d r).mono (by omega) (λ_=>a0b _) (λn=>by omega) (λn=>by omega)
  cases f:iw Z .one with
  | sum l =>
    rw[f]at v;refine v.sum.mono (by omega) (λ_=>a0b _) (λn=>?_) (λn=>?_)
    .split<;>omega
    split<;>omega
  | zero=>rw[f]at d;simp[jK]at d
  | one=>rw[f]at d;simp[jK]at d
  | set s=>rw[f]at d;simp[jK]at d
  | pair a c=>rw[f]at d;simp[jK]at d
  | star a=>rw[f]at d;simp[jK]at d
 have G:=h.apJ q A;refine⟨D,ho,by have:=h.ht;omega,λn=>?_,h.hC,λn z=>?_⟩
 .have:=h.he n
  show 1+e n+n<=_;rw[a0J o 1];omega
 have J:=h.hE n z;have I:=atg (n:=n) q w h.hC;have H:=alu (b:=b) (n:=n) q w (by omega:t+6<=964*(i*p));have F:964*dS p*((x+i)*hh (b+lg p) n+(y+c+1)*Jh (b+lg p) n)=964*dS p*(i*hh (b+lg p) n)+964*dS p*(x*hh (b+lg p) n+y*Jh (b+lg p) n)+964*dS p*((c+1)*Jh (b+lg p) n):=by grind
 show(t+6+E n+sumTo (λj=>C j+519) n)*2 ^ lg p<=_;rw[F,a0J,a0J];omega
def conv{f:Nat}(c:1<=p)(d:2<=N)(a:N<=10)(e:N*p<=40)(g:1<=n)(k:2*M<=w*(N*N+N-2))(h:f*2 ^ lg p<=964*dS p*(M*hh (b+lg p+1) n)):f*2 ^ lg (N*p)<=Rb (N*p) b w n:=by
 obtain⟨j,i⟩:∃j,lg (N*p)=lg p+(1+j):=⟨lg (N*p)-lg p-1,by have:=afh c d e;omega⟩;have m:=SV (b+lg p+1) g j;have l:2*M*dS p<=w*dS (N*p):=by
  calc 2*M*dS p<=w*(N*N+N-2)*dS p:=a0z _ k
   _=w*((N*N+N-2)*dS p):=a0Z _ _ _
   _<=w*dS (N*p):=a0o _ (apE c d a e)
 have o:b+lg (N*p)=b+lg p+1+j:=by omega
 unfold Rb;rw[o,i,Nat.pow_add,Nat.pow_add,<-a0Z]
 calc f*2 ^ lg p*(2 ^ 1*2 ^ j)<=964*dS p*(M*hh (b+lg p+1) n)*(2 ^ 1*2 ^ j):=a0z _ h
  _=964*(2*M*dS p)*(2 ^ j*hh (b+lg p+1) n):=by rw[Nat.pow_one];simp only[a1b,a1y,a0Z]
  _<=964*(w*dS (N*p))*hh (b+lg p+1+j) n:=a0D (a0o _ l) m
  _=964*w*dS (N*p)*hh (b+lg p+1+j) n:=by simp only[a0Z]
def Tw.pt{o c:Nat} {C E e:Nat->Nat}(h:Tw p b m Z N o c x y t C E e)(a:gF Z=true)(d:1<=p)(q:2<=N)(g:N<=10)(i:N*p<=40)(B:m+b<=43)
 (A:x+N<=M) (z:y+c+1<=M) (s:2*M<=w*(N*N+N-2)):Pt Z (N*p) b (m+1) w (t+1) C E e:=by
 have r:p<=40:=a0h (a1q p (by omega)) i;have D:=afh d q i;have I:N<=N*p:=a2r _ d;have F:∀n,L1 (N*p) b n=n+1:=λn=>by unfold L1;rw[a0n (by omega)]
 have J:rG Z=true:=by cases Z<;>simp[gF]at a;rfl
 have l:jK Z=false:=by cases Z<;>simp[gF]at a;rfl
 have ho:=h.ho;have L:=h.apJ d B;refine⟨KP.of h.k (.inl a),?_,λn=>?_,λn f=>?_,λn f=>?_,λ_=>by omega⟩
 .have u:=h.ht
  have v:N*p*(524+10*(m+1+b))=N*(p*(524+10*(m+b)))+10*(N*p):=by grind
  omega
 .have u:=h.he n
  rw[l,F n];have v:N*p*(1+(m+1)+b)*(n+1)=N*(p*(1+m+b)*(n+1))+N*p*(n+1):=by grind
  have G:o*(n+1)<=N*p*(n+1):=a0z _ (by omega);simp only[a0A,a0I];omega
 .refine conv d q g i f s (a0h (h.hC n f) (a0o _ (a0D (by omega) (aff f (by omega)))))
 refine conv d q g i f s ?_
 have u:=h.hE n f;have G:=atg (n:=n) d r h.hC;have O:=alu (b:=b) (n:=n) d r (by omega:t+4<=964*(N*p));rw[J];simp only[a0G];have v:964*dS p*(N*hh (b+lg p) n)+964*dS p*(x*hh (b+lg p) n+y*Jh (b+lg p) n)+964*dS p*((c+1)*Jh (b+lg p) n)=964*dS p*((x+N)*hh (b+lg p) n+(y+c+1)*Jh (b+lg p) n):=by grind
 have P:964*dS p*((x+N)*hh (b+lg p) n+(y+c+1)*Jh (b+lg p) n)<=964*dS p*(M*hh (b+lg p+1) n):=by refine a0o _ ?_;rw[av9,a1A];exact a2Y (a0z _ A) (a0z _ z)
 have H:(t+1+3+E n+sumTo (λj=>C j+519) n)*2 ^ lg p=(t+4)*2 ^ lg p+E n*2 ^ lg p+sumTo (λj=>C j+519) n*2 ^ lg p:=by grind
 rw[H];omega
theorem Tw.mono{o c a l j g:Nat} {C E e:Nat->Nat}(h:Tw p b m X i o c x y t C E e)(ho:o<=a)(d:a<=i)(s:c<=l)(r:x<=j)(q:y<=g):Tw p b m X i a l j g t C E e :=
 ⟨h.k,d,by have:=h.ht;omega,λn=>a0h (h.he n) (Nat.add_le_add_left (a0z _ ho) _),λn f=>a0h (h.hC n f) (a0o _ (a0z _ s)),
  λn f=>a0h (h.hE n f) (a0o _ (a2Y (a0z _ r) (a0z _ q)))⟩
def cB(v w d:Nat):Nat->Nat
 | 0=>v
 | i+1=>cB v w d i+w+d*(i+1)
def xB(v w d:Nat):Nat->Nat
 | 0=>v
 | i+1=>xB v w d i+w+d*(i+1)+(i+2)
def yB(v w d:Nat):Nat->Nat
 | 0=>0
 | i+1=>yB v w d i+cB v w d (i+1)+1
def TT(A:NF)(p b m v w:Nat)(X:NF)(j:Nat):Prop:=∃t C E e,Tw p b m X (j+1) (j+1) (cB v w (2*(1+m+b)) j) (xB v w (2*(1+m+b)) j) (yB v w (2*(1+m+b)) j) t C E e
def TPn(p b m v w:Nat)(X:NF)(j:Nat):Prop:=gF X=true/\∃t C E e,Tw p b m X (j+2) (j+1) (cB v w (2*(1+m+b)) (j+1)) (xB v w (2*(1+m+b)) (j+1)-(j+2)) (yB v w (2*(1+m+b)) j) t C E e
def Ql(i:wf A)(g:aP A=true)(b:aP X=true):gF (aG A X)=true:=by
 induction A using NF.ind generalizing X with
 | h A j =>
   cases A with
   | zero=>simp[aP]at g
   | one=>simp[aP]at g
   | set s=>rw[aX rfl b];rfl
   | sum l=>rw[aX rfl b];rfl
   | star a=>rw[aX rfl b];rfl
   | pair c d=>obtain⟨k,hd,f,e⟩:=i;rw[dA b];exact j c (by simp[NF.size];have:=NF.size_pos d;omega) k (head_tail f) (eP hd e b)
def TT.copy{tA:Nat} {o n eA:Nat->Nat}(k:Ct A p b m w tA o n eA)(h:TT A p b m v w X j)(g:1<=p)(l:p<=40)(i:m+b<=43)(a:wf A)(d:aP A=true)(f:wf X)(c:aP X=true):TPn p b m v w (aG A X) j:=by
 obtain⟨t,C,E,e,h⟩:=h;refine⟨Ql a d c,_,_,_,_,(Tw.copy k h g l i a d f c).mono (a0b _) (by omega) ?_ ?_ (a0b _)⟩
 .simp only[cB];omega
 simp only[xB];omega
def TPn.tt(h:TPn p b m v w X j):TT A p b m v w X (j+1):=by obtain⟨_,t,C,E,e,h⟩:=h;refine⟨t,C,E,e,h.mono (by omega) (by omega) (a0b _) (by omega) ?_⟩;simp only[yB];omega
def TPn.opt(h:TPn p b m v w X j)(a:wf X)(c:1<=p)(f:p<=40)(d:m+b<=43)(hz:iw X .one≠.zero):TT A p b m v w (iw X .one) (j+1):=by
 obtain⟨g,t,C,E,e,h⟩:=h;refine⟨_,_,_,_,(Tw.opt h a g c f d (by omega) hz).mono (by omega) (by omega) (a0b _) ?_ ?_⟩
 .simp only[xB];omega
 simp only[yB];omega
def TPn.pt{w':Nat}(h:TPn p b m v w X j)(c:1<=p)(k:j<=8)(g:(j+2)*p<=40)(d:m+b<=43)(i:v<=w+2*(m+b)+8)(a:w+(if j=0 then 2*(m+b)+9 else 6*(m+b)+33)<=w'):∃t C E e,Pt X ((j+2)*p) b (m+1) w' t C E e:=by
 obtain⟨f,t,C,E,e,h⟩:=h;refine⟨t+1,C,E,e,Tw.pt (M:=w'*((j+2)*(j+2)+(j+2)-2) / 2) h f c (by omega) (by omega) g d ?_ ?_ ?_⟩
 .rcases(show j=0\/j=1\/j=2\/j=3\/j=4\/j=5\/j=6\/j=7\/j=8 by omega) with rfl|rfl|rfl|rfl|rfl|rfl|rfl|rfl|rfl<;>simp[xB]at a |-<;>omega
 .rcases(show j=0\/j=1\/j=2\/j=3\/j=4\/j=5\/j=6\/j=7\/j=8 by omega) with rfl|rfl|rfl|rfl|rfl|rfl|rfl|rfl|rfl<;>simp[yB,cB]at a |-<;>omega
 omega
def Vk:∀{l:List NF} {p:NF},p∈l->bits p<=bf l
 | x::r,p,h=>by
   rw[tH];rcases a0l.1 h with rfl|h
   .exact Nat.left_le_or
   exact a0h (Vk h) Nat.right_le_or
def aaC(h:WC a)(ht:aP a=true):∃p∈parts a,p≠.one:=by
 cases a with
 | zero=>simp[aP]at ht
 | one=>simp[aP]at ht
 | set s=>exact⟨.set s,by simp[parts],by simp⟩
 | pair c d=>exact⟨.pair c d,by simp[parts],by simp⟩
 | star c=>exact⟨.star c,by simp[parts],by simp⟩
 | sum l =>
   obtain⟨f,-⟩:=Cc h.1 h.2;have g:bQ [NF.sum l]=.sum l:=Pv h.1 h.2;simp only[parts]at f |-
   by_cases i:∃p∈l,p≠.one
   .exact i
   exfalso
   have b:∀y∈l,y=.one:=λy j=>Classical.byContradiction λe=>i ⟨y,j,e⟩
   match l,b,f,g with
   | [],_,_,g=>simp[bQ,parts,bN,bf,gU,mkS]at g
   | [y],b,_,g=>have:=b y (by simp);subst this;simp[bQ,parts,bN,dF,bf,bits,gU,put,mkS]at g
   | y::z::r,b,f,_=>have m:=b y (by simp);have k:=b z (by simp);rw[m,k]at f;simp at f
def I4(e:WC a)(ht:aP a=true):aP (iw a .one)=true:=by
 have k:∀x ∈ [a,NF.one],wf x:=by intro x f;simp at f;rcases f with rfl|rfl;exact e.1;exact trivial
 have j:NF.one∈parts (iw a .one):=by grind [iw,rD,bN,dF,parts]
 obtain⟨p,g,r⟩:=aaC e ht;have i:∃q∈parts (iw a .one),q≠.one:=by
  have o:p ∈ [a,NF.one].flatMap parts:=by simp[g]
  cases m:dF p
  .grind [iw,rD,bN]
  have b:=wK e.1 g;have hb:bf ([a,NF.one].flatMap parts)≠0:=by
   have:=Vk o;cases p<;>simp[dF]at m
   rename_i s
   have t:0<s:=b.1;simp only[bits]at this;omega
  refine⟨.set (bf ([a,NF.one].flatMap parts)),?_,by simp⟩;unfold iw;rw[rD k];unfold bN;rw[a0n hb];simp
 cases h:iw a .one with
 | zero=>rw[h]at j;simp[parts]at j
 | one=>rw[h]at i;obtain⟨q,hq,n⟩:=i;simp[parts]at hq;exact absurd hq n
 | set s=>rfl
 | pair c d=>rfl
 | star c=>rfl
 | sum l=>rfl
def mM(h:aP a=true):a≠.zero/\a≠.one:=by cases a<;>simp[aP]at h<;>simp
def aaD{tA:Nat} {u t eA:Nat->Nat}(n:Ct A p b m w tA u t eA)(d:WC A)(e:aP A=true)(f:1<=p)(i:p<=40)(g:m+b<=43) :
 ∀(k j:Nat) (X:NF),TT A p b m v w X j->WC X->aP X=true->TT A p b m v w (dG A k X) (j+k)/\WC (dG A k X)/\aP (dG A k X)=true
 | 0,j,X,h,c,a=>⟨h,c,a⟩
 | k+1,j,X,h,c,a=>by have s:=h.copy n f i g d.1 e c.1 a;have l:=d.then c;have o:=eP d.1 e a;have t2:=I4 l o;have r:TT A p b m v w (iw (aG A X) .one) (j+1):=s.opt l.1 f i g (mM t2).1;have q:=aaD n d e f i g k (j+1) _ r (l.or .one) t2;rw[show j+(k+1)=j+1+k by omega];exact q
def SY{tA:Nat} {B z eA:Nat->Nat}(n:Ct A p b m w tA B z eA)(f:WC A)(g:aP A=true)(i:1<=p)(q:p<=40)(l:m+b<=43) :
 ∀(k j:Nat) (X:NF),TT A p b m v w X j->WC X->aP X=true->TT A p b m v w (eQ A k X) (j+k)/\WC (eQ A k X)/\aP (eQ A k X)=true/\(∀a,k=a+1->TPn p b m v w (eQ A k X) (j+a))
 | 0,j,X,h,d,c=>⟨h,d,c,λa e=>by omega⟩
 | k+1,j,X,h,d,c=>by
   have o:=h.copy n i q l f.1 g d.1 c;have y:=f.then d;have r:=eP f.1 g c;obtain⟨x,u,t,s⟩:=SY n f g i q l k (j+1) _ (o.tt (A:=A)) y r;refine⟨by rw[show j+(k+1)=j+1+k by omega];exact x,u,t,λa e=>?_⟩;obtain rfl:a=k:=by omega
   cases a with
   | zero=>exact o
   | succ a=>have:=s a rfl;rw[show j+(a+1)=j+1+a by omega];exact this
def Tw.pt0{c:Nat} {C E e:Nat->Nat}(h:Tw p b m Z N 0 c x y t C E e)(z:t+11<=N*p*(524+10*(m+b)))(a:gF Z=true)(j:1<=p)(k:2<=N)(g:N<=10)(l:N*p<=40)(r:m+b<=43)
 (q:x+N<=M) (o:y+c+1<=M) (u:2*M<=w*(N*N+N-2)):Pt Z (N*p) b m w (t+1) C E e:=by
 have d:=h.pt a j k g l r q o u;have s:=afh j k l;have v:∀n,L1 (N*p) b n=n+1:=λn=>by unfold L1;rw[a0n (by omega)]
 have f:jK Z=false:=by cases Z<;>simp[gF]at a;rfl
 refine⟨d.kp,by omega,λn=>?_,d.hC,d.hE,d.br⟩;have i:=h.he n;rw[f,v n];simp only[a0A,a0I,Nat.zero_mul,a1Q]at i |-;rw[a0Z,a0Z];rw[a0Z]at i;exact i
def Pt.plus {C E e:Nat->Nat}(h:Pt a p b m w t C E e)(o:WC a)(c:aP a=true)(k:1<=p)(n:2*p<=40)(D:m+1+b<=43) :
 ∃t C E e,Pt (aG a (iH a)) (2*p) b (m+1) (w+2*(m+b)+12) t C E e:=by
 have q:p<=40:=by omega
 obtain⟨tA,u,eA,l⟩:=h.ct (mM c).1;have d:∃g CS j i,Ct (iH a) p b (m+1) (w+2*(m+b)+8) g CS j i:=by
  by_cases r:∃x,a=.star x
  .obtain⟨x,rfl⟩:=r
   exact⟨tA,C,u,eA,l.mono (a0b _) (by omega) (by omega)⟩
  have s:iH a=.star a:=by cases a<;>first | rfl|exact absurd ⟨_,rfl⟩ r|(simp[aP]at c)
  obtain⟨B,H,d⟩:=h.star k q (by omega) (mM c).1;obtain⟨g,j,i,A⟩:=d.ct (by simp);rw[s];exact⟨g,B,j,i,A⟩
 obtain⟨g,CS,j,i,d⟩:=d;have y:=o.star;have f:aP (iH a)=true:=by cases a<;>first | rfl|(simp[aP]at c)
 have z:Ct a p b (m+1) w tA C u eA:=l.mono (a0b _) (by omega) (a0b _);have v:=Tw.copy z d.tw k q (by omega) o.1 c y.1 f;refine⟨_,_,_,_,Tw.pt0 (M:=2*(w+2*(m+b)+12)) v ?_ (Ql o.1 c f) k (by omega) (by omega) n (by omega) ?_ ?_ ?_⟩
 .have G:=l.ht
  have F:=d.ht;show tA+g+3+11<=2*p*(524+10*(m+1+b));have s:2*p*(524+10*(m+1+b))=p*(524+10*(m+b))+10*p+p*(524+10*(m+1+b)):=by grind
  omega
 .omega
 .omega
 omega
theorem ads(a:NF):∀(k:Nat) (t:NF),dG a (k+1) t=iw (aG a (dG a k t)) .one
 | 0,t=>rfl
 | k+1,t=>by show dG a (k+1) (iw (aG a t) .one)=_;rw[ads a k];rfl
def Ct.tt {C E e:Nat->Nat}(h:Ct X p b m v t C E e):TT A p b m v w X 0 :=
 ⟨t,C,E,e,h.tw.mono (by omega) (by omega) (a0b _) (a0b _) (a0b _)⟩
def amY {C E e:Nat->Nat}(h:Pt a p b m w t C E e)(c:aP a=true)(k:1<=p)(j:p<=40)(u:m+b<=43):∃d CS g f,Ct (iH a) p b (m+1) (w+2*(m+b)+8) d CS g f:=by
 by_cases i:∃x,a=.star x
 .obtain⟨x,rfl⟩:=i
  obtain⟨tA,r,eA,n⟩:=h.ct (mM c).1;exact⟨tA,C,r,eA,n.mono (a0b _) (by omega) (by omega)⟩
 have o:iH a=.star a:=by cases a<;>first | rfl|exact absurd ⟨_,rfl⟩ i|(simp[aP]at c)
 obtain⟨s,v,l⟩:=h.star k j (by omega) (mM c).1;obtain⟨d,g,f,q⟩:=l.ct (by simp);rw[o];exact⟨d,s,g,f,q⟩
def KO(b:aP a=true):aP (iH a)=true:=by cases a<;>first | rfl|(simp[aP]at b)
def Pt.aoP {C E e:Nat->Nat}(h:Pt a p b m w t C E e)(d:WC a)(c:aP a=true)(f:1<=p)(lo:Nat)(hi:Option Nat)(S:∀n,hi=some n->lo<=n)(W:2<=times lo hi)(G:times lo hi<=10)(i:times lo hi*p<=40)(hm:m+2+b<=43) :
 ∃t C E e,Pt (kD a lo hi) (times lo hi*p) b (m+3) (w+6*(m+b)+43) t C E e:=by
 have l:p<=40:=a0h (a1q p (by omega)) i;obtain⟨tA,EA,eA,hA⟩:=h.ct (mM c).1;have u:Ct a p b (m+1) w tA C EA eA:=hA.mono (a0b _) (by omega) (a0b _);have fin:∀(v:Nat) (X:NF) (j:Nat),TPn p b (m+1) v w X j->v<=w+2*(m+b)+8->j<=8->(j+2)*p<=40->∃t C E e,Pt X ((j+2)*p) b (m+2) (w+6*(m+b)+41) t C E e:=by intro v X j hT hv hj M;exact hT.pt f hj M (by omega) (by omega) (by split<;>omega)
 cases hi with
 | none=>have L:times lo none=lo+1:=rfl;rw[L]at W G i |-;obtain⟨k,rfl⟩:∃k,lo=k+1:=⟨lo-1,by omega⟩;obtain⟨tS,CS,ES,eS,hS⟩:=amY h c f l (by omega);obtain⟨-,-,-,o⟩:=SY u d c f l (by omega) (k+1) 0 (iH a) (hS.tt (A:=a)) d.star (KO c);have g:=o k rfl;rw[a1n]at g;obtain⟨y,x,B,z,s⟩:=fin _ _ k g (by omega) (by omega) i;exact⟨y,x,B,z,s.mono (a0b _) (by omega) (by omega)⟩
 | some n =>
   have L:times lo (some n)=n:=rfl;have hle:=S n rfl;rw[L]at W G i |-
   by_cases KH:lo=n
   .subst KH
    obtain⟨k,rfl⟩:∃k,lo=k+2:=⟨lo-2,by omega⟩;have I:kD a (k+2) (some (k+2))=eQ a (k+1) a:=by show eQ a (k+2) (dG a (k+2-(k+2)) .one)=_;rw[a2v];show eQ a (k+1) (aG a .one)=_;rw[bF]
    rw[I];obtain⟨-,-,-,o⟩:=SY u d c f l (by omega) (k+1) 0 a (u.tt (A:=a)) d c;have g:=o k rfl;rw[a1n]at g;obtain⟨y,x,B,z,s⟩:=fin _ _ k g (by omega) (by omega) i;exact⟨y,x,B,z,s.mono (a0b _) (by omega) (by omega)⟩
   obtain⟨k,V⟩:∃k,n-lo=k+1:=⟨n-lo-1,by omega⟩;obtain⟨tO,EO,eO,hO⟩:=h.opt d f l (mM c).1 (mM c).2;have Y:WC (iw a .one):=d.or .one;have q:=I4 d c;obtain⟨Z,EO2,eO2,F⟩:=hO.ct (mM q).1;have I:dG a (k+1) .one=dG a k (iw a .one):=by simp[dG,iw,aG,bF]
   cases lo with
   | zero =>
     obtain⟨r,rfl⟩:∃r,k=r+1:=⟨k-1,by omega⟩;have P:kD a 0 (some n)=iw (aG a (dG a r (iw a .one))) .one:=by show dG a (n-0) .one=_;rw[V,I,ads]
     obtain⟨H,o,g⟩:=aaD u d c f l (by omega) r 0 _ (F.tt (A:=a)) Y q;rw[a1n]at H;have s:=H.copy u f l (by omega) d.1 c o.1 g;have D:n=r+2:=by omega
     rw[P,D];rw[D]at i;obtain⟨y,x,B,z,O⟩:=fin _ _ r s (by omega) (by omega) i;have WZ:=d.then o;have U:=eP d.1 c g;obtain⟨J,T,R,N⟩:=O.opt WZ (by have:1*1<=(r+2)*p:=a0D (by omega) f;omega) i (mM U).1 (mM U).2;exact⟨J,x,T,R,N.mono (a0b _) (by omega) (by omega)⟩
   | succ lo =>
     have P:kD a (lo+1) (some n)=eQ a (lo+1) (dG a k (iw a .one)):=by show eQ a (lo+1) (dG a (n-(lo+1)) .one)=_;rw[V,I]
     obtain⟨H,o,g⟩:=aaD u d c f l (by omega) k 0 _ (F.tt (A:=a)) Y q;rw[a1n]at H;obtain⟨-,-,-,s⟩:=SY u d c f l (by omega) (lo+1) k _ H o g;have O:=s lo rfl;have D:n=k+lo+2:=by omega
     rw[P,D];rw[D]at i;obtain⟨y,x,B,z,N⟩:=fin _ _ (k+lo) O (by omega) (by omega) i;exact⟨y,x,B,z,N.mono (a0b _) (by omega) (by omega)⟩
def WW(m b:Nat):Nat:=m*m+22*m+2+8*b
def Ta(a:m<=m')(hb:b<=b'):WW m b<=WW m' b':=by have:=a0D a a;unfold WW;omega
def awd(m b:Nat):WW (m+1) b=WW m b+2*m+23:=by grind [WW]
def awe(m b:Nat):WW (m+3) b=WW m b+6*m+75:=by grind [WW]
def awf(m b:Nat):2*(1+m+b)<=WW m b:=by unfold WW;omega
def EL(X:NF)(P b m:Nat):Prop:=X=.zero\/X=.one\/(aP X=true/\∃p t C E e,1<=p/\p<=P/\Pt X p b m (WW m b) t C E e)
theorem EL.mono(h:EL X P b m)(f:P<=P')(hb:b<=b')(a:m<=m'):EL X P' b' m':=by
 rcases h with h|h|⟨ht,p,t,C,E,e,d,g,c⟩
 .exact .inl h
 .exact .inr (.inl h)
 exact .inr (.inr ⟨ht,p,t,C,E,e,d,by omega,c.mono hb a (Ta a hb)⟩)
def aaE:∀k,eQ .zero k .zero=.zero
 | 0=>rfl
 | k+1=>aaE k
theorem aaF:∀k,dG .zero k .one=.one
 | 0=>rfl
 | k+1=>by
   show dG .zero k (iw (aG .zero .one) .one)=.one;have:iw (aG .zero .one) .one=.one:=by simp[aG,iw,bQ,parts,bN,dF,bf,bits,gU,put,mkS]
   rw[this];exact aaF k
def WT(k:Nat):eQ .zero k .one=.zero\/eQ .zero k .one=.one:=by
 cases k with
 | zero=>exact .inr rfl
 | succ k=>exact .inl (aaE k)
def ajW(lo:Nat)(hi:Option Nat):kD .zero lo hi=.zero\/kD .zero lo hi=.one:=by
 cases hi with
 | none=>exact WT lo
 | some n=>simp only[kD,aaF];exact WT lo
def EL.rep(h:EL X P b m)(c:WC X)(lo:Nat)(hi:Option Nat)(q:∀n,hi=some n->lo<=n)(a:times lo hi<=10)(R:times lo hi*P<=40)(O:P<=40)(L:m+2+b<=43)(hb:b<=5) :
 EL (kD X lo hi) (times lo hi*P) b (m+iV lo hi):=by
 rcases h with rfl|rfl|⟨ht,p,t,C,E,e,d,v,r⟩
 .rcases ajW lo hi with h|h
  .exact .inl h
  exact .inr (.inl h)
 .exact .inr (.inl (acO lo hi))
 have g:times lo hi*p<=times lo hi*P:=a0o _ v;have J:=vU lo hi;have I:=awd m b;have H:=awe m b
 by_cases i:2<=times lo hi
 .by_cases B:lo=1/\hi=none
  .obtain⟨rfl,rfl⟩:=B
   have l:kD X 1 none=aG X (iH X):=rfl;have w:times 1 none=2:=rfl;have j:iV 1 none=1:=rfl;rw[w]at R g |-;rw[l,j];obtain⟨s,A,f,o,y⟩:=r.plus c ht d (by omega) (by omega);exact .inr (.inr ⟨eP c.1 ht (KO ht),2*p,s,A,f,o,by omega,g,y.mono (a0b _) (a0b _) (by omega)⟩)
  have j:iV lo hi=3:=by
   cases hi with
   | none=>simp only[iV];rw[a0n];simp only[times]at i;intro h;exact B ⟨by omega,rfl⟩
   | some n=>simp only[iV];rw[a0n];simp only[times]at i;omega
  rw[j];obtain⟨s,A,f,o,y⟩:=r.aoP c ht d lo hi q i a (by omega) L;have V:aP (kD X lo hi)=true:=by
   cases hi with
   | none =>
     simp only[times]at i;have:∀k (T:NF),aP T=true->aP (eQ X k T)=true:=by
      intro k
      induction k with
      | zero=>intro T a;exact a
      | succ k u=>intro T a;exact u _ (eP c.1 ht a)
     exact this lo _ (KO ht)
   | some n =>
     have G:∀k (T:NF),aP T=true->aP (eQ X k T)=true:=by
      intro k
      induction k with
      | zero=>intro T a;exact a
      | succ k u=>intro T a;exact u _ (eP c.1 ht a)
     have z:∀k (T:NF),WC T->aP T=true->aP (dG X k T)=true:=by
      intro k
      induction k with
      | zero=>intro T _ a;exact a
      | succ k u=>intro T F a;exact u _ ((c.then F).or .one) (I4 (c.then F) (eP c.1 ht a))
     simp only[times]at i;show aP (eQ X lo (dG X (n-lo) .one))=true;cases W:n-lo with
     | zero=>have:=q n rfl;obtain⟨k,rfl⟩:∃k,lo=k+1:=⟨lo-1,by omega⟩;show aP (eQ X k (aG X .one))=true;rw[bF];exact G k X ht
     | succ k=>refine G lo _ ?_;show aP (dG X k (iw (aG X .one) .one))=true;rw[bF];exact z k _ (c.or .one) (I4 c ht)
  refine .inr (.inr ⟨V,times lo hi*p,s,A,f,o,?_,g,y.mono (a0b _) (a0b _) (by omega)⟩);have:1*1<=times lo hi*p:=a0D (by omega) d;omega
 cases hi with
 | none =>
   simp only[times]at i;obtain rfl:lo=0:=by omega
   have l:kD X 0 none=iH X:=rfl;have w:times 0 none*P=P:=by simp[times]
   have j:iV 0 none=1:=rfl;rw[l,w,j]
   by_cases D:∃x,X=.star x
   .obtain⟨x,rfl⟩:=D
    exact .inr (.inr ⟨ht,p,t,C,E,e,d,v,r.mono (a0b _) (by omega) (by omega)⟩)
   have U:iH X=.star X:=by cases X<;>first | rfl|exact absurd ⟨_,rfl⟩ D|(simp[aP]at ht)
   obtain⟨f,o,N⟩:=r.star d (by omega) (by omega) (mM ht).1;rw[U];exact .inr (.inr ⟨rfl,p,t+4,f,f,o,d,v,N.mono (a0b _) (a0b _) (by omega)⟩)
 | some n =>
   simp only[times]at i;have M:=q n rfl;rcases(show n=0\/n=1 by omega) with rfl|rfl
   .obtain rfl:lo=0:=by omega
    exact .inr (.inl rfl)
   have w:times lo (some 1)*P=P:=by simp[times]
   rw[w];rcases(show lo=0\/lo=1 by omega) with rfl|rfl
   .have l:kD X 0 (some 1)=iw X .one:=by show iw (aG X .one) .one=_;rw[bF]
    have j:iV 0 (some 1)=1:=rfl;rw[l,j];obtain⟨s,f,o,S⟩:=r.opt c d (by omega) (mM ht).1 (mM ht).2;exact .inr (.inr ⟨I4 c ht,p,s,C,f,o,d,v,S.mono (a0b _) (a0b _) (by omega)⟩)
   have l:kD X 1 (some 1)=X:=by show aG X .one=X;exact bF X
   rw[l];exact .inr (.inr ⟨ht,p,t,C,E,e,d,v,r.mono (a0b _) (by omega) (Ta (by omega) (a0b _))⟩)
def CL(X:NF)(P b m:Nat):Prop:=X=.zero\/X=.one\/(aP X=true/\∃p,1<=p/\p<=P/\((∃t C E e,Pt X p b m (WW m b) t C E e)\/(gF X=true/\∃t C E e,Ct X p b m (WW m b) t C E e)))
theorem CL.mono(h:CL X P b m)(g:P<=P')(hb:b<=b')(c:m<=m'):CL X P' b' m':=by
 rcases h with h|h|⟨ht,p,f,i,a⟩
 .exact .inl h
 .exact .inr (.inl h)
 refine .inr (.inr ⟨ht,p,f,by omega,?_⟩);rcases a with⟨t,C,E,e,a⟩|⟨d,t,C,E,e,a⟩
 .exact .inl ⟨t,C,E,e,a.mono hb c (Ta c hb)⟩
 exact .inr ⟨d,t,C,E,e,a.mono hb c (Ta c hb)⟩
theorem EL.cl(h:EL X P b m):CL X P b m:=by
 rcases h with h|h|⟨ht,p,t,C,E,e,d,c,a⟩
 .exact .inl h
 .exact .inr (.inl h)
 exact .inr (.inr ⟨ht,p,d,c,.inl ⟨t,C,E,e,a⟩⟩)
def CL.cons{B:NF}{Q:Nat}(i:EL A P b m)(a:CL B Q b m)(j:WC A)(WB:WC B)(v:P+Q<=40)(u:m+b<=44):CL (aG A B) (P+Q) b m:=by
 rcases i with rfl|rfl|⟨c,p,t,C,E,e,o,x,n⟩
 .exact .inl rfl
 .exact a.mono (by omega) (a0b _) (a0b _)
 rcases a with rfl|rfl|⟨tb,q,w,y,d⟩
 .exact .inl (fJ A)
 .rw[bF]
  exact .inr (.inr ⟨c,p,o,by omega,.inl ⟨t,C,E,e,n⟩⟩)
 obtain⟨tA,z,eA,i⟩:=n.ct (mM c).1;have a:∃f CB h g,Ct B q b m (WW m b) f CB h g:=by
  rcases d with⟨l,k,s,r,d⟩|⟨_,l,k,s,r,d⟩
  .obtain⟨f,h,g,a⟩:=d.ct (mM tb).1
   exact⟨f,k,h,g,a⟩
  exact⟨l,k,s,r,d⟩
 obtain⟨f,CB,h,g,a⟩:=a;have:=i.cons a o w (by omega) u (awf m b) j.1 c WB.1 tb;exact .inr (.inr ⟨eP j.1 c tb,p+q,by omega,by omega,.inr ⟨Ql j.1 c tb,_,_,_,_,this⟩⟩)
def CL.gt(h:CL X P b m)(i:P<=40)(g:m+b<=44)(ht:aP X=true):∃p t C E e,1<=p/\p<=P/\Gt X p b m (WW m b+2) t C E e/\t+7<=p*(524+10*(m+b)):=by
 rcases h with rfl|rfl|⟨_,p,c,d,a⟩
 .simp[aP]at ht
 .simp[aP]at ht
 rcases a with⟨t,C,E,e,a⟩|⟨f,t,C,E,e,a⟩
 .exact⟨p,t,C,E,e,c,d,(a.mono (a0b _) (a0b _) (by omega:WW m b<=WW m b+2)).gt,by have:=a.ht;omega⟩
 exact⟨p,t+1,C,E,e,c,d,a.gt c (by omega) g f,by have:=a.ht;omega⟩
def amZ {xs:List NF}(g:∀x∈xs,WC x)(e:a∈xs)(ht:aP a=true):aP (bQ xs)=true:=by
 have f:∀x∈xs,wf x:=λx n=>(g x n).1
 obtain⟨p,i,m⟩:=aaC (g a e) ht;have o:∃q∈parts (bQ xs),q≠.one:=by
  have k:p∈xs.flatMap parts:=a1l.2 ⟨a,e,i⟩;cases h:dF p
  .refine⟨p,?_,m⟩
   rw[rD f];unfold bN;exact a1B _ (List.mem_filter.2 ⟨k,by simp[h]⟩)
  have b:=wK (f a e) i;have hb:bf (xs.flatMap parts)≠0:=by
   have:=Vk k;cases p<;>simp[dF]at h
   rename_i s
   have t:0<s:=b.1;simp only[bits]at this;omega
  refine⟨.set (bf (xs.flatMap parts)),?_,by simp⟩;rw[rD f];unfold bN;rw[a0n hb];simp
 obtain⟨q,hq,r⟩:=o;cases j:bQ xs with
 | zero=>rw[j]at hq;simp[parts]at hq
 | one=>rw[j]at hq;simp[parts]at hq;exact absurd hq r
 | set s=>rfl
 | pair c d=>rfl
 | star c=>rfl
 | sum l=>rfl
theorem adt:∀l:List RX,iO l=(l.map mh).sum
 | []=>rfl
 | x::r=>by simp only[iO,a0E,a0Y,adt r]
def WU(f:α->Nat)(q:α->Bool):∀l:List α,((l.filter q).map f).sum<=(l.map f).sum
 | []=>by simp
 | x::r=>by
   have:=WU f q r;rw[List.filter_cons]
   split
   .grind
   grind
theorem Yo(h:¬ aP a=true):∀p,p∈parts a->p=.one:=by grind [fQ,parts]
def alv {l:List RX}(s:∀x∈l,WC (bn x))(h:∀x∈l,CL (bn x) (mh x) b m)(M:iO l<=40)(S:m+b<=44) :
 bQ (iP l)=.zero\/bQ (iP l)=.one\/(aP (bQ (iP l))=true/\∃p t C E e,1<=p/\p<=iO l/\Gt (bQ (iP l)) p b m (WW m b+4) t C E e):=by
 rw[uB];rw[adt]at M |-;have d:∀x∈l.map bn,wf x:=λx c=>by obtain⟨a,k,rfl⟩:=a0q.1 c;exact(s a k).1
 have y:∀x∈l.map bn,WC x:=λx c=>by obtain⟨a,k,rfl⟩:=a0q.1 c;exact s a k
 let l':List RX:=l.filter λx=>aP (bn x)
 have g:∀x∈l',x∈l/\aP (bn x)=true:=λx c=>by simpa[l'] using List.mem_filter.1 c
 have I:∀x∈l,mh x<=40:=λx c=>by obtain⟨A,B,rfl⟩:=a2Q c;simp at M;omega
 have P:(∃x∈l,bn x=.one)\/¬ ∃x∈l,bn x=.one:=Classical.em _;have o:∀p,p∈(l.map bn).flatMap parts↔p∈(l'.map bn).flatMap parts\/(p=.one/\∃x∈l,bn x=.one):=by grind [aP,bn,Yo,fQ,parts]
 by_cases r:l'=[]
 .rcases P with ho|ho
  .right;left
   have:bQ (l.map bn)=bQ [.one]:=vT d (by intro x c;simp at c;subst c;trivial) (λp=>by rw[o p,r];simp[parts];intro _;exact ho)
   rw[this];simp[bQ,parts,bN,dF,bf,bits,gU,put,mkS]
  left
  have:bQ (l.map bn)=bQ []:=vT d (by simp) (λp=>by rw[o p,r];simp;intro _ x c e;exact ho ⟨x,c,e⟩)
  rw[this];rfl
 right;right
 have hd:∀a:{x // x∈l'},∃p t C E e,1<=p/\p<=mh a.1/\Gt (bn a.1) p b m (WW m b+2) t C E e/\t+7<=p*(524+10*(m+b)):=λa=>(h a.1 (g a.1 a.2).1).gt (I a.1 (g a.1 a.2).1) S (g a.1 a.2).2
 let p:{x // x∈l'}->Nat:=λa=>(hd a).choose
 let t:{x // x∈l'}->Nat:=λa=>(hd a).choose_spec.choose
 let C:{x // x∈l'}->Nat->Nat:=λa=>(hd a).choose_spec.choose_spec.choose
 let E:{x // x∈l'}->Nat->Nat:=λa=>(hd a).choose_spec.choose_spec.choose_spec.choose
 let e:{x // x∈l'}->Nat->Nat:=λa=>(hd a).choose_spec.choose_spec.choose_spec.choose_spec.choose
 have j:∀a,1<=p a/\p a<=mh a.1/\Gt (bn a.1) (p a) b m (WW m b+2) (t a) (C a) (E a) (e a)/\t a+7<=p a*(524+10*(m+b)):=λa=>(hd a).choose_spec.choose_spec.choose_spec.choose_spec.choose_spec
 have H:l'.attach.map (λa=>bn a.1)=l'.map bn:=by simp
 have L:(l'.attach.map (λa=>mh a.1)).sum=(l'.map mh).sum:=by congr 1;simp
 have N:(l'.attach.map p).sum<=(l.map mh).sum:=by refine a0h (aaA p (λa=>mh a.1) _ λa _=>(j a).2.1) ?_;rw[L];exact WU mh _ l
 have O:l'.attach≠[]:=by simpa using r
 have hG:=Gt.bQ (l:=l'.attach) (F:=λa=>bn a.1) (p:=p) (t:=t) (C:=C) (E:=E) (e:=e) O (λa _=>(s a.1 (g a.1 a.2).1).1) (λa _=>(j a).1) (by omega) (λa _=>(j a).2.2.1) (λa _=>(j a).2.2.2);rw[H]at hG;obtain⟨u,R⟩:=List.exists_mem_of_ne_nil l' r;have J:aP (bQ (l.map bn))=true:=amZ y (a0q.2 ⟨u,(g u R).1,rfl⟩) (g u R).2;have v:1<=(l'.attach.map p).sum:=by obtain⟨T,U⟩:=List.exists_mem_of_ne_nil _ O;obtain⟨A,B,z⟩:=a2Q U;have:=(j T).1;rw[z];simp;omega
 have f:∀x∈l'.map bn,wf x:=λx c=>by obtain⟨a,k,rfl⟩:=a0q.1 c;exact(s a (g a k).1).1
 refine⟨J,?_⟩;rcases P with ho|ho
 .have G:bQ (l.map bn)=iw (bQ (l'.map bn)) .one:=by
   unfold iw;rw[Ri f (by intro x c;simp at c;subst c;trivial)];refine vT d (by intro x c;rcases a0e.1 c with c|c;exact f x c;simp at c;subst c;trivial) (λq=>?_);rw[o q];simp only[List.flatMap_append,a0e,a1i,a2E,a0R,parts,a0w]
   constructor
   .simp_all
   simp_all
  rw[G];have i:=hG.1.one (Ms f) hG.2 v (by omega);exact⟨_,_,_,_,_,v,N,i⟩
 have G:bQ (l.map bn)=bQ (l'.map bn):=vT d f (λq=>by
  rw[o q]
  constructor
  .rintro(D|⟨_,D⟩)
   .exact D
   exact absurd D ho
  exact .inl)
 rw[G];have i:=hG.1;refine⟨_,_,_,_,_,v,N,⟨i.kp,i.ht,i.he,λn w=>a0h (i.hC n w) (vD (by omega)),λn w=>a0h (i.hE n w) (vD (by omega))⟩⟩
mutual
def mm:RX->Nat
 | .one _=>0
 | .seq l=>yT l
 | .alt l=>yT l
 | .rep x lo hi=>mm x+iV lo hi
def yT:List RX->Nat
 | []=>0
 | x::r=>max (mm x) (yT r)
end
mutual
def bE:RX->Nat
 | .one _=>0
 | .seq l=>Qn l+1
 | .alt l=>xQ l+1
 | .rep x _ _=>bE x
def Qn:List RX->Nat
 | []=>0
 | x::r=>max (bE x) (Qn r)
def bC:RX->Nat
 | .one _=>0
 | .seq l=>Qn l
 | .alt l=>xQ l+1
 | .rep x _ _=>bE x
def xQ:List RX->Nat
 | []=>0
 | x::r=>max (bC x) (xQ r)
end
mutual
def sm:RX->Prop
 | .one _=>True
 | .seq l=>iO l<=40/\smL l
 | .alt l=>iO l<=40/\smL l
 | .rep x lo hi=>mh x*times lo hi<=40/\times lo hi<=10/\mh x<=40/\sm x
def smL:List RX->Prop
 | []=>True
 | x::r=>sm x/\smL r
end
mutual
theorem ahf:∀(e:RX),tL e->sm e->(∀b m,bE e<=b->mm e<=m->b<=5->m+2+b<=43->EL (bn e) (mh e) b m)/\(∀b m,bC e<=b->mm e<=m->b<=5->m+2+b<=43->CL (bn e) (mh e) b m)
 | .one s,ho,f=>by
   have h:∀b m,EL (bn (.one s)) (mh (.one s)) b m:=by
    intro b m;simp only[bn,mh]
    split
    .exact .inl rfl
    exact .inr (.inr ⟨rfl,1,514,_,_,_,by omega,by omega,(Pt.set s).mono (a1G _) (a1G _) (by unfold WW;omega)⟩)
   exact⟨λb m _ _ _ _=>h b m,λb m _ _ _ _=>(h b m).cl⟩
 | .seq l,ho,f=>by
   have k:=(MV l ho f.2).1;have g:iO l<=40:=f.1;refine⟨λb m hb a c d=>?_,λb m hb a c d=>k b m g hb a c d⟩;simp only[bE]at hb;obtain⟨b',rfl⟩:∃b',b=b'+1:=⟨b-1,by omega⟩;have h:=k b' m g (by omega) a (by omega) (by omega);show EL (sJ l) (iO l) (b'+1) m
   by_cases ht:aP (sJ l)=true
   .obtain⟨p,t,C,E,e,j,i,o,_⟩:=h.gt g (by omega) ht
    exact .inr (.inr ⟨ht,p,t,C,E,e,j,i,(o.shut j (by omega)).mono (a0b _) (a0b _) (by unfold WW;omega)⟩)
   rcases fQ ht with e|e
   .exact .inl e
   exact .inr (.inl e)
 | .alt l,ho,f=>by
   have k:=(MV l ho.1 f.2).2;have g:iO l<=40:=f.1;have q:∀x∈l,WC (bn x):=λx n=>E8 ho.1 (bn x) (by rw[uB];exact a0q.2 ⟨x,n,rfl⟩)
   have key:∀b m,xQ l+1<=b->yT l<=m->b<=5->m+2+b<=43->EL (bQ (iP l)) (iO l) b m:=by
    intro b m hb a c d;obtain⟨b',rfl⟩:∃b',b=b'+1:=⟨b-1,by omega⟩;have h:=k b' m (by omega) a (by omega) (by omega);rcases alv q h g (by omega) with e|e|⟨ht,p,t,C,E,e,j,i,o⟩
    .exact .inl e
    .exact .inr (.inl e)
    exact .inr (.inr ⟨ht,p,t,C,E,e,j,i,(o.shut j (by omega)).mono (a0b _) (a0b _) (by unfold WW;omega)⟩)
   exact⟨λb m hb a c d=>key b m hb a c d,λb m hb a c d=>(key b m hb a c d).cl⟩
 | .rep x lo hi,ho,f=>by
   have n:=(ahf x ho.1 f.2.2.2).1;have key:∀b m,bE x<=b->mm x+iV lo hi<=m->b<=5->m+2+b<=43->EL (kD (bn x) lo hi) (mh x*times lo hi) b m:=by intro b m hb a c d;have h:=n b (m-iV lo hi) hb (by omega) c (by omega);have i:=h.rep (uC ho.1) lo hi ho.2 f.2.1 (by rw[a1b];exact f.1) f.2.2.1 (by omega) c;rw[a1b];exact i.mono (a0b _) (a0b _) (by omega)
   exact⟨λb m hb a c d=>key b m hb a c d,λb m hb a c d=>(key b m hb a c d).cl⟩
theorem MV:∀(l:List RX),jm l->smL l->(∀b m,iO l<=40->Qn l<=b->yT l<=m->b<=5->m+2+b<=43->CL (sJ l) (iO l) b m)/\(∀b m,xQ l<=b->yT l<=m->b<=5->m+2+b<=43->∀x∈l,CL (bn x) (mh x) b m)
 | [],_,_=>⟨λb m _ _ _ _ _=>.inr (.inl rfl),λb m _ _ _ _ x c=>by simp at c⟩
 | y::r,ho,g=>by
   have j:=ahf y ho.1 g.1;have i:=MV r ho.2 g.2;refine⟨λb m h hb f d a=>?_,λb m hb f d a x c=>?_⟩
   .simp only[Qn]at hb
    simp only[yT]at f;simp only[iO]at h;exact CL.cons (j.1 b m (by omega) (by omega) d a) (i.1 b m (by omega) (by omega) (by omega) d a) (uC ho.1) (Zz ho.2) h (by omega)
   simp only[xQ]at hb;simp only[yT]at f;rcases a0l.1 c with e|c
   .rw[e];exact j.2 b m (by omega) (by omega) d a
   exact i.2 b m (by omega) (by omega) d a x c
end
def KP.all {C E e:Nat->Nat}(h:KP X t C E e)(n:Nat):oG X 0+hG X 0 n<=C n:=by
 have d:=h.c n;cases X with
 | zero=>simp[oG,hG]
 | one=>simp[oG,hG]
 | set s=>have:=U4 0 n (.set s);simp[parts]at d;omega
 | pair a b=>have:=U4 0 n (.pair a b);simp[parts]at d;omega
 | star a=>have:=U4 0 n (.star a);simp[parts]at d;omega
 | sum l=>have:=ae7 0 n l;simp only[parts]at d;simp only[oG,hG,a0G];omega
def asb(h:p<=40):lg p<=5/\dS p<=72*2 ^ lg p/\(lg p=5->dS p<=63*2 ^ lg p):=by
 have:((List.range 41).all λp=>decide (lg p<=5/\dS p<=72*2 ^ lg p/\(lg p=5->dS p<=63*2 ^ lg p)))=true:=by decide +kernel
 have a:=a1d.1 this p (by simp;omega);exact a2q a
theorem awj:hh 9 40=7271678484:=by decide +kernel
def asc(h:p<=40)(hb:b<=5):dS p*hh (b+lg p) 40<=63*47573905428*2 ^ lg p:=by
 obtain⟨f,e,d⟩:=asb h
 by_cases c:lg p=5
 .have a:hh (b+lg p) 40<=47573905428:=by rw[<-auM];exact aff (by omega) (by omega)
  calc dS p*hh (b+lg p) 40<=63*2 ^ lg p*47573905428:=a0D (d c) a
   _=63*47573905428*2 ^ lg p:=by rw[Nat.mul_right_comm]
 have a:hh (b+lg p) 40<=7271678484:=by rw[<-awj];exact aff (by omega) (by omega)
 calc dS p*hh (b+lg p) 40<=72*2 ^ lg p*7271678484:=a0D e a
  _=72*7271678484*2 ^ lg p:=by rw[Nat.mul_right_comm]
  _<=63*47573905428*2 ^ lg p:=a0z _ (by omega)
theorem ahg {l:List RX}(ho:tL (.alt l))(c:sm (.alt l))(hb:xQ l<=5)(r:yT l+2*xQ l<=40)(w:LN)(h:w.length<=40):nl (dW (bn (.alt l)) w)<9223372036854775807:=by
 have d:=uC ho;have q:=auu _ d.1 d.2 w 40 h;refine a2i q ?_;have k:=(MV l ho.1 c.2).2 (xQ l) (yT l) (a0b _) (a0b _) hb (by omega);have j:∀x∈l,WC (bn x):=λx g=>E8 ho.1 (bn x) (by rw[uB];exact a0q.2 ⟨x,g,rfl⟩)
 have i:iO l<=40:=c.1;unfold nB;show 518+oG (bQ (iP l)) 0+hG (bQ (iP l)) 0 40<_;rcases alv j k i (by omega) with e|e|⟨_,p,t,C,E,e,y,v,f⟩
 .rw[e];simp[oG,hG]
 .rw[e];simp[oG,hG]
 have u:=f.kp.all 40;have o:=f.hC 40 (by omega);have n:=asc (p:=p) (b:=xQ l) (by omega) hb;have a:WW (yT l) (xQ l)+4<=2526:=by have:=a0D (show yT l<=40 by omega) (show yT l<=40 by omega);unfold WW;omega
 have m:C 40*2 ^ lg p<=964*2526*63*47573905428*2 ^ lg p:=by
  refine a0h o ?_;unfold Rb
  calc 964*(WW (yT l) (xQ l)+4)*dS p*hh (xQ l+lg p) 40=964*(WW (yT l) (xQ l)+4)*(dS p*hh (xQ l+lg p) 40):=a0Z _ _ _
   _<=964*2526*(63*47573905428*2 ^ lg p):=a0D (a0o _ a) n
   _=964*2526*63*47573905428*2 ^ lg p:=by simp only[a0Z]
 have s:C 40<=964*2526*63*47573905428:=Nat.le_of_mul_le_mul_right m (a2S _);omega
def BS(s i:Nat):Bool:=s.testBit i != s.testBit (i+1)
def cp(s:Nat):Nat:=(List.range 255).countP (BS s)
def Dk(S:LN):Nat:=(S.map cp).sum
theorem abz(a b:LN):Dk (a++b)=Dk a+Dk b:=by simp[Dk]
theorem ahh:cp 0=0:=by decide +kernel
theorem ai9:cp fU=0:=by decide +kernel
def aiH(c:UInt8):cp (2 ^ c.toNat)<=2:=by
 have:∀n,n<256->cp (2 ^ n)<=2:=by decide +kernel
 exact this c.toNat c.toNat_lt
theorem Iw(s f:Nat):∀k i,(vg s f k).testBit i=(s.testBit i||(decide (f<=i)&&decide (i<f+k)))
 | 0,i=>by grind [vg]
 | k+1,i=>by
   rw[vg,a2D,Iw s f k i,a2I];rw[a0T];simp only[a1a,a0O,a0U]
   constructor
   .grind
   grind
def aaG {p q r:Nat->Bool}(l:LN)(h:∀x∈l,p x=true->q x=true\/r x=true):l.countP p<=l.countP q+l.countP r:=by
 induction l with
 | nil=>simp
 | cons a l b =>
   have b:=b (λx c=>h x (by simp[c]));rw[a2G,a2G,a2G];cases d:p a
   .simp;omega
   grind
def count_eq(n k:Nat):(List.range n).countP (λi=>decide (i=k))<=1:=by
 induction n with
 | zero=>simp
 | succ n a =>
   rw[List.range_succ,List.countP_append]
   by_cases h:n=k
   .grind [List.range,List.countP_eq_zero]
   grind
def am0(s:Nat)(a b:UInt8):cp (addRange s a b)<=cp s+2:=by
 unfold cp;have h:=aaG (p:=BS (addRange s a b)) (q:=BS s) (r:=λi=>decide (i+1=a.toNat)||decide (i=b.toNat)) (List.range 255) (by
  intro i _ hi;unfold BS addRange at hi;rw[Iw,Iw]at hi;cases c:BS s i
  .grind [BS]
  exact .inl rfl)
 have f:=aaG (p:=λi=>decide (i+1=a.toNat)||decide (i=b.toNat)) (q:=λi=>decide (i=a.toNat-1)) (r:=λi=>decide (i=b.toNat)) (List.range 255) (by intro i _ hi;simp only[a1a,a0U]at hi |-;omega)
 have e:=count_eq 255 (a.toNat-1);have d:=count_eq 255 b.toNat;omega
theorem ase(s:Nat):cp (s ^^^ fU)=cp s:=by
 unfold cp;refine List.countP_congr (λi hi=>?_);have hi:=a2b.1 hi;have f:∀j,j<256->fU.testBit j=true:=by decide +kernel
 unfold BS;rw[a2o,a2o,f i (by omega),f (i+1) (by omega)];cases s.testBit i<;>cases s.testBit (i+1)<;>simp
def Qo:∀{k st:Nat} {t r:LB} {c:Nat},fE k st t=some (c,r)->cp c+2*r.length<=cp st+2*t.length
 | 0,st,t,r,c,h=>by cases h
 | k+1,st,t,r,c,h=>by
   unfold fE at h
   split at h
   .cases h
   rename_i a b q hi
   have e:=BZ hi;have d:=am0 st a b
   split at h
   .grind
   have:=Qo h;omega
def ajX {t r:LB} {s:Nat}(h:nT t=some (s,r)):cp s+2*r.length<=2*t.length:=by
 unfold nT at h
 split at h
 .rename_i a
  have c:=jg a
  split at h
  .cases h
  rename_i s1 q b
  have:=Qo b;simp at h;obtain⟨rfl,rfl⟩:=h;rw[ase];rw[ahh]at this;omega
 have:=Qo h;rw[ahh]at this;omega
mutual
theorem aiK:∀{k nest:Nat} {t r:LB} {x:RX},ik k nest t=some (x,r)->Dk (dB x)+2*r.length<=2*t.length
 | 0,nest,t,r,x,h=>by simp[ik]at h
 | k+1,nest,[],r,x,h=>by simp[ik]at h
 | k+1,nest,c::q,r,x,h=>by
   simp only[ik]at h
   split at h
   .split at h
    .simp at h
    split at h
    .simp at h
    rename_i g b a
    have e:=abA (acc:=[]) a
    split at h
    .rename_i f
     have j:=jg f;simp at h;obtain⟨rfl,rfl⟩:=h;simp[gB,Dk]at e |-;omega
    simp at h
   split at h
   .split at h
    .simp at h
    rename_i s b a
    have e:=ajX a;simp at h;obtain⟨rfl,rfl⟩:=h;simp[dB,Dk];omega
   split at h
   .simp at h
    obtain⟨rfl,rfl⟩:=h;simp[dB,Dk,ai9];omega
   split at h
   .cases q with
    | nil=>simp at h
    | cons d i=>simp at h;obtain⟨rfl,rfl⟩:=h;have:=aiH d;simp[dB,Dk];omega
   split at h
   .simp at h
   simp at h;obtain⟨rfl,rfl⟩:=h;have:=aiH c;simp[dB,Dk];omega
theorem aeP:∀{k nest:Nat} {acc:List RX} {t r:LB} {x:RX},jF k nest acc t=some (x,r)->Dk (dB x)+2*r.length<=Dk (gB acc)+2*t.length
 | 0,nest,acc,t,r,x,h=>by simp[jF]at h
 | k+1,nest,acc,t,r,x,h=>by
   simp only[jF]at h
   split at h
   .simp at h
    obtain⟨rfl,rfl⟩:=h;exact a0b _
   split at h
   .simp at h
   rename_i e g b
   have i:=aiK b
   split at h
   .simp at h
   rename_i y f a
   have d:=xJ a;have c:=aeP (acc:=acc++[y]) h;rw[yK,Ce,d.1,abz]at c;omega
theorem abA:∀{k nest:Nat} {acc:List RX} {t r:LB} {x:RX},iQ k nest acc t=some (x,r)->Dk (dB x)+2*r.length<=Dk (gB acc)+2*t.length
 | 0,nest,acc,t,r,x,h=>by simp[iQ]at h
 | k+1,nest,acc,t,r,x,h=>by
   simp only[iQ]at h
   split at h
   .simp at h
   rename_i a g c
   have e:=aeP (acc:=[]) c;have f:Dk (gB [])=0:=by simp[gB,Dk]
   rw[f,a1n]at e
   split at h
   .rename_i b
    have i:=jg b;have d:=abA (acc:=acc++[a]) h;rw[yK,Ce,abz]at d;omega
   simp at h;obtain⟨rfl,rfl⟩:=h;simp only[dB,yK,Ce,abz];omega
end
def ah3 {t:LB} {e:RX}(h:fF t=some e):Dk (dB e)<=2*t.length:=by
 unfold fF at h
 split at h
 .rename_i x a
  cases h
  have:=abA a;simp[gB,Dk]at this |-;exact this
 cases h
theorem MW:∀(l:List RX) (y:RX),yT (l++[y])=max (yT l) (mm y)
 | [],y=>by simp[yT]
 | x::r,y=>by simp only[a0L,yT,MW r y];omega
theorem Vl:∀(l:List RX) (y:RX),Qn (l++[y])=max (Qn l) (bE y)
 | [],y=>by simp[Qn]
 | x::r,y=>by simp only[a0L,Qn,Vl r y];omega
theorem FZ:∀(l:List RX) (y:RX),xQ (l++[y])=max (xQ l) (bC y)
 | [],y=>by simp[xQ]
 | x::r,y=>by simp only[a0L,xQ,FZ r y];omega
def aaH:∀{k:Nat} {x y:RX} {t r:LB},dQ k x t=some (y,r)->bE y=bE x/\mm y+r.length<=mm x+t.length
 | 0,x,y,t,r,h=>by simp[dQ]at h
 | k+1,x,y,t,r,h=>by
   simp only[dQ]at h
   split at h
   .split at h
    .simp at h
    rename_i b e c
    have f:=E9 c;obtain⟨a,d⟩:=aaH h;simp only[bE,mm]at a d;exact⟨a,by omega⟩
   simp at h;obtain⟨rfl,rfl⟩:=h;exact⟨rfl,a0b _⟩
mutual
theorem am1:∀{k nest:Nat} {t r:LB} {x:RX},nest<=5->ik k nest t=some (x,r)->bE x+nest<=5/\mm x+2*bE x+r.length<=t.length
 | 0,nest,t,r,x,b,h=>by simp[ik]at h
 | k+1,nest,[],r,x,b,h=>by simp[ik]at h
 | k+1,nest,c::q,r,x,b,h=>by
   simp only[ik]at h
   split at h
   .split at h
    .simp at h
    rename_i n
    split at h
    .simp at h
    rename_i o f a
    obtain⟨l,m,j,i⟩:=aaI (acc:=[]) (by omega) (by simp[xQ];omega) a
    split at h
    .rename_i g
     have u:=jg g;simp at h;obtain⟨rfl,rfl⟩:=h;subst m;simp[bE,mm,xQ,yT]at j i |-;omega
    simp at h
   split at h
   .split at h
    .simp at h
    rename_i s f a
    have e:=ajX a;simp at h;obtain⟨rfl,rfl⟩:=h;simp[bE,mm];omega
   split at h
   .simp at h
    obtain⟨rfl,rfl⟩:=h;simp[bE,mm];omega
   split at h
   .cases q with
    | nil=>simp at h
    | cons d p=>simp at h;obtain⟨rfl,rfl⟩:=h;simp[bE,mm];omega
   split at h
   .simp at h
   simp at h;obtain⟨rfl,rfl⟩:=h;simp[bE,mm];omega
theorem ahi:∀{k nest:Nat} {acc:List RX} {t r:LB} {x:RX},nest<=5->Qn acc+nest<=5->jF k nest acc t=some (x,r)->∃l,x=.seq l/\Qn l+nest<=5/\yT l+2*Qn l+r.length<=yT acc+2*Qn acc+t.length
 | 0,nest,acc,t,r,x,a,b,h=>by simp[jF]at h
 | k+1,nest,acc,t,r,x,a,b,h=>by
   simp only[jF]at h
   split at h
   .grind
   split at h
   .simp at h
   rename_i i m d
   obtain⟨q,p⟩:=am1 a d
   split at h
   .simp at h
   rename_i y j c
   obtain⟨o,n⟩:=aaH c;obtain⟨l,g,f,e⟩:=ahi a (by rw[Vl];omega) h;rw[MW,Vl]at e;exact⟨l,g,f,by omega⟩
theorem aaI:∀{k nest:Nat} {acc:List RX} {t r:LB} {x:RX},nest<=5->xQ acc+nest<=5->iQ k nest acc t=some (x,r)->∃l,x=.alt l/\xQ l+nest<=5/\yT l+2*xQ l+r.length<=yT acc+2*xQ acc+t.length
 | 0,nest,acc,t,r,x,a,e,h=>by simp[iQ]at h
 | k+1,nest,acc,t,r,x,a,e,h=>by
   simp only[iQ]at h
   split at h
   .simp at h
   rename_i n o f
   obtain⟨c,m,q,j⟩:=ahi (acc:=[]) a (by simp[Qn];omega) f;subst m;simp only[yT,Qn]at j
   split at h
   .rename_i d
    have p:=jg d;obtain⟨l,i,g,b⟩:=aaI a (by rw[FZ];simp only[bC];omega) h;rw[MW,FZ]at b;simp only[bC,mm]at b;exact⟨l,i,g,by omega⟩
   simp at h;obtain⟨rfl,rfl⟩:=h;refine⟨acc++[.seq c],rfl,?_,?_⟩
   .rw[FZ];simp only[bC];omega
   rw[MW,FZ];simp only[bC,mm];omega
end
theorem ajY {t:LB} {e:RX}(h:fF t=some e):∃l,e=.alt l/\xQ l<=5/\yT l+2*xQ l<=t.length:=by
 unfold fF at h
 split at h
 .rename_i y a
  obtain⟨l,c,d,b⟩:=aaI (acc:=[]) (a1G _) (by simp[xQ]) a;simp at h;subst h;simp[xQ,yT]at b;exact⟨l,c,by omega,by omega⟩
 simp at h
mutual
theorem ajZ:∀(e:RX),uO e->dI e<=40->sm e
 | .one _,_,_=>trivial
 | .seq l,hd,h=>by simp only[dI]at h;exact⟨by rw[Cf h];exact h,afi l hd h⟩
 | .alt l,hd,h=>by simp only[dI]at h;exact⟨by rw[Cf h];exact h,afi l hd h⟩
 | .rep x lo hi,hd,h=>by
   simp only[dI]at h
   split at h
   .omega
   rename_i c
   have a:dI x<=40:=by omega
   have b:=rZ a;refine⟨by rw[b];exact h,ac0 hd.2.1 hd.2.2,by rw[b];exact a,ajZ x hd.1 a⟩
theorem afi:∀(l:List RX),mZ l->bV l<=40->smL l
 | [],_,_=>trivial
 | x::r,hd,h=>by simp only[bV]at h;exact⟨ajZ x hd.1 (by omega),afi r hd.2 (by omega)⟩
end
def ahj {t:LB} {e:RX}(h:fF t=some e)(ht:t.length<=40)(b:dI e<=40)(w:LN)(a:w.length<=40):nl (dW (bn e) w)<9223372036854775807:=by grind [ajY,ahg,mQ,ajZ,zM]
theorem aaJ(a:NF):∀k t,eQ a k (aG a t)=aG a (eQ a k t)
 | 0,t=>rfl
 | k+1,t=>by rw[eQ,aaJ a k (aG a t)];rfl
def Qp(a:NF)(k:Nat)(t:NF):eQ a (k+1) t=aG a (eQ a k t):=aaJ a k t
theorem aaK(a:NF):∀k t,dG a k (iw (aG a t) .one)=iw (aG a (dG a k t)) .one
 | 0,t=>rfl
 | k+1,t=>by rw[dG,aaK a k (iw (aG a t) .one)];rfl
def aaL(a:NF)(k:Nat)(t:NF):dG a (k+1) t=iw (aG a (dG a k t)) .one:=aaK a k t
def yU(a:NF)(lo:Nat):Option Nat->NF
 | none=>iH a
 | some n=>dG a (n-lo) .one
theorem aj0(a:NF)(lo:Nat)(hi:Option Nat):kD a lo hi=eQ a lo (yU a lo hi):=by cases hi<;>rfl
def aj1(U:List NF)(a:NF)(lo:Nat)(hi:Option Nat):Prop :=
 (hi=none->iH a∈U) /\
 (∀n,hi=some n->∀k,k<n-lo->(∀f∈uZ a (dG a k .one),f∈U)/\Ff U [aG a (dG a k .one),.one]) /\
 (∀k,k<lo->∀f∈uZ a (eQ a k (yU a lo hi)),f∈U)
def Qq(U:List NF):List RX->Prop
 | []=>True
 | x::r=>(∀f∈uZ (bn x) (sJ r),f∈U)/\Qq U r
def Qq.get:∀{l:List RX},Qq U l->∀i (hi:i<l.length),∀f∈uZ (bn l[i]) (sJ (l.drop (i+1))),f∈U
 | x::r,h,0,_=>h.1
 | x::r,h,i+1,hi=>by simpa using Qq.get h.2 i (by simpa using hi)
mutual
def aaM(U:List NF):RX->Prop
 | .one s=>s≠0->.set s∈U
 | .seq l=>zi U l/\Qq U l
 | .alt l=>zi U l/\Ff U (iP l)
 | .rep x lo hi=>aaM U x/\aj1 U (bn x) lo hi
def zi(U:List NF):List RX->Prop
 | []=>True
 | x::r=>aaM U x/\zi U r
end
theorem KQ:∀{l:List RX},zi U l↔∀x∈l,aaM U x
 | []=>by simp[zi]
 | x::r=>by simp only[zi,a0l,forall_eq_or_imp,KQ]
def Tc(ls:List NF):List NF:=[.set (bf (ls.flatMap parts)),bQ ls]
def adu(lo:Nat):Option Nat->Nat
 | none=>0
 | some n=>n-lo
def Qr(a:NF)(lo:Nat)(hi:Option Nat):List NF :=
 iH a::((List.range (adu lo hi)).flatMap (λk=>uZ a (dG a k .one)++Tc [aG a (dG a k .one),.one]) ++
  (List.range lo).flatMap λk=>uZ a (eQ a k (yU a lo hi)))
mutual
def Td:RX->List NF
 | .one s=>[.set s]
 | .seq l=>aaN l
 | .alt l=>aaO l++Tc (iP l)
 | .rep x lo hi=>Td x++Qr (bn x) lo hi
def aaO:List RX->List NF
 | []=>[]
 | x::r=>Td x++aaO r
def aaN:List RX->List NF
 | []=>[]
 | x::r=>(Td x++aaN r)++uZ (bn x) (sJ r)
end
def aaP:∀(a b:NF),wf a->(uZ a b).length<=cl a:=by
 intro a;refine NF.ind (P:=λa=>∀b,wf a->(uZ a b).length<=cl a) ?_ a;intro a d b c
 by_cases hb:aP b=true
 .cases a with
  | zero=>simp[uZ]
  | one=>simp[uZ]
  | set s=>rw[nA rfl hb];exact Rn _
  | sum l=>rw[nA rfl hb];exact Rn _
  | star x=>rw[nA rfl hb];exact Rn _
  | pair x y=>have ht:aP (aG y b)=true:=eP c.2.1 c.2.2.2 hb;rw[E5 hb,nA c.2.2.1 ht];have:=d y (by simp[NF.size];omega) b c.2.1;simp[cl,elems]at this |-;omega
 rcases fQ hb with e|e<;>subst e<;>cases a<;>simp[uZ]
def ZO(x:NF):Prop:=∃p t,Et x p t/\p<=40/\t<=100
theorem ZO.wc {x:NF}(h:ZO x):WC x:=by obtain⟨p,t,h,_⟩:=h;exact h.1
theorem ZO.cl {x:NF}(h:ZO x):cl x<=40:=by
 obtain⟨p,t,h,a,ht⟩:=h
 by_cases b:p=0
 .rw[h.2.1 b];decide
 exact a0h ((h.2.2 (by omega)).cp.cl (by omega)) a
theorem ZO.size {x:NF}(h:ZO x):x.size<=8080:=by
 obtain⟨p,t,h,b,ht⟩:=h
 by_cases a:p=0
 .rw[h.2.1 a];decide
 refine a0h (h.2.2 (by omega)).sz ?_;have:2*p*(t+1)<=80*101:=a0D (by omega) (by omega);omega
def aaQ:∀l:List NF,l.length<=bP l
 | []=>a1G _
 | x::r=>by have:=x.size_pos;have:=aaQ r;simp only[bP,a0r];omega
def aj2 {x:NF}(h:x.size<=n):(parts x).length<=n:=a0h (aaQ _) (a0h (Ws x) h)
def ahk{ls:List NF}(a:∀f∈Tc ls,f∈U)(h:∀x∈ls,x.size<=n)(d:ls.length<=1000)(c:n<=1000000):Ff U ls:=by
 refine⟨λ_=>a _ (by simp[Tc]),λ_=>a _ (by simp[Tc]),?_,by omega⟩;have g:=acX (ls:=ls) (n:=n) λx b=>aj2 (h x b)
 have e:ls.length*n<=1000*1000000:=a0D d c;omega
theorem am2(lo:Nat)(hi:Option Nat):iV lo hi<=3:=by cases hi<;>simp only[iV]<;>split<;>omega
def apK{lo:Nat}(c:Et a p t)(ht:1<=p->1<=t)(h:p*n<=40)(b:t<=90) {k:Nat}(d:k<=n-lo):ZO (dG a k .one):=by
 have:=aeY c ht 0 (some k) (by simp);refine⟨_,_,this,?_,?_⟩
 .exact a0h (a0o _ (show times 0 (some k)<=n by simp[times];omega)) h
 grind [am2]
def D4{β:Type}(f:α->List β)(n:Nat):∀l:List α,(∀a∈l,(f a).length<=n)->(l.flatMap f).length<=l.length*n
 | [],_=>by simp
 | a::r,h=>by
   have d:=h a (by simp);have c:=D4 f n r λx b=>h x (by simp[b])
   simp only[a1i,a0p,a0r,a0J,a2T];omega
def am3{b:NF}(c:a.size<=8080)(hb:b.size<=8080):(aG a b).size<=16161:=by have:=EN a b;omega
def asf{lo:Nat}(i:Et a p t)(l:p<=40)(ht:1<=p->1<=t)(h:p*times lo hi<=40)(c:t<=90)(m:∀n,hi=some n->lo<=n)(j:∀f∈Qr a lo hi,f∈U):aj1 U a lo hi:=by
 have hF:ZO a:=⟨p,t,i,l,by omega⟩;refine⟨λ_=>j _ (by simp[Qr]),?_,?_⟩
 .rintro n rfl k g
  have e:∀f∈uZ a (dG a k .one)++Tc [aG a (dG a k .one),.one],f∈U:=λf b=>j f (by unfold Qr;exact a2l _ (a1B _ (a1l.2 ⟨k,a2b.2 g,b⟩)))
  refine⟨λf b=>e f (a1B _ b),ahk (n:=16161) (λf b=>e f (a1o _ b)) ?_ (by simp) (by omega)⟩;have o:=(apK (lo:=lo) i ht h c (a3t g)).size;intro x d;simp at d;rcases d with rfl|rfl
  .exact am3 hF.size o
  decide
 grind [Qr]
def aj3 {lo:Nat}(hF:ZO a)(h:lo<=9)(c:∀n,hi=some n->n<=9):(Qr a lo hi).length<=800:=by
 have g:=hF.cl;have b:=hF.wc.1;have f:=D4 (λk=>uZ a (dG a k .one)++Tc [aG a (dG a k .one),.one]) 42 (List.range (adu lo hi)) (λk _=>by have:=aaP a (dG a k .one) b;simp[Tc];omega)
 have e:=D4 (λk=>uZ a (eQ a k (yU a lo hi))) 40 (List.range lo) (λk _=>by have:=aaP a (eQ a k (yU a lo hi)) b;omega)
 have d:adu lo hi<=9:=by
  cases hi with
  | none=>simp[adu]
  | some n=>have:=c n rfl;simp only[adu];omega
 have j:adu lo hi*42<=9*42:=a0z _ d;have i:lo*40<=9*40:=a0z _ (by omega);rw[List.length_range]at f e;unfold Qr;simp only[a0r,a0p];omega
def aaR {e:RX}(h:tL e)(a:dI e<=40)(ht:jX e<=90):ZO (bn e):=⟨_,_,rF h,by rw[rZ a];exact a,by omega⟩
def aaS:∀{l:List RX} {e:RX},e∈l->dI e<=bV l
 | x::r,e,h=>by
   simp only[bV];rcases a0l.1 h with rfl|h
   .omega
   have:=aaS h;omega
def MX:∀{l:List RX} {e:RX},jm l->e∈l->tL e
 | x::r,e,a,h=>by
   rcases a0l.1 h with rfl|h
   .exact a.1
   exact MX a.2 h
mutual
theorem YS:∀{e:RX} {U:List NF},tL e->uO e->dI e<=40->jX e<=90->(∀f∈Td e,f∈U)->aaM U e
 | .one s,U,ho,hd,b,ht,a=>λ_=>a _ (by simp[Td])
 | .seq l,U,ho,hd,b,ht,a=>ahl (show jm l from ho) (show mZ l from hd) (show bV l<=40 from b) (show gu l<=90 from ht) a
 | .alt l,U,ho,hd,b,ht,a=>by have k:gu l+(l.length-1)<=90:=ht;have j:bV l<=40:=b;simp only[Td]at a;refine⟨ahm ho.1 (show mZ l from hd) j (by omega) λf c=>a f (a1B _ c),?_⟩;refine ahk (n:=8080) (λf c=>a f (a1o _ c)) ?_ (by rw[uB,a0y];omega) (by omega);intro x i;rw[uB]at i;obtain⟨e,he,rfl⟩:=a0q.1 i;exact(aaR (MX ho.1 he) (by have:=aaS he;omega) (by have:=(Bu he).2;omega)).size
 | .rep x lo hi,U,ho,hd,b,ht,a=>by
   have k:jX x+iV lo hi<=90:=ht;simp only[Td]at a;have d:dI x<=40:=by
    simp only[dI]at b
    by_cases h:40<dI x
    .rw[a0m h]at b;omega
    omega
   have g:mh x*times lo hi<=40:=by simp only[dI]at b;rw[a0n (by omega)]at b;rw[rZ d];exact b
   exact⟨YS ho.1 hd.1 d (by omega) λf c=>a f (a1B _ c),
    asf (rF ho.1) (by rw[rZ d];exact d) J9 g (by omega) ho.2 λf c=>a f (a1o _ c)⟩
theorem ahm:∀{l:List RX} {U:List NF},jm l->mZ l->bV l<=40->gu l<=90->(∀f∈aaO l,f∈U)->zi U l
 | [],U,_,_,_,_,_=>trivial
 | x::r,U,ho,hd,c,ht,b=>by simp only[bV]at c;simp only[gu]at ht;simp only[aaO]at b;exact⟨YS ho.1 hd.1 (by omega) (by omega) λf a=>b f (a1B _ a),ahm ho.2 hd.2 (by omega) (by omega) λf a=>b f (a1o _ a)⟩
theorem ahl:∀{l:List RX} {U:List NF},jm l->mZ l->bV l<=40->gu l<=90->(∀f∈aaN l,f∈U)->zi U l/\Qq U l
 | [],U,_,_,_,_,_=>⟨trivial,trivial⟩
 | x::r,U,ho,hd,d,ht,b=>by
   simp only[bV]at d;simp only[gu]at ht;simp only[aaN]at b;have c:=ahl (U:=U) ho.2 hd.2 (by omega) (by omega) λf a=>b f (a1B _ (a1o _ a))
   exact⟨⟨YS ho.1 hd.1 (by omega) (by omega) λf a=>b f (a1B _ (a1B _ a)),c.1⟩,λf a=>b f (a1o _ a),c.2⟩
end
mutual
def Dn:RX->Nat
 | .one _=>1
 | .seq l=>wR l+1
 | .alt l=>wR l+1
 | .rep x _ _=>Dn x+1
def wR:List RX->Nat
 | []=>0
 | x::r=>Dn x+wR r
end
theorem MY:∀(a b:List RX),wR (a++b)=wR a+wR b
 | [],b=>by simp[wR]
 | x::a,b=>by simp only[a0L,wR,MY a b];omega
def WV:∀{k:Nat} {x y:RX} {t r:LB},dQ k x t=some (y,r)->Dn y+r.length<=Dn x+t.length
 | 0,x,y,t,r,h=>by simp[dQ]at h
 | k+1,x,y,t,r,h=>by
   simp only[dQ]at h
   split at h
   .split at h
    .simp at h
    rename_i b r' hb
    have d:=E9 hb;have c:=vU b.1 b.2;have a:=WV (k:=k) h;simp only[Dn]at a;omega
   simp only[Option.some.injEq,Prod.mk.injEq]at h;obtain⟨rfl,rfl⟩:=h;omega
mutual
theorem aj4:∀{k nest:Nat} {t r:LB} {x:RX},ik k nest t=some (x,r)->Dn x+3*r.length<=3*t.length
 | 0,nest,t,r,x,h=>by simp[ik]at h
 | k+1,nest,[],r,x,h=>by simp[ik]at h
 | k+1,nest,c::q,r,x,h=>by
   simp only[ik]at h
   split at h
   .split at h
    .simp at h
    split at h
    .simp at h
    rename_i g i a
    have e:=Vm (acc:=[]) a
    split at h
    .rename_i b
     have f:=jg b;simp at h;obtain⟨rfl,rfl⟩:=h;simp only[wR,a0r]at e |-;simp only[List.length_tail]at f;simp;omega
    simp at h
   split at h
   .split at h
    .simp at h
    rename_i a
    have e:=Kb a;simp at h;obtain⟨rfl,rfl⟩:=h;simp only[Dn,a0r];omega
   split at h
   .simp at h
    obtain⟨rfl,rfl⟩:=h;simp only[Dn,a0r];omega
   split at h
   .cases q with
    | nil=>simp at h
    | cons d j=>simp at h;obtain⟨rfl,rfl⟩:=h;simp only[Dn,a0r];omega
   split at h
   .simp at h
   simp at h;obtain⟨rfl,rfl⟩:=h;simp only[Dn,a0r];omega
theorem adv:∀{k nest:Nat} {acc:List RX} {t r:LB} {x:RX},jF k nest acc t=some (x,r)->Dn x+3*r.length<=1+wR acc+3*t.length
 | 0,nest,acc,t,r,x,h=>by simp[jF]at h
 | k+1,nest,acc,t,r,x,h=>by
   simp only[jF]at h
   split at h
   .grind [Dn]
   split at h
   .simp at h
   rename_i d f c
   have j:=aj4 c
   split at h
   .simp at h
   rename_i y e a
   have i:=WV a;have b:=adv (acc:=acc++[y]) h;have g:=(xJ a).2;rw[MY]at b;simp only[wR]at b;omega
theorem Vm:∀{k nest:Nat} {acc:List RX} {t r:LB} {x:RX},iQ k nest acc t=some (x,r)->Dn x+3*r.length<=2+wR acc+3*t.length
 | 0,nest,acc,t,r,x,h=>by simp[iQ]at h
 | k+1,nest,acc,t,r,x,h=>by
   simp only[iQ]at h
   split at h
   .simp at h
   rename_i b f d
   have e:=adv (acc:=[]) d;simp only[wR]at e
   split at h
   .rename_i c
    have g:=jg c;have a:=Vm (acc:=acc++[b]) h;rw[MY]at a;simp only[wR]at a;omega
   simp at h;obtain⟨rfl,rfl⟩:=h;simp only[Dn,MY,wR];omega
end
def ahn {t:LB} {x:RX}(h:fF t=some x):Dn x<=3*t.length+2:=by
 unfold fF at h
 split at h
 .rename_i y a
  simp at h;subst h;have:=Vm (acc:=[]) a;simp only[wR]at this;omega
 simp at h
mutual
theorem Te:∀{e:RX},tL e->uO e->dI e<=40->jX e<=90->(Td e).length+40<=1000*Dn e
 | .one s,ho,hd,a,ht=>by simp[Td,Dn]
 | .seq l,ho,hd,a,ht=>by have:=adw (show jm l from ho) (show mZ l from hd) (show bV l<=40 from a) (show gu l<=90 from ht);simp only[Td,Dn];omega
 | .alt l,ho,hd,a,ht=>by have d:gu l+(l.length-1)<=90:=ht;have c:=adx ho.1 (show mZ l from hd) (show bV l<=40 from a) (by omega);simp only[Td,Dn,a0p];simp[Tc];omega
 | .rep x lo hi,ho,hd,a,ht=>by
   have d:jX x+iV lo hi<=90:=ht;have b:dI x<=40:=by
    simp only[dI]at a
    by_cases h:40<dI x
    .rw[a0m h]at a;omega
    omega
   have c:=Te ho.1 hd.1 b (by omega);have f:=aj3 (aaR ho.1 b (by omega)) hd.2.1 hd.2.2;simp only[Td,Dn,a0p];omega
theorem adx:∀{l:List RX},jm l->mZ l->bV l<=40->gu l<=90->(aaO l).length<=1000*wR l
 | [],_,_,_,_=>by simp[aaO]
 | x::r,ho,hd,a,ht=>by simp only[bV]at a;simp only[gu]at ht;have c:=Te ho.1 hd.1 (by omega) (by omega);have b:=adx ho.2 hd.2 (by omega) (by omega);simp only[aaO,wR,a0p];omega
theorem adw:∀{l:List RX},jm l->mZ l->bV l<=40->gu l<=90->(aaN l).length<=1000*wR l
 | [],_,_,_,_=>by simp[aaN]
 | x::r,ho,hd,a,ht=>by simp only[bV]at a;simp only[gu]at ht;have e:=Te ho.1 hd.1 (by omega) (by omega);have d:=adw ho.2 hd.2 (by omega) (by omega);have c:=aaP (bn x) (sJ r) (rF ho.1).1.1;have b:=(aaR ho.1 (show dI x<=40 by omega) (by omega)).cl;simp only[aaN,wR,a0p];omega
end
end
section
variable {w w' x y:World} {b i n:Nat} {α:Type} {e:RX} {F S:LN} {l t:LB} {w0 w1 w2 w3:Int} {tmps:Array Value} {v vs:Value} {xs:List Value}
def Bi(X:NF)(a:List LN)(v:LN):Nat:=a.findIdx λu=>name (dW X u)==name (dW X v)
def rQ(X:NF)(w:LN):LN->List LN->LN->Bool × List LN × LN
 | [],a,nx=>(true,a,nx)
 | c::F,a,nx=>if Bi X a (w++[c])=40 then (false,a,nx) else rQ X w F (if Bi X a (w++[c])=a.length then a++[w++[c]] else a) (nx++[Bi X a (w++[c])])
def yz(X:NF)(F:LN):Nat->Nat->List LN->LN->Bool × List LN × LN
 | 0,_,a,nx=>(true,a,nx)
 | k+1,i,a,nx=>match a[i]? with
   | none=>(true,a,nx)
   | some w=>match rQ X w F a nx with
     | (false,r)=>(false,r)
     | (true,b,c)=>yz X F k (i+1) b c
def oC(X:NF)(F:LN):Bool × List LN × LN:=yz X F 41 0 [[]] []
theorem alx(X:NF)(a:List LN)(v:LN):Bi X a v<=a.length:=a2U
def WB(a:List LN):Prop:=a.length<=40/\∀(j:Nat) (u:LN),a[j]?=some u->u.length<=j
theorem WB.one:WB [[]]:=by
 refine⟨by simp,λj u h=>?_⟩;cases j with
 | zero=>simp at h;subst h;simp
 | succ j=>simp at h
theorem WB.add {a:List LN} {w:LN}{c:Nat}(h:WB a)(d:a[i]?=some w)(f:a.length≠40):WB (a++[w++[c]]):=by
 have l:=h.1;have k:=h.2 i w d;have g:=(a0d.1 d).1;refine⟨by simp;omega,λj u b=>?_⟩
 by_cases e:j<a.length
 .rw[a0s e]at b;exact h.2 j u b
 grind
def Vn(X:NF)(w:LN):∀(F:LN) (a:List LN) (nx:LN),a <+: (rQ X w F a nx).2.1
 | [],a,nx=>a0N _
 | c::F,a,nx=>by
   unfold rQ
   split
   .exact a0N _
   refine List.IsPrefix.trans ?_ (Vn X w F _ _)
   split
   .exact a1t _ _
   exact a0N _
theorem rR {a b:List α}(h:a <+: b) {x:α}(c:a[i]?=some x):b[i]?=some x:=by obtain⟨t,rfl⟩:=h;rw[a0s (a0d.1 c).1];exact c
def aaT(X:NF)(w:LN)(i:Nat):∀(F:LN) (a:List LN) (nx:LN),WB a->a[i]?=some w->WB (rQ X w F a nx).2.1
 | [],a,nx,h,_=>h
 | c::F,a,nx,h,d=>by
   unfold rQ
   split
   .exact h
   rename_i b
   refine aaT X w i F _ _ ?_ ?_
   .split
    .rename_i he;exact h.add d (by rw[he]at b;exact b)
    exact h
   grind
def ady(X:NF)(F:LN):∀(k i:Nat) (a:List LN) (nx:LN),a <+: (yz X F k i a nx).2.1
 | 0,i,a,nx=>a0N _
 | k+1,i,a,nx=>by
   unfold yz
   split
   .exact a0N _
   rename_i w e
   have h:=Vn X w F a nx
   split
   .grind
   rename_i b d c;rw[c]at h;exact h.trans (ady X F k (i+1) b d)
theorem aho(X:NF)(F:LN):∀(k i:Nat) (a:List LN) (nx:LN),WB a->WB (yz X F k i a nx).2.1
 | 0,i,a,nx,h=>h
 | k+1,i,a,nx,h=>by
   unfold yz
   split
   .exact h
   rename_i w b
   have c:=aaT X w i F a nx h b
   split
   .grind
   simp_all[aho]
def aaU(X:NF)(F:LN):WB (oC X F).2.1:=aho X F 41 0 [[]] [] WB.one
def D7(e:RX)(F:LN):List NF:=[.zero,.one]++Td e++(oC (bn e) F).2.1.flatMap λw=>F.flatMap λc=>J7 (bn e) w c
def ahp{β:Type}(f:α->List β)(n:Nat)(l:List α)(h:∀a∈l,(f a).length<=n):(l.flatMap f).length<=l.length*n:=D4 f n l h
def am4(ho:tL e)(hd:uO e)(a:dI e<=40)(ht:jX e<=40)(k:Dn e<=200)(hF:F.length<=256):(D7 e F).length<=1000000000000:=by
 have r:=Te ho hd a (by omega);have h:mh e<=40:=by rw[rZ a];exact a
 have hb:=Px ho h ht;have b:=aaU (bn e) F;have g:∀w∈(oC (bn e) F).2.1,(F.flatMap λc=>J7 (bn e) w c).length<=16256204800:=by intro w f;obtain⟨j,d⟩:=a1T f;have l:=b.2 j w d;have i:=(a0d.1 d).1;have q:=ahp (λc=>J7 (bn e) w c) (121*524800) F (λc m=>a0h (ajm (bn e) w c (by have:=b.1;omega)) (a0o _ hb));have p:F.length*(121*524800)<=256*(121*524800):=a0z _ hF;omega
 have o:=ahp (λw=>F.flatMap λc=>J7 (bn e) w c) 16256204800 (oC (bn e) F).2.1 g;have n:(oC (bn e) F).2.1.length*16256204800<=40*16256204800:=a0z _ b.1;unfold D7;simp only[a0p,a0r,a1e];omega
def am5:∀f∈Td e,f∈D7 e F:=λf a=>by unfold D7;simp[a]
def am6:NF.zero∈D7 e F/\NF.one∈D7 e F:=by unfold D7;simp
def aj5(ho:tL e)(d:dI e<=40)(ht:jX e<=40) {w:LN}(b:w∈(oC (bn e) F).2.1) {c:Nat}(l:c∈F):Fg c (D7 e F) (dW (bn e) w):=by
 have n:mh e<=40:=by rw[rZ d];exact d
 have hb:=Px ho n ht;have h:=aaU (bn e) F;obtain⟨j,g⟩:=a1T b;have p:=h.2 j w g;have o:=(a0d.1 g).1;have a:=rF ho;have i:(bn e).size<=3280:=by
  by_cases m:mh e=0
  .rw[a.2.1 m];simp[NF.size]
  have r:=(a.2.2 (by omega)).sz;have q:2*mh e*(jX e+1)<=2*40*41:=a0D (by omega) (by omega);omega
 refine amz a.1 i hb (by have:=h.1;omega) (λf k=>?_) (dW (bn e) w) (Mt (fT (bn e)) (List.suffix_refl w));unfold D7;refine a0e.2 (.inr (a1l.2 ⟨w,b,a1l.2 ⟨c,l,agl k⟩⟩))
def apL(X:NF)(a:List LN)(v:LN):(oI (a.map λu=>name (dW X u)) (name (dW X v))<0/\Bi X a v=a.length)\/(0<=oI (a.map λu=>name (dW X u)) (name (dW X v))/\Bi X a v<a.length):=by grind [oI,Bi,name,dW,left]
def auP {X:NF}(h:WC X):∀u:LN,WC (dW X u)
 | u=>by
   have key:∀(u:LN) (y:NF),WC y->WC (dW y u):=by
    intro u
    induction u with
    | nil=>intro y b;exact b
    | cons a r c=>intro y b;exact c _ (b.left a)
   exact key u X h
def am7(h:fF t=some e)(ht:t.length<=40)(a:dI e<=40)(u:LN)(g:u.length<=39)(c:Nat) :
 WC (dW (bn e) u)/\xP c (dW (bn e) u)/\nl (left c (dW (bn e) u))<9223372036854775807:=by
 have d:=mQ h;have b:WC (bn e):=uC d.1;have f:=Px d.1 (by rw[rZ a];exact a) (by omega);refine⟨auP b u,amW b f (u:=u) (by omega) c _ (.inr (.inr (Mt (fT _) (List.suffix_refl u)))),?_⟩;rw[<-tK];exact ahj h ht a (u++[c]) (by simp;omega)
def wd(s i:Nat):Nat:=s / 2 ^ (64*i) % 2 ^ 64
theorem jv(s i:Nat):wd s i<18446744073709551616:=a3i _ (by decide)
theorem zk(s q r:Nat)(a:r<64):(wd s q).testBit r=s.testBit (64*q+r):=by unfold wd;rw[Nat.testBit_mod_two_pow,Nat.testBit_div_two_pow];simp[a,a2w]
def bv(s:Nat):Value:=.agg #[.int .u64 (wd s 0),.int .u64 (wd s 1),.int .u64 (wd s 2),.int .u64 (wd s 3)]
theorem zZ(w r:Nat)(a:w<18446744073709551616):(Go.bits BinOp.and IntKind.u64 ((w:Int) / 2 ^ r) 1==1)=w.testBit r:=by
 have c:((w:Int) / 2 ^ r)=((w / 2 ^ r:Nat):Int):=by simp
 have b:w / 2 ^ r<18446744073709551616:=a2i (Nat.div_le_self _ _) a;rw[c,show(1:Int)=((1:Nat):Int) from rfl,bits_and_u64_nat _ _ b (by decide),Nat.testBit_eq_decide_div_mod_eq,Nat.and_one_is_mod];rw[a0T];simp;omega
def ahq(w0 w1 w2 w3:Nat)(q r:Nat)(w:World)(hq:q<4)(g:r<64)(f:w0<18446744073709551616)(d:w1<18446744073709551616)(b:w2<18446744073709551616)(a:w3<18446744073709551616) :
 zF 192 #[.agg #[.int .u64 w0,.int .u64 w1,.int .u64 w2,.int .u64 w3],.int .u8 (64*q+r:Nat)] w λe w'=>e=zR (.bool ((if q=0 then w0 else if q=1 then w1 else if q=2 then w2 else w3).testBit r))/\aB [] w w':=by
 have hd:((64*q+r:Nat):Int).tdiv 64=q:=by rw[a2z (by omega)];omega
 have h:((64*q+r:Nat):Int).tmod 64=r:=by rw[a2f (by omega)];omega
 have i:64*q+r<256:=by omega
 generalize 64*q+r=c at *;rcases(by omega:q=0\/q=1\/q=2\/q=3) with rfl|rfl|rfl|rfl
 .delta zF;go_in
  go_wp2;go_ret;exact⟨by rw[<-zZ _ _ f];rfl,zJ⟩
 .delta zF;go_in
  go_wp2;go_ret;exact⟨by rw[<-zZ _ _ d];rfl,zJ⟩
 .delta zF;go_in
  go_wp2;go_ret;exact⟨by rw[<-zZ _ _ b];rfl,zJ⟩
 delta zF;go_in
 go_wp2;go_ret;exact⟨by rw[<-zZ _ _ a];rfl,zJ⟩
def am8(s:Nat)(c:Nat)(w:World)(a:c<256) :
 zF 192 #[bv s,.int .u8 c] w λe w'=>e=zR (.bool (s.testBit c))/\aB [] w w':=by
 have h:=ahq (wd s 0) (wd s 1) (wd s 2) (wd s 3) (c / 64) (c % 64) w (by omega) (a3i _ (by decide)) (jv _ _) (jv _ _) (jv _ _) (jv _ _);rw[show 64*(c / 64)+c % 64=c by omega]at h;have e:(if c / 64=0 then wd s 0 else if c / 64=1 then wd s 1 else if c / 64=2 then wd s 2 else wd s 3).testBit (c % 64)=s.testBit c:=by
  have b:c / 64<4:=by omega
  have key:(wd s (c / 64)).testBit (c % 64)=s.testBit c:=by rw[zk _ _ _ (a3i _ (by decide)),show 64*(c / 64)+c % 64=c by omega]
  rw[<-key];rcases(by omega:c / 64=0\/c / 64=1\/c / 64=2\/c / 64=3) with h|h|h|h<;>simp[h]
 rw[e]at h;exact h
def SB(w:World)(b:Nat)(w0 w1 w2 w3:Int):Prop:=w.heap[b]?=some (.cells #[.int .u64 w0,.int .u64 w1,.int .u64 w2,.int .u64 w3] 261 (0,0))
def SB.new(hb:b=w.heap.size):SB (w.alloc (Obj.cells #[.int .u64 w0,.int .u64 w1,.int .u64 w2,.int .u64 w3] 261)) b w0 w1 w2 w3:=by subst hb;exact bD w _
theorem SB.cells(h:SB w b w0 w1 w2 w3) :
 zC w b 0 (.int .u64 w0)/\zC w b 1 (.int .u64 w1)/\zC w b 2 (.int .u64 w2)/\zC w b 3 (.int .u64 w3):=by
 unfold SB at h;refine⟨?_,?_,?_,?_⟩<;>simp[World.cell?,h]
theorem SB.fz(h:SB w b w0 w1 w2 w3)(o:Nat):w.frozen? (zB b o)=false:=by unfold SB at h;simp[World.frozen?,h]
theorem SB.lt(h:SB w b w0 w1 w2 w3):b<w.heap.size:=(a0c.1 h).1
theorem SB.aC(h:SB w b w0 w1 w2 w3)(f:aB S w w')(a:b∉S):SB w' b w0 w1 w2 w3:=(f.block b h.lt a).trans h
theorem SB.drew(h:SB w b w0 w1 w2 w3):SB w.drew b w0 w1 w2 w3:=h
def SB.set0(h:SB w b w0 w1 w2 w3)(v:Int):SB (w.setCell (zA b) (.int .u64 v)) b v w1 w2 w3:=by unfold SB at h |-;simp[World.setCell,h,a0v]
def SB.set1(h:SB w b w0 w1 w2 w3)(v:Int):SB (w.setCell (zB b 1) (.int .u64 v)) b w0 v w2 w3:=by unfold SB at h |-;simp[World.setCell,h,a0v]
def SB.set2(h:SB w b w0 w1 w2 w3)(v:Int):SB (w.setCell (zB b 2) (.int .u64 v)) b w0 w1 v w3:=by unfold SB at h |-;simp[World.setCell,h,a0v]
def SB.ahr(h:SB w b w0 w1 w2 w3)(v:Int):SB (w.setCell (zB b 3) (.int .u64 v)) b w0 w1 w2 v:=by unfold SB at h |-;simp[World.setCell,h,a0v]
def SB.far{b' o:Nat}(h:SB w b w0 w1 w2 w3)(v:Value)(hb:b≠b'):SB (w.setCell (zB b' o) v) b w0 w1 w2 w3:=by unfold SB at h |-;rw[Below.heap_setCell _ _ _ _ hb];exact h
theorem SB.load(h:SB w b w0 w1 w2 w3):(loadVar 261 (zA b)).run Tryz.prog w=.ok (.agg #[.int .u64 w0,.int .u64 w1,.int .u64 w2,.int .u64 w3]) w:=by obtain⟨e,d,c,a⟩:=h.cells;simp[go_sem,e,d,c,a]
def Yp(h:SB w b w0 w1 w2 w3)(c:tmps.getD 4 undef=zP b) :
 (results Tryz.f196 tmps).run Tryz.prog w=.ok (.agg #[.int .u64 w0,.int .u64 w1,.int .u64 w2,.int .u64 w3]) w:=by
 have a:tmps[4]?.getD undef=zP b:=by simpa using c
 simp only[results,Tryz.results196];simp[Sem.run_bind,Result.andThen,a,asAddr,h.load]
theorem aaV(s t i:Nat):wd (s ||| t) i=wd s i ||| wd t i:=by
 apply a1D;intro k
 by_cases b:k<64
 .rw[a2D,zk _ _ _ b,zk _ _ _ b,zk _ _ _ b,a2D]
 have a:∀x,(wd x i).testBit k=false:=λx=>a1z (a0t (jv x i) (by rw[show(18446744073709551616:Nat)=2 ^ 64 by decide];exact a1r (by omega) (by omega)))
 rw[a2D,a,a,a];rfl
def jz(k i a b:Nat):Int:=if i<k then ((a ||| b:Nat):Int) else (a:Int)
def ahs(s t:Nat)(w:World)(I:s<2 ^ 256)(ht:t<2 ^ 256) :
 zF 196 #[bv s,bv t] w λe w'=>e=zR (bv (s ||| t))/\aB [] w w':=by
 unfold bv;have B:=aaV s t 0;have A:=aaV s t 1;have y:=aaV s t 2;have x:=aaV s t 3;have v:=jv s 0;have u:=jv s 1;have l2:=jv s 2;have r:=jv s 3;have q:=jv t 0;have p:=jv t 1;have o:=jv t 2;have n:=jv t 3;generalize wd s 0=l at *;generalize wd s 1=s1 at *;generalize wd s 2=s2 at *;generalize wd s 3=i at *;generalize wd t 0=t0 at *;generalize wd t 1=t1 at *;generalize wd t 2=t2 at *;generalize wd t 3=f at *;delta zF;go_in
 go_wp2_with fail
 go_loopg [6] 4 (λk m wr=>∃(j:Nat),j+k=4/\m=zI j/\SB wr w.heap.size (jz j 0 l t0) (jz j 1 s1 t1) (jz j 2 s2 t2) (jz j 3 i f)/\SB wr (w.heap.size+1) t0 t1 t2 f/\SB wr (w.heap.size+1+1) 0 0 0 0/\aB [] w wr)
 exact⟨0,by omega,rfl,(SB.new (b:=w.heap.size) rfl).aC (S:=[]) (zJ.alloc _) (by simp),(SB.new (by simp)).aC zG (by simp),SB.new (by simp),(zJ.alloc _).alloc _⟩
 .obtain⟨j,J,rfl,a,d,c,F⟩:=hrel;rcases(by omega:j=0\/j=1\/j=2\/j=3\/j=4) with rfl|rfl|rfl|rfl|rfl
  .simp only[jz,a1u,Nat.reduceLT,a0G,a0I]at a
   obtain⟨c0,c1,c2,c3⟩:=a.cells;obtain⟨d0,d1,h,g⟩:=d.cells;have z:=a.fz;go_wp2_with fail
   go_region
   go_wp2;go_roundg 3
   .refine⟨1,by omega,by go_num,?_,(d.far _ (by omega)).drew,(c.far _ (by omega)).drew,(F.setCell (.inr (a0b _)) _).drew⟩;have:=(a.set0 (Go.bits BinOp.or IntKind.u64 l t0)).drew;rw[bits_or_u64_nat _ _ v q]at this |-;simpa only[jz,a1u,Nat.reduceLT,a0G,a0I] using this
   omega
  .simp only[jz,a1u,Nat.reduceLT,a0G,a0I]at a
   obtain⟨c0,c1,c2,c3⟩:=a.cells;obtain⟨d0,d1,h,g⟩:=d.cells;have z:=a.fz;have a:=a;have d:=d;have c:=c;go_wp2_with fail
   go_region
   go_wp2;go_roundg 2
   .refine⟨2,by omega,by go_num,?_,(d.far _ (by omega)).drew,(c.far _ (by omega)).drew,(F.setCell (.inr (a0b _)) _).drew⟩;have:=(a.set1 (Go.bits BinOp.or IntKind.u64 s1 t1)).drew;rw[bits_or_u64_nat _ _ u p]at this |-;simpa only[jz,a1u,Nat.reduceLT,a0G,a0I] using this
   omega
  .simp only[jz,a1u,Nat.reduceLT,a0G,a0I]at a
   obtain⟨c0,c1,c2,c3⟩:=a.cells;obtain⟨d0,d1,h,g⟩:=d.cells;have z:=a.fz;have a:=a;have d:=d;have c:=c;go_wp2_with fail
   go_region
   go_wp2;go_roundg 1
   .refine⟨3,by omega,by go_num,?_,(d.far _ (by omega)).drew,(c.far _ (by omega)).drew,(F.setCell (.inr (a0b _)) _).drew⟩;have:=(a.set2 (Go.bits BinOp.or IntKind.u64 s2 t2)).drew;rw[bits_or_u64_nat _ _ l2 o]at this |-;simpa only[jz,a1u,Nat.reduceLT,a0G,a0I] using this
   omega
  .simp only[jz,a1u,Nat.reduceLT,a0G,a0I]at a
   obtain⟨c0,c1,c2,c3⟩:=a.cells;obtain⟨d0,d1,h,g⟩:=d.cells;have z:=a.fz;have a:=a;have d:=d;have c:=c;go_wp2_with fail
   go_region
   go_wp2;go_roundg 0
   .refine⟨4,by omega,by go_num,?_,(d.far _ (by omega)).drew,(c.far _ (by omega)).drew,(F.setCell (.inr (a0b _)) _).drew⟩;have:=(a.ahr (Go.bits BinOp.or IntKind.u64 i f)).drew;rw[bits_or_u64_nat _ _ r n]at this |-;simpa only[jz,a1u,Nat.reduceLT,a0G,a0I] using this
   omega
  simp only[jz,a1u,Nat.reduceLT,a0G,a0I]at a;obtain⟨c0,c1,c2,c3⟩:=a.cells;obtain⟨H,G,E,D⟩:=c.cells;have C:=c.fz;have c:=c;go_wp2;refine bodyPost_ret (Yp (b:=w.heap.size+1+1) ((((c.set0 _).set1 _).set2 _).ahr _) (by rfl)) rfl ?_;refine⟨by rw[B,A,y,x],?_⟩;exact(((F.setCell (.inr (by simp;omega)) _).setCell (.inr (by simp;omega)) _).setCell (.inr (by simp;omega)) _).setCell (.inr (by simp;omega)) _
def aly(s:Nat):Nat:=s ^^^ (2 ^ 256-1)
theorem apM(i:Nat)(a:i<4):wd (2 ^ 256-1) i=18446744073709551615:=by rcases(by omega:i=0\/i=1\/i=2\/i=3) with rfl|rfl|rfl|rfl<;>decide +kernel
theorem asg(s t i:Nat):wd (s ^^^ t) i=wd s i ^^^ wd t i:=by
 apply a1D;intro k
 by_cases b:k<64
 .rw[a2o,zk _ _ _ b,zk _ _ _ b,zk _ _ _ b,a2o]
 have a:∀x,(wd x i).testBit k=false:=λx=>a1z (a0t (jv x i) (by rw[show(18446744073709551616:Nat)=2 ^ 64 by decide];exact a1r (by omega) (by omega)))
 rw[a2o,a,a,a];rfl
def Tf(s i:Nat)(b:i<4):wd (aly s) i=18446744073709551615-wd s i:=by
 unfold aly;rw[asg,apM i b];have h:=jv s i;generalize wd s i=x at *;rw[show(18446744073709551615:Nat)=2 ^ 64-1 by decide];apply a1D;intro k;rw[a2o,a3c];rw[show 2 ^ 64-1-x=2 ^ 64-(x+1) by omega,Nat.testBit_two_pow_sub_succ (by rw[show(2:Nat) ^ 64=18446744073709551616 by decide];exact h)]
 by_cases a:k<64
 .simp[a]
 have:x.testBit k=false:=a1z (a0t h (by rw[show(18446744073709551616:Nat)=2 ^ 64 by decide];exact a1r (by omega) (by omega)));simp[a,this]
theorem am9(x:Nat)(h:x<18446744073709551616):18446744073709551615 ^^^ x=18446744073709551615-x:=by
 rw[show(18446744073709551615:Nat)=2 ^ 64-1 by decide];apply a1D;intro k;rw[a2o,a3c];rw[show 2 ^ 64-1-x=2 ^ 64-(x+1) by omega,Nat.testBit_two_pow_sub_succ (by rw[show(2:Nat) ^ 64=18446744073709551616 by decide];exact h)]
 by_cases a:k<64
 .simp[a]
 have:x.testBit k=false:=a1z (a0t h (by rw[show(18446744073709551616:Nat)=2 ^ 64 by decide];exact a1r (by omega) (by omega)));simp[a,this]
theorem Tg(x:Nat)(h:x<18446744073709551616):Go.bits BinOp.xor IntKind.u64 IntKind.u64.max (x:Int)=((18446744073709551615-x:Nat):Int):=by rw[show IntKind.u64.max=((18446744073709551615:Nat):Int) by decide,bits_xor_u64_nat _ _ (by decide) h,am9 x h]
def Yq(h:SB w b w0 w1 w2 w3)(c:tmps.getD 2 undef=zP b) :
 (results Tryz.f204 tmps).run Tryz.prog w=.ok (.agg #[.int .u64 w0,.int .u64 w1,.int .u64 w2,.int .u64 w3]) w:=by
 have a:tmps[2]?.getD undef=zP b:=by simpa using c
 simp only[results,Tryz.results204];simp[Sem.run_bind,Result.andThen,a,asAddr,h.load]
def oz(k i a:Nat):Int:=if i<k then ((18446744073709551615-a:Nat):Int) else (a:Int)
def WY(s:Nat)(w:World) :
 zF 204 #[bv s] w λe w'=>e=zR (bv (aly s))/\aB [] w w':=by
 unfold bv;have E0:=Tf s 0 (by omega);have E1:=Tf s 1 (by omega);have E2:=Tf s 2 (by omega);have E3:=Tf s 3 (by omega);have l0:=jv s 0;have l1:=jv s 1;have l2:=jv s 2;have l3:=jv s 3;generalize wd s 0=s0 at *;generalize wd s 1=s1 at *;generalize wd s 2=s2 at *;generalize wd s 3=s3 at *;delta zF;go_in
 go_wp2_with fail
 go_loopg [4] 4 (λk vi wr=>∃(j:Nat),j+k=4/\vi=zI j/\SB wr w.heap.size (oz j 0 s0) (oz j 1 s1) (oz j 2 s2) (oz j 3 s3)/\SB wr (w.heap.size+1) 0 0 0 0/\aB [] w wr)
 exact⟨0,by omega,rfl,(SB.new (b:=w.heap.size) rfl).aC zG (by simp),SB.new (by simp),zJ.alloc _⟩
 ·obtain⟨j,hj,rfl,H0,H2,F⟩:=hrel;rcases(by omega:j=0\/j=1\/j=2\/j=3\/j=4) with rfl|rfl|rfl|rfl|rfl
  ·simp only[oz,a1u,Nat.reduceLT,a0G,a0I]at H0
   obtain⟨c0,c1,c2,c3⟩:=H0.cells;have z:=H0.fz;go_wp2;go_roundg 3
   ·refine⟨1,by omega,by go_num,?_,(H2.far _ (by omega)),(F.setCell (.inr (a0b _)) _)⟩;have:=H0.set0 (Go.bits BinOp.xor IntKind.u64 IntKind.u64.max s0);rw[Tg _ l0]at this |-;simpa only[oz,a1u,Nat.reduceLT,a0G,a0I] using this
   omega
  ·simp only[oz,a1u,Nat.reduceLT,a0G,a0I]at H0
   obtain⟨c0,c1,c2,c3⟩:=H0.cells;have z:=H0.fz;have H0:=H0;have H2:=H2;go_wp2;go_roundg 2
   ·refine⟨2,by omega,by go_num,?_,(H2.far _ (by omega)),(F.setCell (.inr (a0b _)) _)⟩;have:=H0.set1 (Go.bits BinOp.xor IntKind.u64 IntKind.u64.max s1);rw[Tg _ l1]at this |-;simpa only[oz,a1u,Nat.reduceLT,a0G,a0I] using this
   omega
  ·simp only[oz,a1u,Nat.reduceLT,a0G,a0I]at H0
   obtain⟨c0,c1,c2,c3⟩:=H0.cells;have z:=H0.fz;have H0:=H0;have H2:=H2;go_wp2;go_roundg 1
   ·refine⟨3,by omega,by go_num,?_,(H2.far _ (by omega)),(F.setCell (.inr (a0b _)) _)⟩;have:=H0.set2 (Go.bits BinOp.xor IntKind.u64 IntKind.u64.max s2);rw[Tg _ l2]at this |-;simpa only[oz,a1u,Nat.reduceLT,a0G,a0I] using this
   omega
  ·simp only[oz,a1u,Nat.reduceLT,a0G,a0I]at H0
   obtain⟨c0,c1,c2,c3⟩:=H0.cells;have z:=H0.fz;have H0:=H0;have H2:=H2;go_wp2;go_roundg 0
   ·refine⟨4,by omega,by go_num,?_,(H2.far _ (by omega)),(F.setCell (.inr (a0b _)) _)⟩;have:=H0.ahr (Go.bits BinOp.xor IntKind.u64 IntKind.u64.max s3);rw[Tg _ l3]at this |-;simpa only[oz,a1u,Nat.reduceLT,a0G,a0I] using this
   omega
  simp only[oz,a1u,Nat.reduceLT,a0G,a0I]at H0;obtain⟨c0,c1,c2,c3⟩:=H0.cells;obtain⟨y0,y1,y2,y3⟩:=H2.cells;have y4:=H2.fz;have H2:=H2;go_wp2;refine bodyPost_ret (Yq (b:=w.heap.size+1) ((((H2.set0 _).set1 _).set2 _).ahr _) (by rfl)) rfl ?_;refine⟨by rw[E0,E1,E2,E3],?_⟩;exact(((F.setCell (.inr (by simp)) _).setCell (.inr (by simp)) _).setCell (.inr (by simp)) _).setCell (.inr (by simp)) _
def pU(s f:Nat):Nat->Nat
 | 0=>s
 | k+1=>pU s f k ||| 2 ^ (f+k)
theorem ash(c i:Nat)(d:i<4)(e:c<256):wd (2 ^ c) i=if i=c / 64 then 2 ^ (c % 64) else 0:=by
 apply a1D;intro k
 by_cases b:k<64
 .rw[zk _ _ _ b,a2I]
  by_cases h:i=c / 64
  .rw[a0m h,a2I]
   congr 1;apply propext;omega
  rw[a0n h];simp;omega
 have a:(2:Nat) ^ 64<=2 ^ k:=a1r (by omega) (by omega);rw[a1z (a0t (jv _ _) a)]
 split
 .rw[a2I];simp;omega
 simp
def YU(x c i:Nat)(a:i<4)(b:c<256):wd (x ||| 2 ^ c) i=if i=c / 64 then wd x i ||| 2 ^ (c % 64) else wd x i:=by
 rw[aaV,ash c i a b]
 split
 .rfl
 simp
theorem or_bit(x r:Nat)(a:x<18446744073709551616)(b:r<64):Go.bits BinOp.or IntKind.u64 (x:Int) (IntKind.u64.wrap (2 ^ r))=((x ||| 2 ^ r:Nat):Int):=by
 have d:(2:Nat) ^ r<18446744073709551616:=by rw[show(18446744073709551616:Nat)=2 ^ 64 by decide];exact a3e (by omega) b
 have c:IntKind.u64.wrap ((2:Int) ^ r)=((2 ^ r:Nat):Int):=by
  have e:((2:Int) ^ r)=((2 ^ r:Nat):Int):=by simp
  rw[e,IntKind.wrap_u64];generalize 2 ^ r=z at *;omega
 rw[c,bits_or_u64_nat _ _ a d]
def aaW(b s f l:Nat)(w:World)(I:l<256)(L:f<256)(hb:SB w b (wd s 0) (wd s 1) (wd s 2) (wd s 3)) :
 zF 205 #[zP b,.int .u8 f,.int .u8 l] w λe w'=>e=zQ #[]/\SB w' b (wd (pU s f (l+1-f)) 0) (wd (pU s f (l+1-f)) 1) (wd (pU s f (l+1-f)) 2) (wd (pU s f (l+1-f)) 3)/\aB [b] w w':=by
 have x:=aj hb;clear hb;delta zF;go_in
 go_wp2_with fail
 go_loopg [6] (l+1-f) (λk y wr=>∃(j c:Nat),j+k=l+1-f/\c=f+j/\y=zI c/\SB wr b (wd (pU s f j) 0) (wd (pU s f j) 1) (wd (pU s f j) 2) (wd (pU s f j) 3)/\aB [b] w wr)
 case atStart=>exact⟨0,f,by omega,rfl,rfl,x,aB.refl _ _⟩
 case round =>
  clear x;obtain⟨j,c,J,u,rfl,d,v⟩:=hrel;have F:=aj v;clear v
  by_cases M:j<l+1-f
  .have h:f+j<256:=by omega
   have A:f+j<=l:=by omega
   have i:Z_ (pU s f (j+1)=pU s f j ||| 2 ^ (f+j)):=rfl;rw[<-u]at h A i;have a:=aj u;clear u;have hd:(c:Int).tdiv 64=((c / 64:Nat):Int):=by rw[a2z (by omega)];omega
   have H:(c:Int).tmod 64=((c % 64:Nat):Int):=by rw[a2f (by omega)];omega
   have W0:=aj (YU (pU s f j) c 0 (by omega) h);have t:=aj (YU (pU s f j) c 1 (by omega) h);have p:=aj (YU (pU s f j) c 2 (by omega) h);have n:=aj (YU (pU s f j) c 3 (by omega) h);have G:=jv (pU s f j) 0;have E:=jv (pU s f j) 1;have l2:=jv (pU s f j) 2;have D:=jv (pU s f j) 3;have m:c % 64<64:=a3i _ (by decide);have hq:c / 64<4:=by omega
   generalize wd (pU s f j) 0=C at *;generalize wd (pU s f j) 1=s1 at *;generalize wd (pU s f j) 2=s2 at *;generalize wd (pU s f j) 3=B at *;generalize c % 64=r at *;generalize c / 64=q at *;obtain⟨c0,c1,c2,c3⟩:=d.cells;have z:=d.fz;have g:=aj d;clear d;rcases(by omega:q=0\/q=1\/q=2\/q=3) with rfl|rfl|rfl|rfl
   .go_wp2_with fail
    go_region
    go_wp2;go_roundg (gk-1)
    case measure=>omega
    case rel =>
     refine⟨j+1,c+1,by omega,by rw[a.o];omega,by go_num,?_,(F.o.setCell (.inl (by simp)) _).drew⟩;rw[i.o,W0.o,t.o,p.o,n.o];have:=(g.o.set0 (Go.bits BinOp.or IntKind.u64 C (IntKind.u64.wrap (2 ^ r)))).drew;rw[or_bit _ _ G m]at this |-;simpa using this
   .go_wp2_with fail
    go_region
    go_wp2;go_roundg (gk-1)
    case measure=>omega
    case rel =>
     refine⟨j+1,c+1,by omega,by rw[a.o];omega,by go_num,?_,(F.o.setCell (.inl (by simp)) _).drew⟩;rw[i.o,W0.o,t.o,p.o,n.o];have:=(g.o.set1 (Go.bits BinOp.or IntKind.u64 s1 (IntKind.u64.wrap (2 ^ r)))).drew;rw[or_bit _ _ E m]at this |-;simpa using this
   .go_wp2_with fail
    go_region
    go_wp2;go_roundg (gk-1)
    case measure=>omega
    case rel =>
     refine⟨j+1,c+1,by omega,by rw[a.o];omega,by go_num,?_,(F.o.setCell (.inl (by simp)) _).drew⟩;rw[i.o,W0.o,t.o,p.o,n.o];have:=(g.o.set2 (Go.bits BinOp.or IntKind.u64 s2 (IntKind.u64.wrap (2 ^ r)))).drew;rw[or_bit _ _ l2 m]at this |-;simpa using this
   go_wp2_with fail
   go_region
   go_wp2;go_roundg (gk-1)
   case measure=>omega
   case rel =>
    refine⟨j+1,c+1,by omega,by rw[a.o];omega,by go_num,?_,(F.o.setCell (.inl (by simp)) _).drew⟩;rw[i.o,W0.o,t.o,p.o,n.o];have:=(g.o.ahr (Go.bits BinOp.or IntKind.u64 B (IntKind.u64.wrap (2 ^ r)))).drew;rw[or_bit _ _ D m]at this |-;simpa using this
  have he:j=l+1-f:=by omega
  subst he;have g:=aj d;clear d;have dZ:¬ (c<=l):=by omega
  go_wp2;go_end0
  exact⟨rfl,g,F⟩
def PS(w:World)(b:Nat)(t:LB)(i:Nat)(vs:Value):Prop :=
 w.heap[b]?=some (.cells #[zT t,zI i,vs] 243 (0,0))/\i<=t.length/\t.length<=1048576
theorem PS.c0(h:PS w b t i vs):zC w b 0 (zT t):=by simp[World.cell?,h.1]
theorem PS.c1(h:PS w b t i vs):zC w b 1 (zI i):=by simp[World.cell?,h.1]
theorem PS.c2(h:PS w b t i vs):zC w b 2 vs:=by simp[World.cell?,h.1]
theorem PS.fz(h:PS w b t i vs)(o:Nat):w.frozen? (zB b o)=false:=by simp[World.frozen?,h.1]
theorem PS.lt(h:PS w b t i vs):b<w.heap.size:=(a0c.1 h.1).1
theorem PS.aC(h:PS w b t i vs)(f:aB S w w')(a:b∉S):PS w' b t i vs:=⟨(f.block b h.lt a).trans h.1,h.2⟩
theorem PS.drew(h:PS w b t i vs):PS w.drew b t i vs:=h
theorem PS.drewN(n:Nat)(h:PS w b t i vs):PS (w.drewN n) b t i vs:=h
def PS.at_(h:PS w b t i vs)(j:Nat)(a:j<=t.length):PS (w.setCell (zB b 1) (zI j)) b t j vs:=by refine⟨?_,a,h.2.2⟩;have:=h.1;simp[World.setCell,a0v,this]
def PS.sets(h:PS w b t i vs)(v:Value):PS (w.setCell (zB b 2) v) b t i v:=by refine⟨?_,h.2⟩;have:=h.1;simp[World.setCell,a0v,this]
def PA(w:World)(b:Nat)(t l:LB)(vs:Value):Prop:=∃i,PS w b t i vs/\t.drop i=l
theorem PA.drewN(n:Nat)(h:PA w b t l vs):PA (w.drewN n) b t l vs:=h
theorem PA.aC(h:PA w b t l vs)(f:aB S w w')(a:b∉S):PA w' b t l vs:=by obtain⟨i,d,c⟩:=h;exact⟨i,d.aC f a,c⟩
def tk(c:UInt8):LB->Bool
 | []=>false
 | x::_=>x==c
def rs(c:UInt8)(l:LB):LB:=if tk c l then l.tail else l
theorem drop_cons(h:t.drop i=l):(i<t.length->∃a:i<t.length,l=t[i]::t.drop (i+1))/\(¬ i<t.length->l=[]):=by
 constructor
 .intro a;exact⟨a,by rw[<-h];exact a0k a⟩
 intro a;rw[<-h];exact a0i (by omega)
def jI(b:Nat)(t l:LB)(vs:Value)(c:UInt8)(w:World)(h:PA w b t l vs) :
 zF 169 #[zP b,.int .u8 c.toNat] w λe w'=>e=zR (.bool (tk c l))/\PA w' b t (rs c l) vs/\aB [b] w w':=by
 obtain⟨i,d,g⟩:=h;have c0:=d.c0;have c1:=d.c1;have z:=d.fz 1;have q:=d.2.1;have ht:=d.2.2;have o:=bL t
 by_cases k:i<t.length
 .have n:decide ((t.length:Int)<=(i:Int))=false:=a0f (by omega)
  obtain⟨_,f⟩:=(drop_cons g).1 k;have p:(bs t)[i]'(by rw[o];omega)=t[i]:=rfl;generalize m:t[i]=x at *
  by_cases j:x=c
  .subst j
   have a:tk x l=true/\rs x l=t.drop (i+1):=by show _/\_;rw[f];simp[tk,rs]
   clear f m;have hb:((x.toNat:Int) != (x.toNat:Int))=false:=by simp
   delta zF;go_in
   go_wp2_with fail
   go_quiet (fail)
   go_wp2;go_ret;rw[a.1,a.2];exact⟨rfl,⟨i+1,(d.drewN _).at_ (i+1) k,rfl⟩,(zK.drewN _).setCell (.inl (by simp)) _⟩
  have a:tk c l=false/\rs c l=l:=by show _/\_;rw[f];simp[tk,rs,j]
  have hb:((x.toNat:Int) != (c.toNat:Int))=true:=by rw[a1M];intro e;exact j (a1w.1 (by omega))
  clear f m;delta zF;go_in
  go_wp2_with fail
  go_quiet (fail)
  go_wp2;go_ret;rw[a.1,a.2];exact⟨rfl,⟨i,d.drewN _,g⟩,zK.drewN _⟩
 have n:decide ((t.length:Int)<=(i:Int))=true:=a0g (by omega);have a:tk c l=false/\rs c l=l:=by show _/\_;rw[(drop_cons g).2 k];simp[tk,rs]
 delta zF;go_in
 go_wp2_with fail
 go_quiet (fail)
 go_wp2;go_ret;rw[a.1,a.2];exact⟨rfl,⟨i,d.drewN _,g⟩,zK.drewN _⟩
def Bj(b:Nat)(t l:LB)(vs:Value)(w:World)(h:PA w b t l vs) :
 zF 200 #[zP b] w λe w'=>e=zQ #[.int .u8 (hd l),.bool (!l.isEmpty)]/\PA w' b t l.tail vs/\aB [b] w w':=by
 obtain⟨i,c,g⟩:=h;have c0:=c.c0;have c1:=c.c1;have z:=c.fz 1;have o:=c.2.1;have ht:=c.2.2;have k:=bL t
 by_cases f:i<t.length
 .have j:decide ((t.length:Int)<=(i:Int))=false:=a0f (by omega)
  obtain⟨_,d⟩:=(drop_cons g).1 f;have n:(bs t)[i]'(by rw[k];omega)=t[i]:=rfl;generalize m:t[i]=x at *;have a:hd l=x.toNat/\l.isEmpty=false/\l.tail=t.drop (i+1):=by show _/\_;rw[d];simp[hd]
  clear d m;delta zF;go_in
  go_wp2_with fail
  go_quiet (fail)
  go_wp2_with fail
  go_quiet (fail)
  go_wp2;go_ret2;rw[a.1,a.2.1,a.2.2];exact⟨rfl,⟨i+1,(c.drewN _).at_ (i+1) f,rfl⟩,((aB.refl [b] w).drewN _).setCell (p:=(zB b 1)) (.inl (by simp)) _⟩
 have j:decide ((t.length:Int)<=(i:Int))=true:=a0g (by omega);have d:=(drop_cons g).2 f;have a:hd l=0/\l.isEmpty=true/\l.tail=l:=by show _/\_;rw[d];simp[hd]
 clear d;delta zF;go_in
 go_wp2_with fail
 go_quiet (fail)
 go_wp2;go_ret2;rw[a.1,a.2.1,a.2.2];exact⟨rfl,⟨i,c.drewN _,g⟩,zK.drewN _⟩
def MZ(l:LB):Bool:=l.isEmpty||tk 124 l||tk 41 l
def Qs(b:Nat)(t l:LB)(vs:Value)(w:World)(h:PA w b t l vs) :
 zF 180 #[zP b] w λe w'=>e=zR (.bool (MZ l))/\∃n,w'=w.drewN n:=by
 obtain⟨i,a,f⟩:=h;have c0:=a.c0;have c1:=a.c1;have u:=a.2.1;have ht:=a.2.2;have q:=bL t
 by_cases k:i<t.length
 .have p:decide ((t.length:Int)<=(i:Int))=false:=a0f (by omega)
  have o:decide (t.length<=i)=false:=a0f (by omega);obtain⟨_,d⟩:=(drop_cons f).1 k;have s:(bs t)[i]'(by rw[q];omega)=t[i]:=rfl;generalize r:t[i]=x at *;have c:MZ l=((x==124)||(x==41)):=by rw[d];simp[MZ,tk]
  have j:((x.toNat:Int)==124)=(x==124):=by
   rw[a0T];simp;constructor
   .intro e;exact a1w.1 (by simpa using(by omega:x.toNat=124))
   intro e;subst e;rfl
  have g:((x.toNat:Int)==41)=(x==41):=by
   rw[a0T];simp;constructor
   .intro e;exact a1w.1 (by simpa using(by omega:x.toNat=41))
   intro e;subst e;rfl
  clear d r a f;cases m:(x==124)
  .rw[m]at j c
   delta zF;go_in
   go_wp2_with fail
   go_quiet (fail)
   go_wp2;go_ret;rw[c];exact⟨dD (by rw[<-g];rfl),_,rfl⟩
  rw[m]at j c;delta zF;go_in
  go_wp2_with fail
  go_quiet (fail)
  go_wp2;go_ret;rw[c];exact⟨dD (by rfl),_,rfl⟩
 have p:decide ((t.length:Int)<=(i:Int))=true:=a0g (by omega);have o:decide (t.length<=i)=true:=a0g (by omega);have d:=(drop_cons f).2 k;have c:MZ l=true:=by rw[d];rfl
 clear d a f;delta zF;go_in
 go_wp2_with fail
 go_quiet (fail)
 go_wp2;go_ret;rw[c];exact⟨rfl,_,rfl⟩
theorem jw(c:UInt8)(l:LB):tk c l=bA c l:=by cases l<;>rfl
def yA(l:LB):Nat:=match di l with | some (n,_)=>n|none=>0
def wS(l:LB):LB:=match di l with | some (_,r)=>r|none=>l
theorem afj(a b:UInt8):(a<=b)=(a.toNat<=b.toNat):=by rw[a1p]
def asi {a b:Int} {c d:Bool}(h:a=b)(e:c=d):Ending.returned (.tuple #[zI a,.bool c])=zQ #[zI b,.bool d]:=by rw[h,e]
def Cu(b:Nat)(t l:LB)(vs:Value)(w:World)(h:PA w b t l vs) :
 zF 211 #[zP b] w λe w'=>e=zQ #[zI (yA l),.bool (di l).isSome]/\PA w' b t (wS l) vs/\aB [b] w w':=by
 obtain⟨i,c,g⟩:=h;have c0:=c.c0;have c1:=c.c1;have z:=c.fz 1;have C:=c.2.1;have ht:=c.2.2;have y:=bL t
 by_cases k:i<t.length
 .have v:decide ((t.length:Int)<=(i:Int))=false:=a0f (by omega)
  have s:decide (t.length<=i)=false:=a0f (by omega);obtain⟨_,d⟩:=(drop_cons g).1 k;have B:(bs t)[i]'(by rw[y];omega)=t[i]:=rfl;generalize q:t[i]=x at *;have u:=x.toNat_lt
  by_cases o:48<=x.toNat/\x.toNat<=57
  .have a:yA l=x.toNat-48/\(di l).isSome=true/\wS l=t.drop (i+1):=by
    show _/\_;have m:(48<=x&&x<=57)=true:=by simp[afj];exact o
    unfold yA wS;rw[d];simp only[di,m,a0G];simp
   clear d q;have n:decide ((x.toNat:Int)<48)=false:=a0f (by omega);have r:decide ((57:Int)<(x.toNat:Int))=false:=a0f (by omega);have f:decide (x.toNat<48)=false:=a0f (by omega);have j:decide (57<x.toNat)=false:=a0f (by omega);delta zF;go_in
   go_wp2_with fail
   go_quiet (fail)
   go_wp2_with fail
   go_quiet (fail)
   go_wp2;go_ret2;rw[a.1,a.2.1,a.2.2];refine⟨?_,⟨i+1,(c.drewN _).at_ (i+1) k,rfl⟩,((aB.refl [b] w).drewN _).setCell (p:=(zB b 1)) (.inl (by simp)) _⟩;exact asi (by omega) rfl
  have a:yA l=0/\(di l).isSome=false/\wS l=l:=by
   show _/\_;have m:(48<=x&&x<=57)=false:=by rw[a2p];intro e;simp[afj]at e;exact o e
   unfold yA wS;rw[d];simp only[di,m];simp
  clear d q
  by_cases A:x.toNat<48
  have n:decide ((x.toNat:Int)<48)=true:=a0g (by omega);have f:decide (x.toNat<48)=true:=a0g (by omega)
  rotate_left
  have n:decide ((x.toNat:Int)<48)=false:=a0f (by omega);have f:decide (x.toNat<48)=false:=a0f (by omega);have r:decide ((57:Int)<(x.toNat:Int))=true:=a0g (by omega);have j:decide (57<x.toNat)=true:=a0g (by omega)
  all_goals
   delta zF;go_in
   go_wp2_with fail
   go_quiet (fail)
   go_wp2;go_ret2;rw[a.1,a.2.1,a.2.2];exact⟨rfl,⟨i,c.drewN _,g⟩,zK.drewN _⟩
 have v:decide ((t.length:Int)<=(i:Int))=true:=a0g (by omega);have s:decide (t.length<=i)=true:=a0g (by omega);have d:=(drop_cons g).2 k;have a:yA l=0/\(di l).isSome=false/\wS l=l:=by show _/\_;rw[d];exact⟨rfl,rfl,rfl⟩
 clear d;delta zF;go_in
 go_wp2_with fail
 go_quiet (fail)
 go_wp2;go_ret2;rw[a.1,a.2.1,a.2.2];exact⟨rfl,⟨i,c.drewN _,g⟩,zK.drewN _⟩
def Iy(x:UInt8)(n:Nat)(a:n<256):((x.toNat:Int)==(n:Int))=(x==UInt8.ofNat n):=by
 have h:(UInt8.ofNat n).toNat=n:=by rw[UInt8.toNat_ofNat'];exact Nat.mod_eq_of_lt a
 rw[a0T,a0W,a0W]
 constructor
 .intro e
  apply a1w.1;rw[h];omega
 intro e;rw[e,h]
def Tj(b:Nat)(t l:LB)(vs:Value)(w:World)(h:PA w b t l vs) :
 zF 190 #[zP b] w λe w'=>e=zR (.bool (DK l))/\∃n,w'=w.drewN n:=by
 obtain⟨i,a,o⟩:=h;have c0:=a.c0;have c1:=a.c1;have C:=a.2.1;have ht:=a.2.2;have z:=bL t
 by_cases q:i<t.length
 .have r:decide ((t.length:Int)<=(i:Int))=false:=a0f (by omega)
  obtain⟨_,j⟩:=(drop_cons o).1 q;have B:(bs t)[i]'(by rw[z];omega)=t[i]:=rfl;generalize A:t[i]=x at *;have g:DK l=DI x:=by rw[j];rfl
  have f:=Iy x 42 (by omega);have d:=Iy x 43 (by omega);have c:=Iy x 63 (by omega);have k:=Iy x 123 (by omega);have p:DI x=(x==42||x==43||x==63||x==123):=rfl;clear j A a o;cases k1:(x==42)
  .have y:((x.toNat:Int)==42)=false:=f.trans k1
   cases k2:(x==43)
   .have v:((x.toNat:Int)==43)=false:=d.trans k2
    cases m:(x==63)
    .have u:((x.toNat:Int)==63)=false:=c.trans m
     have s:((x.toNat:Int)==123)=(x==123):=k;clear f d c k;delta zF;go_in
     go_wp2_with fail
     go_quiet (fail)
     go_wp2_with fail
     go_quiet (fail)
     go_wp2;go_ret;rw[g,p,k1,k2,m];exact⟨dD (by simp[s]),_,rfl⟩
    have u:((x.toNat:Int)==63)=true:=c.trans m;clear f d c k;delta zF;go_in
    go_wp2_with fail
    go_quiet (fail)
    go_wp2_with fail
    go_quiet (fail)
    go_wp2;go_ret;rw[g,p,k1,k2,m];exact⟨dD (by simp),_,rfl⟩
   have v:((x.toNat:Int)==43)=true:=d.trans k2;clear f d c k;delta zF;go_in
   go_wp2_with fail
   go_quiet (fail)
   go_wp2_with fail
   go_quiet (fail)
   go_wp2;go_ret;rw[g,p,k1,k2];exact⟨dD (by simp),_,rfl⟩
  have y:((x.toNat:Int)==42)=true:=f.trans k1;clear f d c k;delta zF;go_in
  go_wp2_with fail
  go_quiet (fail)
  go_wp2_with fail
  go_quiet (fail)
  go_wp2;go_ret;rw[g,p,k1];exact⟨dD (by simp),_,rfl⟩
 have r:decide ((t.length:Int)<=(i:Int))=true:=a0g (by omega);have j:=(drop_cons o).2 q;have g:DK l=false:=by rw[j];rfl
 clear j a o;delta zF;go_in
 go_wp2_with fail
 go_quiet (fail)
 go_wp2;go_ret;rw[g];exact⟨rfl,_,rfl⟩
def Yt:Option Nat->Int
 | none=>-1
 | some n=>n
def CP(p:Option ((Nat × Option Nat) × LB))(a m:Int)(ok:Bool)(b:LB):Prop :=
 match p with
 | some ((lo,c),r)=>a=lo/\m=Yt c/\ok=true/\b=r
 | none=>ok=false
def afk(h:(di l).isSome=false):dL l=none:=by
 unfold dL;cases hd:di l with
 | none=>rfl
 | some x=>rw[hd]at h;simp at h
def adz(h:(di l).isSome=true):di l=some (yA l,wS l)/\yA l<=9:=by
 cases hd:di l with
 | none=>rw[hd]at h;simp at h
 | some x=>obtain⟨n,r⟩:=x;have:=zz hd;unfold yA wS;rw[hd];exact⟨rfl,this.2⟩
def ana(h:(di l).isSome=false):di l=none/\wS l=l:=by
 cases hd:di l with
 | none=>unfold wS;rw[hd];exact⟨rfl,rfl⟩
 | some x=>rw[hd]at h;simp at h
def Yu(b:Nat)(t l:LB)(vs:Value)(w:World)(h:PA w b t l vs) :
 zF 206 #[zP b] w λe w'=>∃a m ok F,e=zQ #[zI a,zI m,.bool ok]/\PA w' b t F vs/\aB [b] w w'/\CP (dL l) a m ok F:=by
 cases A:(di l).isSome
 .have B:=afk A
  delta zF;go_in
  go_wp2_with fail
  refine(Cu b t l vs w h).mono ?_;rintro e w1 ⟨rfl,D,F1⟩;rw[A];go_wp2;go_ret3
  refine⟨_,_,_,_,rfl,D,F1,?_⟩;rw[B];rfl
 obtain⟨E,O⟩:=adz A;have B:dL l=if bA 44 (wS l) then
  match di (wS l).tail with
  | some (n,u)=>if bA 125 u&&decide (yA l<=n) then some ((yA l,some n),u.tail) else none
  | none=>if bA 125 (wS l).tail then some ((yA l,none),(wS l).tail.tail) else none
 else if bA 125 (wS l) then some ((yA l,some (yA l)),(wS l).tail) else none:=by
  conv=>lhs;unfold dL
  rw[E]
  all_goals rfl
 delta zF;go_in
 go_wp2_with fail
 refine(Cu b t l vs w h).mono ?_;rintro e w1 ⟨rfl,D,F1⟩;rw[A];generalize yA l=lo at *;generalize wS l=r at *;go_wp2_with fail
 refine(jI b t r vs 44 w1 D).mono ?_;rintro e w2 ⟨rfl,C,H⟩;have F2:=F1.trans H;clear H;cases o:tk 44 r
 .have k:rs 44 r=r:=by unfold rs;rw[o];rfl
  rw[jw]at o;have g:dL l=if bA 125 r then some ((lo,some lo),r.tail) else none:=by rw[B,o];rfl
  go_wp2_with fail
  refine(jI b t (rs 44 r) vs 125 w2 C).mono ?_;rintro e w3 ⟨rfl,j,x⟩;have F3:=F2.trans x;clear x;rw[k]at j |-;cases y:tk 125 r
  .go_wp2
   go_ret3
   refine⟨_,_,_,_,rfl,j,F3,?_⟩;rw[jw]at y;rw[g,y];rfl
  have s:rs 125 r=r.tail:=by unfold rs;rw[y];rfl
  have M:((lo:Int) == -1)=false:=a0j.2 (by omega);go_wp2;go_ret3
  refine⟨_,_,_,_,rfl,j,F3,?_⟩;rw[jw]at y;rw[g,y,s];exact⟨rfl,rfl,rfl,rfl⟩
 have k:rs 44 r=r.tail:=by unfold rs;rw[o];rfl
 rw[jw]at o;have g:dL l=match di r.tail with
  | some (n,u)=>if bA 125 u&&decide (lo<=n) then some ((lo,some n),u.tail) else none
  | none=>if bA 125 r.tail then some ((lo,none),r.tail.tail) else none:=by
  rw[B,o];rfl
 rw[k]at C;go_wp2_with fail
 refine(Cu b t r.tail vs w2 C).mono ?_;rintro e w3 ⟨rfl,j,x⟩;have F3:=F2.trans x;clear x;cases G:(di r.tail).isSome
 .obtain⟨f,I⟩:=ana G
  have d:dL l=if bA 125 r.tail then some ((lo,none),r.tail.tail) else none:=by rw[g,f]
  rw[I]at j;clear f I;go_wp2_with fail
  refine(jI b t r.tail vs 125 w3 j).mono ?_;rintro e J ⟨rfl,p,v⟩;have F4:=F3.trans v;clear v;cases c:tk 125 r.tail
  .go_wp2
   go_ret3
   refine⟨_,_,_,_,rfl,p,F4,?_⟩;rw[jw]at c;rw[d,c];rfl
  have s:rs 125 r.tail=r.tail.tail:=by unfold rs;rw[c];rfl
  go_wp2;go_ret3
  refine⟨_,_,_,_,rfl,p,F4,?_⟩;rw[jw]at c;rw[d,c,s];exact⟨rfl,rfl,rfl,rfl⟩
 obtain⟨f,L⟩:=adz G;have d:dL l=if bA 125 (wS r.tail)&&decide (lo<=yA r.tail) then some ((lo,some (yA r.tail)),(wS r.tail).tail) else none:=by rw[g,f]
 clear f;generalize yA r.tail=z at *;generalize wS r.tail=q at *;go_wp2_with fail
 refine(jI b t q vs 125 w3 j).mono ?_;rintro e J ⟨rfl,p,v⟩;have F4:=F3.trans v;clear v;have M:((z:Int) == -1)=false:=a0j.2 (by omega);cases c:tk 125 q
 .go_wp2
  go_ret3
  refine⟨_,_,_,_,rfl,p,F4,?_⟩;rw[jw]at c;rw[d,c];rfl
 have s:rs 125 q=q.tail:=by unfold rs;rw[c];rfl
 by_cases i:lo<=z
 .have N:decide ((lo:Int)<=(z:Int))=true:=a0g (by omega)
  go_wp2;go_ret3
  refine⟨_,_,_,_,rfl,p,F4,?_⟩;rw[jw]at c;rw[d,c,s,a0g i];exact⟨rfl,rfl,by first | rfl|simp[i],rfl⟩
 have N:decide ((lo:Int)<=(z:Int))=false:=a0f (by omega);go_wp2;go_ret3
 refine⟨_,_,_,_,rfl,p,F4,?_⟩;rw[jw]at c;rw[d,c,a0f i];show _=false
 first | rfl|simp[i]
theorem vE {c:UInt8}(h:tk c l=true):rs c l=l.tail:=by unfold rs;rw[h];rfl
theorem wU {c:UInt8}(h:tk c l=false):rs c l=l:=by unfold rs;rw[h];rfl
theorem apN {c:UInt8}(h:tk c l=true):l=c::l.tail:=by
 cases l with
 | nil=>simp[tk]at h
 | cons x r=>simp[tk]at h;simp[h]
def apO(l:LB):DJ l=if tk 42 l then some ((0,none),l.tail) else if tk 43 l then some ((1,none),l.tail) else if tk 63 l then some ((0,some 1),l.tail) else if tk 123 l then dL l.tail else none:=by cases l<;>rfl
def Oa(b:Nat)(t l:LB)(vs:Value)(w:World)(h:PA w b t l vs) :
 zF 191 #[zP b] w λe w'=>∃a m ok k,e=zQ #[zI a,zI m,.bool ok]/\PA w' b t k vs/\aB [b] w w'/\CP (DJ l) a m ok k:=by
 have j:=apO l;delta zF;go_in
 go_wp2_with fail
 refine(jI b t l vs 42 w h).mono ?_;rintro e w1 ⟨rfl,f,F1⟩;cases k1:tk 42 l
 case true =>
  rw[vE k1]at f;go_wp2;go_ret3
  refine⟨_,_,_,_,rfl,f,F1,?_⟩;rw[j,k1];exact⟨rfl,rfl,rfl,rfl⟩
 rw[wU k1]at f;have f:=f;go_wp2_with fail
 refine(jI b t l vs 43 w1 f).mono ?_;rintro e w2 ⟨rfl,d,r⟩;have F2:=F1.trans r;clear r;cases k2:tk 43 l
 case true =>
  rw[vE k2]at d;go_wp2;go_ret3
  refine⟨_,_,_,_,rfl,d,F2,?_⟩;rw[j,k1,k2];exact⟨rfl,rfl,rfl,rfl⟩
 rw[wU k2]at d;have d:=d;go_wp2_with fail
 refine(jI b t l vs 63 w2 d).mono ?_;rintro e w3 ⟨rfl,c,q⟩;have F3:=F2.trans q;clear q;cases g:tk 63 l
 case true =>
  rw[vE g]at c;go_wp2;go_ret3
  refine⟨_,_,_,_,rfl,c,F3,?_⟩;rw[j,k1,k2,g];exact⟨rfl,rfl,rfl,rfl⟩
 rw[wU g]at c;have c:=c;go_wp2_with fail
 refine(jI b t l vs 123 w3 c).mono ?_;rintro e s ⟨rfl,i,p⟩;have F4:=F3.trans p;clear p;cases n:tk 123 l
 case false =>
  go_wp2;go_ret3
  refine⟨_,_,_,_,rfl,i,F4,?_⟩;rw[j,k1,k2,g,n];rfl
 rw[vE n]at i;have i:=i;have v:DJ l=dL l.tail:=by rw[j,k1,k2,g,n];rfl
 go_wp2_with fail
 refine(Yu b t l.tail vs s i).mono ?_;rintro e y ⟨a,m,ok,k,rfl,u,o,x⟩;have F5:=F4.trans o;clear o;go_wp2;go_ret3
 refine⟨_,_,_,_,rfl,u,F5,?_⟩;rw[v];exact x
def BP(p:Option (UInt8 × LB))(v:UInt8)(ok:Bool)(a:LB):Prop :=
 match p with
 | some (c,r)=>v=c/\ok=true/\a=r
 | none=>ok=false
def hdB(l:LB):UInt8:=l.head?.getD 0
theorem alz(l:LB):hd l=((hdB l).toNat:Int):=rfl
def D8(b:Nat)(t l:LB)(vs:Value)(w:World)(h:PA w b t l vs) :
 zF 212 #[zP b] w λe w'=>∃(v:UInt8) (ok:Bool) (q:LB),e=zQ #[.int .u8 v.toNat,.bool ok]/\PA w' b t q vs/\aB [b] w w'/\BP (lh l) v ok q:=by
 delta zF;go_in
 go_wp2_with fail
 refine(jI b t l vs 92 w h).mono ?_;rintro e w1 ⟨rfl,m,F1⟩;cases k1:tk 92 l
 case true =>
  rw[vE k1]at m;have a:lh l=match l.tail with | []=>none|d::p=>some (d,p):=by rw[apN k1];rfl
  go_wp2_with fail
  refine(Bj b t l.tail vs w1 m).mono ?_;rintro e w2 ⟨rfl,j,o⟩;have F2:=F1.trans o;clear o;rw[alz];go_wp2;go_ret2;refine⟨hdB l.tail,_,_,rfl,j,F2,?_⟩;rw[a];cases l.tail with
  | nil=>rfl
  | cons d p=>exact⟨rfl,rfl,rfl⟩
 rw[wU k1]at m;have m:=m;go_wp2_with fail
 refine(Bj b t l vs w1 m).mono ?_;rintro e w2 ⟨rfl,j,o⟩;have F2:=F1.trans o;clear o;rw[alz];have i:=Iy (hdB l) 93 (by omega);have g:=Iy (hdB l) 91 (by omega);have f:=Iy (hdB l) 45 (by omega);have a:lh l=if l.isEmpty then none else if hdB l==93||hdB l==91||hdB l==45 then none else some (hdB l,l.tail):=by
  cases l with
  | nil=>rfl
  | cons x r=>have:(x==92)=false:=k1;simp only[lh,this];rfl
 generalize hdB l=x at *;cases k2:l.isEmpty
 .rw[k2]at a
  cases c:(x==93)
  .have y:((x.toNat:Int) != 93)=true:=by rw[a1M];intro e;rw[show(x==93)=true from i.symm.trans (a0W.2 e)]at c;cases c
   cases k:(x==91)
   .have u:((x.toNat:Int) != 91)=true:=by rw[a1M];intro e;rw[show(x==91)=true from g.symm.trans (a0W.2 e)]at k;cases k
    cases n:(x==45)
    .have s:((x.toNat:Int) != 45)=true:=by rw[a1M];intro e;rw[show(x==45)=true from f.symm.trans (a0W.2 e)]at n;cases n
     rw[c,k,n]at a;clear i g f;go_wp2;go_ret2;refine⟨x,_,_,rfl,j,F2,?_⟩;rw[a];exact⟨rfl,rfl,rfl⟩
    have s:((x.toNat:Int) != 45)=false:=by rw[a1X];exact a0W.1 (f.trans n)
    rw[c,k,n]at a;clear i g f;go_wp2;go_ret2;refine⟨x,_,_,rfl,j,F2,?_⟩;rw[a];rfl
   have u:((x.toNat:Int) != 91)=false:=by rw[a1X];exact a0W.1 (g.trans k)
   rw[c,k]at a;clear i g f;go_wp2;go_ret2;refine⟨x,_,_,rfl,j,F2,?_⟩;rw[a];rfl
  have y:((x.toNat:Int) != 93)=false:=by rw[a1X];exact a0W.1 (i.trans c)
  rw[c]at a;clear i g f;go_wp2;go_ret2;refine⟨x,_,_,rfl,j,F2,?_⟩;rw[a];rfl
 rw[k2]at a;clear i g f;go_wp2;go_ret2;refine⟨x,_,_,rfl,j,F2,?_⟩;rw[a];rfl
def IP(p:Option ((UInt8 × UInt8) × LB))(a c:UInt8)(ok:Bool)(b:LB):Prop :=
 match p with
 | some ((x,y),r)=>a=x/\c=y/\ok=true/\b=r
 | none=>ok=false
def acs(b:Nat)(t l:LB)(vs:Value)(w:World)(h:PA w b t l vs) :
 zF 210 #[zP b] w λe w'=>∃(a c:UInt8) (ok:Bool) (u:LB),e=zQ #[.int .u8 a.toNat,.int .u8 c.toNat,.bool ok]/\PA w' b t u vs/\aB [b] w w'/\IP (tN l) a c ok u:=by
 have g:tN l=match lh l with
  | none=>none
  | some (a,r)=>if bA 45 r then (match lh r.tail with | none=>none|some (b,r2)=>if a<=b then some ((a,b),r2) else none) else some ((a,a),r):=rfl
 delta zF;go_in
 go_wp2_with fail
 refine(D8 b t l vs w h).mono ?_;rintro e w1 ⟨x,k,m,rfl,B,F1,p⟩;cases v:lh l with
 | none =>
   rw[v]at p g;obtain rfl:k=false:=p;go_wp2;go_ret3
   refine⟨0,0,_,_,rfl,B,F1,?_⟩;rw[g];rfl
 | some cr =>
   obtain⟨c,r⟩:=cr;rw[v]at p g;obtain⟨rfl,rfl,rfl⟩:x=c/\k=true/\m=r:=p;go_wp2_with fail
   refine(jI b t m vs 45 w1 B).mono ?_;rintro e w2 ⟨rfl,i,A⟩;have F2:=F1.trans A;clear A;cases k2:tk 45 m
   .rw[wU k2]at i
    rw[jw]at k2;have n:decide ((x.toNat:Int)<=(x.toNat:Int))=true:=a0g (a3n _);go_wp2;go_ret3
    refine⟨x,x,_,_,rfl,i,F2,?_⟩;rw[g];simp only[k2];exact⟨rfl,rfl,by first | rfl|simp,rfl⟩
   rw[vE k2]at i;have i:=i;rw[jw]at k2;go_wp2_with fail
   refine(D8 b t m.tail vs w2 i).mono ?_;rintro e w3 ⟨y,j,D,rfl,s,z,f⟩;have F3:=F2.trans z;clear z;cases o:lh m.tail with
   | none =>
     rw[o]at f;obtain rfl:j=false:=f;go_wp2;go_ret3
     refine⟨x,y,_,_,rfl,s,F3,?_⟩;rw[g];simp only[k2,o]
     rfl
   | some cr =>
     obtain⟨d,C⟩:=cr;rw[o]at f;obtain⟨rfl,rfl,rfl⟩:y=d/\j=true/\D=C:=f
     by_cases q:x.toNat<=y.toNat
     .have n:decide ((x.toNat:Int)<=(y.toNat:Int))=true:=a0g (by omega)
      go_wp2;go_ret3
      refine⟨x,y,_,_,rfl,s,F3,?_⟩;rw[g];simp only[k2,o,a0G];rw[a0m (by rw[afj];exact q)];exact⟨rfl,rfl,by first | rfl|simp[q],rfl⟩
     have n:decide ((x.toNat:Int)<=(y.toNat:Int))=false:=a0f (by omega);go_wp2;go_ret3
     refine⟨x,y,_,_,rfl,s,F3,?_⟩;rw[g];simp only[k2,o,a0G];rw[a0n (by rw[afj];exact q)];show _=false
     first | rfl|simp[q]
def Ea(s:Nat):List Value:=[.int .u64 (wd s 0),.int .u64 (wd s 1),.int .u64 (wd s 2),.int .u64 (wd s 3)]
def BL(base:Nat)(w:World)(v:Value)(S:LN):Prop:=w.ownsRow base 261 4 v S.length (S.flatMap Ea)
theorem BL.nil(base:Nat)(w:World):BL base w zN []:=World.ownsRow_nil w base _ 4
def asj:(Tryz.prog.info? 261).map (λi=>(i.zero,i.size,i.bytes))=some (some (.agg #[.int .u64 0,.int .u64 0,.int .u64 0,.int .u64 0]),4,32):=by kernel_rfl
structure FP(base b:Nat)(w w':World):Prop where
 os:w'.os=w.os
 tape:w'.tape=w.tape
 output:w'.output=w.output
 size:w.heap.size<=w'.heap.size
 block:∀k,k<w.heap.size->k≠b->(k<base\/∀cur fz,w.heap[k]?≠some (.cells cur 261 fz))->w'.heap[k]?=w.heap[k]?
theorem FP.refl(base b:Nat)(w:World):FP base b w w:=⟨rfl,rfl,rfl,a0b _,λ_ _ _ _=>rfl⟩
theorem FP.trans{base:Nat}{z:World}(h:FP base b x y)(k:FP base b y z):FP base b x z :=
 ⟨k.os.trans h.os,k.tape.trans h.tape,k.output.trans h.output,a0h h.size k.size,λi c hb a=>by
   have e:=h.block i c hb a;refine(k.block i (a0t c h.size) hb ?_).trans e;rcases a with a|a
   .exact .inl a
   exact .inr (λcur fz=>by rw[e];exact a cur fz)⟩
def FP.Tk{base:Nat}(h:aB [b] w w'):FP base b w w':=⟨h.os,h.tape,h.output,h.size,λk a hb _=>h.block k a (by simpa using hb)⟩
theorem FP.aC{base:Nat}(h:FP base b x w)(f:aB [b] w w'):FP base b x w':=h.trans (.Tk f)
theorem FP.alloc{base:Nat}(h:FP base b x w)(o:Obj):FP base b x (w.alloc o):=h.aC zJ
theorem FP.drew{base:Nat}(h:FP base b x w):FP base b x w.drew:=⟨h.os,h.tape,h.output,h.size,h.block⟩
theorem FP.drewN{base:Nat}(n:Nat)(h:FP base b x w):FP base b x (w.drewN n):=⟨h.os,h.tape,h.output,h.size,h.block⟩
def FP.grown{base:Nat}(ho:w.ownsRow base 261 4 v n xs)(a:w.grownBy w' v.ownBlock):FP base b w w':=by
 refine⟨a.os,a.tape,a.output,a.size,λk d hb c=>a.block k d ?_⟩;intro e;have g:=ho.lt k e.symm;obtain⟨cur,fz,f⟩:=Ip ho k e.symm;rcases c with c|c
 .omega
 exact c cur fz f
def XB(w:World)(eb:Nat)(s:Nat):Prop:=w.heap[eb]?=some (.cells #[zI 0,.int .u64 (wd s 0),.int .u64 (wd s 1),.int .u64 (wd s 2),.int .u64 (wd s 3),zN,.pointer none,zI 0,zI 0] 264 (0,0))
def Cw(base b:Nat)(t l:LB)(vs:Value)(S:LN)(s:Nat)(w:World)(h:PA w b t l vs)(c:BL base w vs S)(hb:b<base)(hz:base<=w.heap.size)(X:S.length<=1048576) :
 zF 203 #[zP b,bv s] w λe w'=>∃(eb:Nat) (v:Value),e=zR (zP eb)/\w.heap.size<=eb/\XB w' eb s/\PA w' b t l v/\BL base w' v (S++[s])/\FP base b w w':=by
 unfold bv;obtain⟨i,j,R⟩:=h;have c2:=j.c2;have G:=j.fz 2;have I:=j.lt;obtain⟨a,cap,rfl⟩:=aW c;obtain⟨C,D,L,J,N⟩:=info_parts asj;have O:∀(w:World) (eb:Nat),eb=w.heap.size->XB (w.alloc (.cells #[zI 0,.int .u64 (wd s 0),.int .u64 (wd s 1),.int .u64 (wd s 2),.int .u64 (wd s 3),zN,.pointer none,zI 0,zI 0] 264)) eb s:=by intro w eb e;subst e;exact bD w _
 have P:S.flatMap Ea++[.int .u64 (wd s 0),.int .u64 (wd s 1),.int .u64 (wd s 2),.int .u64 (wd s 3)]=(S++[s]).flatMap Ea:=by simp[Ea]
 have n:Value.ownBlock (.slice a S.length cap)≠some b:=λe=>by have:=c.lt _ e;omega
 have H:Value.ownBlock (.slice a S.length cap)≠some w.heap.size:=λe=>by have:=c.lt _ e;omega
 generalize wd s 0=g at *;generalize wd s 1=s1 at *;generalize wd s 2=s2 at *;generalize wd s 3=f at *;have F:∀o k:Obj,((w.alloc o).alloc k).drew.frozen? (zB b 2)=false:=λo k=>(((((aB.refl [] w).alloc o).alloc k).drew).frozen I (by simp)).trans G
 delta zF;go_in
 go_wp2_with fail
 go_region_law ((refine step_append_lies _ (by rfl) _ _ _ (by rfl) base 261 C _ 4 32 Tryz.underlying241 D L J N rfl (by omega) (.slice a S.length cap) S.length (S.flatMap Ea) (by rfl) (by exact(c.alloc _).alloc _) (zA (w.heap.size+1)) 1 1 [.int .u64 g,.int .u64 s1,.int .u64 s2,.int .u64 f] (by rfl) (by rfl) (World.news_of_block (cs:=#[.int .u64 g,.int .u64 s1,.int .u64 s2,.int .u64 f]) (t:=261) (fr:=(0,0)) (by exact Ik _ _ _)) (by simp[Value.oneCell']) (by omega) (by unfold maxLen;omega) (by omega) (by simp;omega) (w.heap.size+2) (by simp) ?_;intro m p r q d Z AO;have c4:=(d.cell_far (zB b 2) (by simp;omega) (Ne.symm n));have x:=(d.frozen_far (zB b 2) (by simp;omega) (Ne.symm n));have Y:=x.trans (F _ _)))
 all_goals
  have F4:=aB.fo d;have A:SB r w.heap.size g s1 s2 f:=((SB.new (w:=w) (b:=w.heap.size) rfl).aC (S:=[]) (zJ.drew) (by simp)).aC F4 (by simpa[a0H] using λe=>H e);have y:PS r b t i (.slice a S.length cap):=(j.aC (S:=[]) ((zJ.alloc _).drew) (by simp)).aC F4 (by simpa[a0H] using λe=>n e);have G4:=FP.trans (base:=base) (b:=b) (((FP.refl base b w).alloc _).alloc _).drew (FP.grown ((c.alloc _).alloc _) d);have B:=F4.size;simp at B;have M:=y.sets (zS m (S.length+1) p);have z:=A.far (b':=b) (o:=2) (zS m (S.length+1) p) (by omega);obtain⟨W,V,U,T⟩:=z.cells;clear d F4 A z y c4 x;go_wp2;go_ret;refine⟨_,_,rfl,?_,O _ _ (by simp),⟨i,M.aC zG (by simp),R⟩,?_,(G4.aC (zK.setCell (.inl (by simp)) _)).alloc _⟩
  .omega
  have u:=q;rw[P]at u;have:=ownsRow_setCell_below u (a:=(zB b 2)) hb (zS m (S.length+1) p);have E:=this.alloc (.cells #[zI 0,.int .u64 g,.int .u64 s1,.int .u64 s2,.int .u64 f,zN,.pointer none,zI 0,zI 0] 264);unfold BL;rw[a0p];exact E
theorem aht(s f:Nat):∀k,pU s f k=vg s f k
 | 0=>rfl
 | k+1=>by simp only[pU,vg,aht s f k]
theorem BL.aC {base:Nat} {L:LN}(h:BL base w v L)(f:aB S w w')(a:∀k,k∈S->k<base):BL base w' v L:=fG h f a
def aB.fresh{z:World}(h:aB S x y)(k:aB [n] y z)(c:x.heap.size<=n):aB S x z :=
 ⟨k.os.trans h.os,k.tape.trans h.tape,k.output.trans h.output,a0h h.size k.size,
  λi a b=>(k.block i (a0t a h.size) (by simp;omega)).trans (h.block i a b)⟩
def anb {base:Nat} {e:TypeId} {size:Nat}(h:w.ownsRow base e size v n xs)(f:aB S w w')
 (d:∀k,k∈S->v.ownBlock≠some k):w'.ownsRow base e size v n xs:=by
 refine⟨h.1,?_⟩;rcases h.2 with b|⟨g,cap,cur,rfl,hb,a,rest⟩
 .exact .inl b
 refine .inr ⟨g,cap,cur,rfl,hb,?_,rest⟩;rw[f.block g (a0c.1 a).1 (λc=>d g c (by simp[Value.ownBlock]))];exact a
def SP(base b:Nat)(t:LB)(S:LN)(w:World)(p:Option (Nat × LB))(e:Ending)(w':World):Prop :=
 match p with
 | some (s,r)=>∃(eb:Nat) (a:Value),e=zR (zP eb)/\w.heap.size<=eb/\XB w' eb s/\PA w' b t r a/\BL base w' a (S++[s])/\FP base b w w'
 | none=>e=zR (.pointer none)/\(∃c a,PA w' b t c a)/\FP base b w w'
theorem PA.len(h:PA w b t l vs):l.length<=t.length/\t.length<=1048576:=by obtain⟨i,c,a⟩:=h;exact⟨by rw[<-a];simp,c.2.2⟩
def aaX(base b:Nat)(t l:LB)(vs:Value)(S:LN)(w:World)(h:PA w b t l vs)(hs:BL base w vs S)(hb:b<base)(hz:base<=w.heap.size)(hS:S.length<=1000000) :
 zF 202 #[zP b] w λe w'=>SP base b t S w (nT l) e w':=by
 have jE:b<w.heap.size:=by omega
 delta zF;go_in
 go_wp2_with fail
 refine(jI b t l vs 94 w h).mono ?_;rintro e w1 ⟨rfl,P1,F1⟩;have X:=F1.size;obtain⟨m,N⟩:∃m,m=rs 94 l:=⟨_,rfl⟩;have I:nT l=match fE (l.length+1) 0 m with | none=>none|some (s,r)=>some (if tk 94 l then s ^^^ fU else s,r):=by
  unfold nT;rw[<-jw,N];cases F:tk 94 l
  .rw[wU F]
   simp only[a0A,a0I];cases fE (l.length+1) 0 l with
   | none=>rfl
   | some x=>obtain⟨s,r⟩:=x;rfl
  rw[vE F];rfl
 have hll:m.length<=l.length:=by rw[N];unfold rs;split<;>simp
 rw[<-N]at P1;clear N;generalize tk 94 l=Y at *;go_wp2_with fail
 go_loopg [5] (l.length+2) (λk ve wr=>∃(s':Nat) (g:LB) (R:Bool),ve=.bool R/\SB wr w1.heap.size (wd s' 0) (wd s' 1) (wd s' 2) (wd s' 3)/\PA wr b t g vs/\aB [b] w wr/\s'<2 ^ 256/\w1.heap.size<wr.heap.size /\
  (if R then fE (l.length+1) 0 m=some (s',g) else (∃E,k=E+1/\g.length+1<=E/\fE E s' g=fE (l.length+1) 0 m)))
 case atStart =>
  refine⟨0,m,false,rfl,?_,P1.aC zG (by simp),F1.alloc _,by decide,by simp,?_⟩
  .have:wd 0 0=0/\wd 0 1=0/\wd 0 2=0/\wd 0 3=0:=by decide
   rw[this.1,this.2.1,this.2.2.1,this.2.2.2];exact SB.new rfl
  simp only[a0A,a0I];exact⟨_,rfl,by omega,rfl⟩
 case round =>
  obtain⟨s',g,R,rfl,d,j,F2,JU,eG,i⟩:=hrel;cases R
  case false =>
   simp only[a0A,a0I]at i;obtain⟨E,hk1,JG,Vo⟩:=i;obtain⟨k2,rfl⟩:∃k2,E=k2+1:=⟨E-1,by omega⟩;have H:fE (l.length+1) 0 m=match tN g with | none=>none|some ((a,b),r)=>if bA 93 r then some (addRange s' a b,r.tail) else fE k2 (addRange s' a b) r:=by rw[<-Vo];rfl
   clear Vo;go_wp2_with fail
   refine(acs b t g vs wr j).mono ?_;rintro e w3 ⟨a,c,ok,n,rfl,P3,T,o⟩;have F3:=F2.trans T;have B3:=(d.aC T (by simp;omega));have z3:=T.size;clear T d;cases u:tN g with
   | none =>
     rw[u]at o H;obtain rfl:ok=false:=o;have z:nT l=none:=by rw[I,H]
     go_wp2;go_ret;rw[z];exact⟨rfl,⟨_,_,P3⟩,.Tk F3⟩
   | some x =>
     obtain⟨⟨x,y⟩,r⟩:=x;have hlen:=BZ u;rw[u]at o H;obtain⟨rfl,rfl,rfl,rfl⟩:a=x/\c=y/\ok=true/\n=r:=o;have ha8:=a.toNat_lt;have ZP:=c.toNat_lt;have V:pU s' a.toNat (c.toNat+1-a.toNat)=addRange s' a c:=by rw[aht];rfl
     have Z:=Rq JU a c;go_wp2_with fail
     refine(aaW w1.heap.size s' a.toNat c.toNat w3 (by omega) (by omega) B3).mono ?_;rintro e w4 ⟨rfl,B4,O⟩;rw[V]at B4;have P4:=(P3.aC O (by simp;omega));have F4:=F3.fresh O X;have z4:=O.size;clear O;generalize addRange s' a c=M at *;go_wp2_with fail
     refine(jI b t n vs 93 w4 P4).mono ?_;rintro e L ⟨rfl,q,f⟩;have J:=(B4.aC f (by simp;omega));have F5:=F4.trans f;have z5:=f.size;clear f;have Yv:(rs 93 n).length<=n.length:=by unfold rs;split<;>simp
     cases P:tk 93 n
     .have v:fE (l.length+1) 0 m=fE k2 M n:=by rw[H];simp only[<-jw,P];rfl
      rw[wU P]at q;go_wp2;go_roundg (gk-1)
      case measure=>omega
      case rel=>refine⟨M,n,false,rfl,J,q,F5,Z,by omega,?_⟩;simp only[a0A,a0I];exact⟨k2,by omega,by omega,v.symm⟩
     have v:fE (l.length+1) 0 m=some (M,n.tail):=by rw[H];simp only[<-jw,P];rfl
     rw[vE P]at q;have q:=q;go_wp2;go_roundg (gk-1)
     case measure=>omega
     case rel=>refine⟨M,n.tail,true,rfl,J,q,F5,Z,by omega,?_⟩;simp only[a0G];exact v
  case true =>
   simp only[a0G]at i;have z:nT l=some (if Y then s' ^^^ fU else s',g):=by rw[I,i]
   have Fa:S.length<=1048576:=by omega
   have Zb:=(hs.aC F2 (by simp;omega));have gD:base<=wr.heap.size:=by omega
   have j:=j;have d:=d;clear i;obtain⟨q0,q1,q2,q3⟩:=d.cells;have qf:=d.fz;cases Y
   focus
    go_wp2_with fail
    refine(Cw base b t g vs S s' wr j Zb hb gD Fa).mono ?_;rintro e w6 ⟨eb,iN,rfl,G,X6,P6,L6,U⟩;have G6:=(FP.Tk (base:=base) F2).trans U
   rotate_left
   have HQ:∀(w:World),zF 204 #[.agg #[.int .u64 (wd s' 0),.int .u64 (wd s' 1),.int .u64 (wd s' 2),.int .u64 (wd s' 3)]] w λe w'=>e=zR (.agg #[.int .u64 (wd (s' ^^^ fU) 0),.int .u64 (wd (s' ^^^ fU) 1),.int .u64 (wd (s' ^^^ fU) 2),.int .u64 (wd (s' ^^^ fU) 3)])/\aB [] w w':=λw=>WY s' w
   go_wp2_with fail
   refine(HQ wr).mono ?_;rintro e L ⟨rfl,f⟩;have J:=d.aC f (by simp);have q:=j.aC f (by simp);have S5:=Zb.aC f (by simp);have F5:=F2.trans (f.mono (by simp));have z5:=f.size;obtain⟨q0,q1,q2,q3⟩:=J.cells;have qf:=J.fz;clear f;have W:∀D C B A:Value,aB [w1.heap.size] L ((((L.setCell (zA w1.heap.size) D).setCell (zB w1.heap.size 1) C).setCell (zB w1.heap.size 2) B).setCell (zB w1.heap.size 3) A):=λD C B A=>((((aB.refl [w1.heap.size] L).setCell (p:=(zA w1.heap.size)) (.inl (by simp)) D).setCell (p:=(zB w1.heap.size 1)) (.inl (by simp)) C).setCell (p:=(zB w1.heap.size 2)) (.inl (by simp)) B).setCell (p:=(zB w1.heap.size 3)) (.inl (by simp)) A
   have U6:=(λD C B A=>Cw base b t g vs S (s' ^^^ fU) _ (q.aC (W D C B A) (by simp;omega)) (anb S5 (W D C B A) (by intro k F e;simp at F;subst F;have:=hs.lt _ e;omega)) hb (by simp;omega) Fa);generalize s' ^^^ fU=s6 at *;go_wp2_with fail
   refine(U6 _ _ _ _).mono ?_;rintro e w6 ⟨eb,iN,rfl,G,X6,P6,L6,U⟩;have G6:=(FP.Tk (base:=base) (F5.fresh (W _ _ _ _) X)).trans U;simp at G
   all_goals
    clear U;go_wp2;go_ret;rw[z];exact⟨eb,iN,rfl,by omega,X6,P6,L6,G6⟩
def XN(w:World)(eb:Nat)(k:Int)(v:Value):Prop:=w.heap[eb]?=some (.cells #[zI k,.int .u64 0,.int .u64 0,.int .u64 0,.int .u64 0,v,.pointer none,zI 0,zI 0] 264 (0,0))
def XW(w:World)(eb q:Nat)(lo a:Int):Prop:=w.heap[eb]?=some (.cells #[zI 3,.int .u64 0,.int .u64 0,.int .u64 0,.int .u64 0,zN,zP q,zI lo,zI a] 264 (0,0))
def pv(a:LN):List Value:=a.map λp=>zP p
def XV(A:Nat->Prop)(w:World)(v:Value)(a:LN):Prop:=w.ownsRow 0 244 1 v a.length (pv a)/\(∀k,v.ownBlock=some k->A k)/\a.length<=1000
mutual
def XR(A:Nat->Prop)(w:World):Nat->RX->Prop
 | p,.one s=>A p/\XB w p s
 | p,.seq l=>A p/\∃v a,XN w p 1 v/\XV A w v a/\mD A w a l
 | p,.alt l=>A p/\∃v a,XN w p 2 v/\XV A w v a/\mD A w a l
 | p,.rep x lo b=>A p/\∃q,XW w p q lo (Yt b)/\XR A w q x
def mD(A:Nat->Prop)(w:World):LN->List RX->Prop
 | [],[]=>True
 | p::a,x::l=>XR A w p x/\mD A w a l
 | _,_=>False
end
def pO(A:Nat->Prop)(w w':World):Prop:=∀k,A k->(∃cur fz,w.heap[k]?=some (.cells cur 264 fz)\/w.heap[k]?=some (.cells cur 244 fz))->w'.heap[k]?=w.heap[k]?
theorem XV.aY {A:Nat->Prop} {a:LN}(h:XV A w v a)(k:pO A w w'):XV A w' v a:=by
 refine⟨⟨h.1.1,?_⟩,h.2⟩;rcases h.1.2 with c|⟨g,cap,cur,rfl,hb,b,rest⟩
 .exact .inl c
 exact .inr ⟨g,cap,cur,rfl,hb,(k g (h.2.1 g rfl) ⟨cur,_,.inr b⟩).trans b,rest⟩
mutual
theorem XR.aY {A:Nat->Prop}(k:pO A w w'):∀{p:Nat} {x:RX},XR A w p x->XR A w' p x
 | p,.one s,h=>by simp only[XR]at h |-;exact⟨h.1,(k p h.1 ⟨_,_,.inl h.2⟩).trans h.2⟩
 | p,.seq l,h=>by simp only[XR]at h |-;obtain⟨b,v,d,a,c,e⟩:=h;exact⟨b,v,d,(k p b ⟨_,_,.inl a⟩).trans a,c.aY k,mD.aY k e⟩
 | p,.alt l,h=>by simp only[XR]at h |-;obtain⟨b,v,d,a,c,e⟩:=h;exact⟨b,v,d,(k p b ⟨_,_,.inl a⟩).trans a,c.aY k,mD.aY k e⟩
 | p,.rep x lo f,h=>by simp only[XR]at h |-;obtain⟨b,q,a,c⟩:=h;exact⟨b,q,(k p b ⟨_,_,.inl a⟩).trans a,XR.aY k c⟩
theorem mD.aY {A:Nat->Prop}(k:pO A w w'):∀{a:LN} {l:List RX},mD A w a l->mD A w' a l
 | [],[],_=>by simp only[mD]
 | p::a,x::l,h=>by simp only[mD]at h |-;exact⟨XR.aY k h.1,mD.aY k h.2⟩
 | [],_::_,h=>by simp only[mD]at h
 | _::_,[],h=>by simp only[mD]at h
end
mutual
theorem XR.mono {A B:Nat->Prop}(k:∀n,A n->B n):∀{p:Nat} {x:RX},XR A w p x->XR B w p x
 | p,.one s,h=>by simp only[XR]at h |-;exact⟨k p h.1,h.2⟩
 | p,.seq l,h=>by simp only[XR]at h |-;obtain⟨c,v,d,b,a,f⟩:=h;exact⟨k p c,v,d,b,⟨a.1,λn e=>k n (a.2.1 n e),a.2.2⟩,mD.mono k f⟩
 | p,.alt l,h=>by simp only[XR]at h |-;obtain⟨c,v,d,b,a,f⟩:=h;exact⟨k p c,v,d,b,⟨a.1,λn e=>k n (a.2.1 n e),a.2.2⟩,mD.mono k f⟩
 | p,.rep x lo g,h=>by simp only[XR]at h |-;obtain⟨c,q,b,a⟩:=h;exact⟨k p c,q,b,XR.mono k a⟩
theorem mD.mono {A B:Nat->Prop}(k:∀n,A n->B n):∀{a:LN} {l:List RX},mD A w a l->mD B w a l
 | [],[],_=>by simp only[mD]
 | p::a,x::l,h=>by simp only[mD]at h |-;exact⟨XR.mono k h.1,mD.mono k h.2⟩
 | [],_::_,h=>by simp only[mD]at h
 | _::_,[],h=>by simp only[mD]at h
end
theorem mD.snoc {A:Nat->Prop}:∀{a:LN} {l:List RX} {p:Nat} {x:RX},mD A w a l->XR A w p x->mD A w (a++[p]) (l++[x])
 | [],[],p,x,_,h=>by simp only[a0V,mD];exact⟨h,trivial⟩
 | q::a,y::l,p,x,h,b=>by simp_all[mD,mD.snoc]
 | [],_::_,p,x,h,_=>by simp only[mD]at h
 | _::_,[],p,x,h,_=>by simp only[mD]at h
theorem mD.len {A:Nat->Prop}:∀{a:LN} {l:List RX},mD A w a l->a.length=l.length
 | [],[],_=>rfl
 | p::a,x::l,h=>by simp only[mD]at h;simp[mD.len h.2]
 | [],_::_,h=>by simp only[mD]at h
 | _::_,[],h=>by simp only[mD]at h
theorem pO.aC {A:Nat->Prop}(f:aB S w w')(b:∀k,A k->k<w.heap.size/\k∉S):pO A w w' :=
 λk a _=>f.block k (b k a).1 (b k a).2
def pO.fp {A:Nat->Prop}{base:Nat}(f:FP base b w w')(d:∀k,A k->k<w.heap.size/\k≠b):pO A w w':=by intro k a ⟨cur,fz,h⟩;refine f.block k (d k a).1 (d k a).2 (.inr ?_);intro c g e;rcases h with h|h<;>rw[h]at e<;>simp at e
def FP.fresh{base:Nat}{z:World}(h:FP base b x y)(k:aB [n] y z)(d:x.heap.size<=n):FP base b x z :=
 ⟨k.os.trans h.os,k.tape.trans h.tape,k.output.trans h.output,a0h h.size k.size,
  λi a hb c=>(k.block i (a0t a h.size) (by simp;omega)).trans (h.block i a hb c)⟩
def XP(base b:Nat)(t:LB)(S:LN)(w:World)(p:Option (RX × LB))(e:Ending)(w':World):Prop :=
 match p with
 | some (x,r)=>∃(eb:Nat) (a:Value),e=zR (zP eb)/\XR (λk=>w.heap.size<=k/\k<w'.heap.size) w' eb x/\PA w' b t r a/\BL base w' a (S++dB x)/\FP base b w w'
 | none=>e=zR (.pointer none)/\(∃c a,PA w' b t c a)/\FP base b w w'
theorem XB.lt {eb s:Nat}(h:XB w eb s):eb<w.heap.size:=(a0c.1 h).1
def SP.xp{base:Nat} {p:Option (Nat × LB)} {e:Ending}(h:SP base b t S w p e w'):XP base b t S w (p.map λx=>(.one x.1,x.2)) e w':=by
 cases p with
 | none=>exact h
 | some x=>obtain⟨s,r⟩:=x;obtain⟨eb,c,j,i,a,g,f,d⟩:=h;refine⟨eb,c,j,?_,g,f,d⟩;simp only[XR];exact⟨⟨i,a.lt⟩,a⟩
end
end Go.Proofs.YtedmellodofajaaGreatDoor
