import Derived.Test.YtaokcijfoopcoaaGreatJ2
import Derived.Test.YtaokcijfoopcoaaGreatJ1
import Derived.Deep.WholeRow
import Derived.Laws.Bits64
import Derived.Laws.Bits64b
import Derived.RegionTactic
import Derived.BigRegion
import Derived.Deep.DeepCutAuto
set_option linter.unusedVariables false
set_option linter.unusedSimpArgs false
set_option linter.unnecessarySimpa false
set_option linter.defProp false
set_option maxRecDepth 100000
set_option maxHeartbeats 4000000
namespace Go.Proofs.YtaokcijfoopcoaaGreat
open Go.RowKit
section
variable {X Z a:NF} {M N P P' b' i j m m' v w x y:Nat} {α:Type} {hi:Option Nat} {k lo:Nat} {t:NF}
theorem apH(b:WC X)(h:NF.one∈parts X):eH X .one=X:=by
 have d:=Pv b.1 b.2;have c:bQ [X,.one]=bQ [X]:=by
  refine vT ?_ ?_ ?_
  .intro x a;simp at a;rcases a with rfl|rfl;exact b.1;exact trivial
  .intro x a;simp at a;subst a;exact b.1
  grind [parts]
 unfold eH;rw[c,d]
theorem adq(u:WC X)(g:nU X=true):rG (eH X .one)=false:=by
 have F:∀x ∈ [X,NF.one],wf x:=by intro x k;simp at k;rcases k with rfl|rfl;exact u.1;exact trivial
 have m:=u.or WC.one;obtain⟨c,-⟩:=Cc m.1 m.2;have j:∀p∈parts (eH X .one),p=X\/p=.one:=by
  intro p d;unfold eH bQ at d;have B:∀q∈gU (bN ([X,NF.one].flatMap parts)),iU q=true:=by
   intro q hq;rcases wI (kK hq) with h|h
   .exact ET h
   grind [mY]
  rw[Pm B]at d;have v:=kK d;have o:[X,NF.one].flatMap parts=[X,.one]:=by cases X<;>simp[nU]at g<;>rfl
  rw[o]at v;rcases Zf v with⟨A,e⟩|C
  .cases X with
   | set s=>left;rw[e];simp[bf,bits]
   | star a=>exact absurd (by simp[bf,bits]) A
   | zero=>simp[nU]at g
   | one=>simp[nU]at g
   | pair a b=>simp[nU]at g
   | sum l=>simp[nU]at g
  simpa using C
 cases f:eH X .one with
 | sum l =>
   rw[f]at j c;simp only[parts]at j c;have w:X∈l:=by
    rw[f]at m;have n:bQ [NF.sum l]=.sum l:=Pv m.1 m.2
    by_cases k:X∈l
    .exact k
    exfalso
    have i:∀y∈l,y=.one:=λy t=>(j y t).resolve_left (λe=>k (e ▸ t))
    match l,i,c,n with
    | [],_,_,n=>simp[bQ,parts,bN,bf,gU,mkS]at n
    | [y],i,_,n=>have:=i y (by simp);subst this;simp[bQ,parts,bN,dF,bf,bits,gU,put,mkS]at n
    | y::z::r,i,c,_=>have E:=i y (by simp);have D:=i z (by simp);rw[E,D]at c;simp at c
   simp only[rG];exact apG g c j w
 | pair a b =>
   have:=j (.pair a b) (by rw[f];simp[parts]);rcases this with h|h
   .grind [nU]
   simp at h
 | zero=>rfl
 | one=>rfl
 | set s=>rfl
 | star a=>rfl
theorem amX {l:List NF}(a:WC (.sum l))(hb:JE l=false):NF.one∈l:=by
 by_cases f:NF.one∈l
 .exact f
 exfalso
 have e:l.filter (λy=>!vP y)=l:=by grind [vP,List.filter_eq_self]
 unfold JE at hb;rw[e]at hb
 match l,hb with
 | [],hb=>simp at hb
 | [x],hb =>
   have c:bQ [NF.sum [x]]=.sum [x]:=Pv a.1 a.2;have d:nU x=true:=by simpa using hb
   cases x<;>simp[nU]at d
   .rename_i s
    have b:s≠0:=by have:0<s:=a.1.1.1.1;omega
    simp[bQ,parts,bN,dF,bf,bits,gU,put,mkS,b]at c
   simp[bQ,parts,bN,dF,bf,bits,gU,put,mkS]at c
 | x::y::r,hb=>simp at hb
theorem Pt.opt{p b t:Nat} {C E e:Nat->Nat}(h:Pt X p b m w t C E e)(f:WC X)(i:1<=p)(B:p<=40)(hz:X≠.zero)(ho:X≠.one) :
 ∃r D A,Pt (eH X .one) p b (m+1) (w+2) r C D A:=by
 by_cases o:NF.one∈parts X
 .rw[apH f o]
  exact⟨t,E,e,h.mono (a0b _) (by omega) (by omega)⟩
 have q:rG (eH X .one)=true->rG X=true:=by
  intro d;cases X with
  | zero=>exact absurd rfl hz
  | one=>exact absurd rfl ho
  | set s=>rw[adq f rfl]at d;cases d
  | star a=>rw[adq f rfl]at d;cases d
  | pair a c=>rfl
  | sum l =>
    cases hb:JE l
    .exact absurd (amX f hb) o
    simpa[rG] using hb
 have u:=KP.or f.1 (show wf .one from trivial) h.kp KP.one;refine⟨t+2,E,e,⟨u.mono (a0b _) (λn=>by simp) (λn=>by simp) (λn=>by simp),?_,λn=>?_,λn g=>?_,λn g=>?_,λd=>h.br (q d)⟩⟩
 .have:=h.ht
  rw[show 524+10*(m+1+b)=(524+10*(m+b))+10 by omega,a1A];omega
 .have z:=h.he n
  have x:L1 p b n<=p*L1 p b n:=a1q _ i;have v:(if jK (eH X .one) then 1+(if rG (eH X .one) then n else 0) else 0)<=L1 p b n:=by
   have:=Iv p b n
   by_cases d:rG (eH X .one)=true
   .have F:=h.br (q d)
    have k:L1 p b n=n+1:=by unfold L1;rw[a0n (by omega)]
    rw[k,d];split<;>simp<;>omega
   grind
  rw[show 1+(m+1)+b=(1+m+b)+1 by omega,a1A,a0J,a1H];omega
 .exact a0h (h.hC n g) (vD (by omega))
 have z:=h.hE n g;have x:=tails (y:=1) (e:=1) (b:=b) (t:=2) i B g (by omega) (by have:=Iv p b n;have:=a0D i this;simpa using this);rw[<-SX];have G:Rb p b (2*1) n=Rb p b 2 n:=rfl;have v:(t+2+3+E n+(if rG (eH X .one) then sumTo (λj=>C j+519) n else 0))*2 ^ lg p<=(t+3+E n+(if rG X then sumTo (λj=>C j+519) n else 0))*2 ^ lg p+1*2*2 ^ lg p:=by grind [rG,eH,Nat.add_mul,Nat.mul_le_mul_right,Bool.false_eq_true]
 omega
theorem ahd(p:α->Nat):∀l:List α,(∀a∈l,1<=p a)->(l.map p).sum<=40->(l.map λa=>dS (p a)).sum<=dS (l.map p).sum
 | [],_,_=>by simp[dS,atd]
 | a::r,h,c=>by
   simp only[a0E,a0Y]at c |-;have e:=ahd p r (λx b=>h x (by simp[b])) (by omega);have f:=h a (by simp)
   by_cases d:(r.map p).sum=0
   .have:r=[]:=by
     cases r with
     | nil=>rfl
     | cons x r=>have:=h x (by simp);simp at d;omega
    subst this;simp
   grind [aha]
def als(p:α->Nat) {l:List α}(b:(l.map p).sum<=40) {a:α}(c:a∈l):lg (p a)<=lg (l.map p).sum:=by obtain⟨A,B,rfl⟩:=a2Q c;simp only[a0P,a0E,a1Y,a0Y]at b |-;have:=afg (p:=p a) (q:=(A.map p).sum+(B.map p).sum) (by omega);rw[show(A.map p).sum+(p a+(B.map p).sum)=p a+((A.map p).sum+(B.map p).sum) by omega];exact this
def aaA(f g:α->Nat):∀l:List α,(∀a∈l,f a<=g a)->(l.map f).sum<=(l.map g).sum
 | [],_=>by simp
 | a::r,h=>by have d:=h a (by simp);have c:=aaA f g r (λx b=>h x (by simp[b]));simp only[a0E,a0Y];omega
theorem adr(f:α->Nat){l:List α}:(l.map f).sum*k=(l.map λa=>f a*k).sum:=(FU f k l).symm
def aaB(t E:α->Nat) {l:List α}(h:l≠[])(k:Nat):(l.map t).sum+k+(l.map E).sum<=(l.map λa=>t a+k+E a).sum:=by
 have:∀l:List α,l≠[]->(l.map t).sum+k+(l.map E).sum<=(l.map λa=>t a+k+E a).sum:=by
  intro l
  induction l with
  | nil=>intro h;exact absurd rfl h
  | cons a r c =>
    intro _;simp only[a0E,a0Y]
    by_cases b:r=[]
    .subst b;simp
    have:=c b;omega
 exact this l h
theorem Gt.bQ {l:List α} {F:α->NF} {p t:α->Nat} {C E e:α->Nat->Nat}{b:Nat}(j:l≠[])(q:∀a∈l,wf (F a))(s:∀a∈l,1<=p a)(i:(l.map p).sum<=40)
 (h:∀a∈l,Gt (F a) (p a) b m w (t a) (C a) (E a) (e a)) (v:∀a∈l,t a+7<=p a*(524+10*(m+b))) :
 Gt (bQ (l.map F)) (l.map p).sum b m w (l.map t).sum (λn=>(l.map λa=>C a n).sum) (λn=>(l.map λa=>E a n).sum) (λn=>(l.map λa=>e a n).sum)/\(l.map t).sum+7<=(l.map p).sum*(524+10*(m+b)):=by
 have hG:=ahd p l s i;have g:(l.map t).sum+7<=(l.map p).sum*(524+10*(m+b)):=by
  have B:=aaB t (λ_=>0) j 7;have y:=aaA (λa=>t a+7+0) (λa=>p a*(524+10*(m+b))) l (λa c=>by have:=v a c;omega);rw[FU]at y;have x:∀r:List α,(r.map λ_:α=>0).sum=0:=by
   intro r;induction r with
   | nil=>rfl
   | cons a r o=>simpa using o
  have A:=x l;omega
 have k:∀(f:α->Nat) (n:Nat),1<=n->(∀a∈l,f a*2 ^ lg (p a)<=Rb (p a) b w n)->(l.map f).sum*2 ^ lg (l.map p).sum<=Rb (l.map p).sum b w n:=by
  intro f n d u;rw[adr];refine a0h (aaA _ (λa=>964*w*dS (p a)*hh (b+lg (l.map p).sum) n) l λa c=>lift d (u a c) (als p i c)) ?_;rw[FU (λa=>964*w*dS (p a))];have z:(l.map λa=>964*w*dS (p a)).sum=964*w*(l.map λa=>dS (p a)).sum:=by
   rw[a1b (964*w),adr]
   congr 1
   exact a2s λa _=>a1b _ _
  rw[z];unfold Rb;exact a0z _ (a0o _ hG)
 refine⟨⟨KP.bQ q λa c=>(h a c).kp,by omega,λn=>?_,λn d=>?_,λn d=>?_⟩,g⟩
 .refine a0h (aaA _ (λa=>p a*((1+m+b)*L1 (l.map p).sum b n)) l λa c=>?_) ?_
  .refine a0h ((h a c).he n) ?_
   rw[a0Z];exact a0o _ (a0o _ (FY (als p i c) (a0b _)))
  rw[FU,a0Z];exact a0b _
 .exact k (λa=>C a n) n d λa c=>(h a c).hC n d
 refine a0h (a0z _ (aaB t (λa=>E a n) j 3)) ?_;exact k (λa=>t a+3+E a n) n d λa c=>(h a c).hE n d
theorem Gt.one{p b t:Nat} {C E e:Nat->Nat}(h:Gt X p b m w t C E e)(d:wf X)(i:t+7<=p*(524+10*(m+b)))(c:1<=p)(g:p<=40):Gt (eH X .one) p b m (w+2) (t+2) C E e:=by
 have f:=KP.or (Y:=.one) d (show wf .one from trivial) h.kp KP.one;refine⟨f.mono (a0b _) (λn=>by simp) (λn=>by simp) (λn=>by simp),by omega,h.he,λn a=>a0h (h.hC n a) (vD (by omega)),λn a=>?_⟩;have k:=h.hE n a;have j:=tails (y:=1) (e:=1) (b:=b) (t:=2) c g a (by omega) (by have:=Iv p b n;have:1*1<=p*L1 p b n:=a0D c this;simpa using this);rw[<-SX];have o:Rb p b (2*1) n=Rb p b 2 n:=rfl;have l:(t+2+3+E n)*2 ^ lg p=(t+3+E n)*2 ^ lg p+1*2*2 ^ lg p:=by rw[<-a0J];congr 1;omega
 omega
def Jh(k n:Nat):Nat:=sumTo (hh k) n
theorem av9{n:Nat}:hh (k+1) n=hh k n+Jh k n:=rfl
def awc(k n:Nat):n<=Jh k n:=by
 have a:sumTo (λ_=>1) n<=sumTo (hh k) n:=qJ λj _ _=>YQ k j
 rw[oO]at a;simpa[Jh] using a
structure Tw(p b m:Nat)(X:NF)(i o c x y:Nat)(t:Nat)(C E e:Nat->Nat):Prop where
 k:zL X t C E e
 ho:o<=i
 ht:t+8<=i*(p*(524+10*(m+b)))+5*o
 he:∀n,e n<=i*(p*(1+m+b)*(n+1))+o*(n+1)
 hC:∀n,1<=n->C n*2 ^ lg p<=964*dS p*(c*hh (b+lg p) n)
 hE:∀n,1<=n->E n*2 ^ lg p<=964*dS p*(x*hh (b+lg p) n+y*Jh (b+lg p) n)
def apI(p b n:Nat):L1 p b n<=n+1:=by unfold L1;split<;>omega
theorem Ct.tw{p b t:Nat} {C E e:Nat->Nat}(h:Ct X p b m w t C E e):Tw p b m X 1 0 w w 0 t C E e:=by
 refine⟨h.k,by omega,by have:=h.ht;omega,λn=>?_,λn a=>?_,λn a=>?_⟩
 .rw[a2T,Nat.zero_mul,a1Q];exact a0h (h.he n) (a0o _ (apI p b n))
 .have c:=h.hC n a
  unfold Rb at c;have d:964*w*dS p*hh (b+lg p) n=964*dS p*(w*hh (b+lg p) n):=by simp only[a1b,a1y,a0Z]
  omega
 have c:=h.hE n a;unfold Rb at c;have d:964*w*dS p*hh (b+lg p) n=964*dS p*(w*hh (b+lg p) n):=by simp only[a1b,a1y,a0Z]
 rw[Nat.zero_mul,a1Q];omega
def Tw.apJ{p b o c t:Nat} {C E e:Nat->Nat}(h:Tw p b m X i o c x y t C E e)(a:1<=p)(d:m+b<=43):t+8<=964*(i*p):=by
 have l:=h.ht;have g:=h.ho;have k:i*(p*(524+10*(m+b)))<=i*(p*954):=a0o _ (a0o _ (by omega));have j:i*(p*954)=954*(i*p):=by simp only[a1b,a1y,a0Z]
 have f:i<=i*p:=a2r _ a;omega
theorem Tw.copy{A:NF}{p b o c tA t:Nat} {J d eA C E e:Nat->Nat}(g:Ct A p b m w tA J d eA)(h:Tw p b m X i o c x y t C E e)(B:1<=p)(I:p<=40)(D:m+b<=43)
 (u:wf A) (z:aP A=true) (s:wf X) (v:aP X=true) :
 Tw p b m (aG A X) (i+1) o (c+w+2*(1+m+b)*i) (x+w+2*(1+m+b)*i) y (tA+t+3) (λn=>d n+eA n*(t+3)+C n) (λn=>d n+eA n*(t+3)+E n) (λn=>eA n+e n):=by
 have M:=g.ht;have L:=h.ht;have F:t+3<=964*(i*p):=by have:=h.apJ B D;omega
 have j:∀n,1<=n->eA n*(t+3)*2 ^ lg p<=964*dS p*(2*(1+m+b)*i*hh (b+lg p) n):=by
  intro n a;have H:=ajV p b a
  calc eA n*(t+3)*2 ^ lg p<=p*(1+m+b)*L1 p b n*(964*(i*p))*2 ^ lg p:=a0z _ (a0D (g.he n) F)
   _=964*(1+m+b)*i*(p*p)*(L1 p b n*2 ^ lg p):=by simp only[a1b,a1y,a0Z]
   _<=964*(1+m+b)*i*dS p*(2*hh (b+lg p) n):=a0D (a0o _ (YR I)) H
   _=964*dS p*(2*(1+m+b)*i*hh (b+lg p) n):=by simp only[a1b,a1y,a0Z]
 have f:∀n,1<=n->d n*2 ^ lg p<=964*dS p*(w*hh (b+lg p) n):=by
  intro n a;have l:=g.hE n a;unfold Rb at l;have q:964*w*dS p*hh (b+lg p) n=964*dS p*(w*hh (b+lg p) n):=by simp only[a1b,a1y,a0Z]
  omega
 refine⟨g.k.then h.k u z s v,by have:=h.ho;omega,?_,λn=>?_,λn a=>?_,λn a=>?_⟩
 .grind
 .have l:eA n<=p*(1+m+b)*(n+1):=a0h (g.he n) (a0o _ (apI p b n))
  have r:=h.he n;rw[a0J,a2T];omega
 .have l:=f n a
  have r:=j n a;have G:=h.hC n a;have q:964*dS p*((c+w+2*(1+m+b)*i)*hh (b+lg p) n)=964*dS p*(w*hh (b+lg p) n)+964*dS p*(2*(1+m+b)*i*hh (b+lg p) n)+964*dS p*(c*hh (b+lg p) n):=by grind
  show(d n+eA n*(t+3)+C n)*2 ^ lg p<=_;rw[q,a0J,a0J];omega
 have l:=f n a;have r:=j n a;have G:=h.hE n a;have q:964*dS p*((x+w+2*(1+m+b)*i)*hh (b+lg p) n+y*Jh (b+lg p) n)=964*dS p*(w*hh (b+lg p) n)+964*dS p*(2*(1+m+b)*i*hh (b+lg p) n)+964*dS p*(x*hh (b+lg p) n+y*Jh (b+lg p) n):=by grind
 show(d n+eA n*(t+3)+E n)*2 ^ lg p<=_;rw[q,a0J,a0J];omega
def atg {C:Nat->Nat} {p b c n:Nat}(a:1<=p)(d:p<=40)(hC:∀n,1<=n->C n*2 ^ lg p<=964*dS p*(c*hh (b+lg p) n)):sumTo (λj=>C j+519) n*2 ^ lg p<=964*dS p*((c+1)*Jh (b+lg p) n):=by
 have g:sumTo (λj=>C j+519) n=sumTo C n+n*519:=by rw[yJ,oO]
 have q:sumTo C n*2 ^ lg p<=964*dS p*(c*Jh (b+lg p) n):=by
  rw[<-Qk];refine a0h (qJ λj h _=>hC j h) ?_;have i:∀n,sumTo (λj=>964*dS p*(c*hh (b+lg p) j)) n=964*dS p*(c*Jh (b+lg p) n):=by
   intro n;unfold Jh
   induction n with
   | zero=>simp[sumTo]
   | succ n e=>simp only[sumTo,e,a1A]
  rw[i];exact a0b _
 have o:n*519*2 ^ lg p<=964*dS p*(1*Jh (b+lg p) n):=by
  have m:=(apF a d).1;have l:=YR d;have k:p<=p*p:=a1q _ a;have f:=awc (b+lg p) n
  calc n*519*2 ^ lg p<=Jh (b+lg p) n*964*dS p:=a0D (a0D f (by omega)) (by omega)
   _=964*dS p*(1*Jh (b+lg p) n):=by rw[a2T];simp only[a1b,a1y,a0Z]
 rw[g,a0J,a0J,a1A];omega
def alu{p b n t:Nat}(c:1<=p)(a:p<=40)(ht:t<=964*(i*p)):t*2 ^ lg p<=964*dS p*(i*hh (b+lg p) n):=by
 have f:=(apF c a).1;have e:=YR a;have d:=YQ (b+lg p) n
 calc t*2 ^ lg p<=964*(i*p)*p:=a0D ht f
  _=964*(p*p)*(i*1):=by rw[a1H];simp only[a1b,a1y,a0Z]
  _<=964*dS p*(i*hh (b+lg p) n):=a0D (a0o _ e) (a0o _ d)
theorem Tw.opt{p b o c t:Nat} {C E e:Nat->Nat}(h:Tw p b m Z i o c x y t C E e)(B:wf Z)(g:gF Z=true)(q:1<=p)(w:p<=40)(A:m+b<=43)(ho:o+1<=i)(r:eH Z .one≠.zero) :
 Tw p b m (eH Z .one) i (o+1) c (x+i) (y+c+1) (t+5) C (λn=>t+6+E n+sumTo (λj=>C j+519) n) (λn=>1+e n+n):=by
 have u:=KP.or (Y:=.one) B (show wf .one from trivial) (KP.of h.k (.inl g)) KP.one;have v:KP (eH Z .one) (t+3) C E e:=u.mono (by omega) (λn=>by simp) (λn=>by simp) (λn=>by simp);have D:zL (eH Z .one) (t+5) C (λn=>t+6+E n+sumTo (λj=>C j+519) n) (λn=>1+e n+n):=by
  cases d:jK (eH Z .one)
  .exact(v.plain d r).mono (by omega) (λ_=>a0b _) (λn=>by omega) (λn=>by omega)
  cases f:eH Z .one with
  | sum l =>
    rw[f]at v;refine v.sum.mono (by omega) (λ_=>a0b _) (λn=>?_) (λn=>?_)
    .split<;>omega
    split<;>omega
  | zero=>rw[f]at d;simp[jK]at d
  | one=>rw[f]at d;simp[jK]at d
  | set s=>rw[f]at d;simp[jK]at d
  | pair a c=>rw[f]at d;simp[jK]at d
  | star a=>rw[f]at d;simp[jK]at d
 have G:=h.apJ q A;refine⟨D,ho,by have:=h.ht;omega,λn=>?_,h.hC,λn z=>?_⟩
 .have:=h.he n
  show 1+e n+n<=_;rw[a0J o 1];omega
 have J:=h.hE n z;have I:=atg (n:=n) q w h.hC;have H:=alu (b:=b) (n:=n) q w (by omega:t+6<=964*(i*p));have F:964*dS p*((x+i)*hh (b+lg p) n+(y+c+1)*Jh (b+lg p) n)=964*dS p*(i*hh (b+lg p) n)+964*dS p*(x*hh (b+lg p) n+y*Jh (b+lg p) n)+964*dS p*((c+1)*Jh (b+lg p) n):=by grind
 show(t+6+E n+sumTo (λj=>C j+519) n)*2 ^ lg p<=_;rw[F,a0J,a0J];omega
def conv{f p b n:Nat}(c:1<=p)(d:2<=N)(a:N<=10)(e:N*p<=40)(g:1<=n)(k:2*M<=w*(N*N+N-2))(h:f*2 ^ lg p<=964*dS p*(M*hh (b+lg p+1) n)):f*2 ^ lg (N*p)<=Rb (N*p) b w n:=by
 obtain⟨j,i⟩:∃j,lg (N*p)=lg p+(1+j):=⟨lg (N*p)-lg p-1,by have:=afh c d e;omega⟩;have m:=SV (b+lg p+1) g j;have l:2*M*dS p<=w*dS (N*p):=by
  calc 2*M*dS p<=w*(N*N+N-2)*dS p:=a0z _ k
   _=w*((N*N+N-2)*dS p):=a0Z _ _ _
   _<=w*dS (N*p):=a0o _ (apE c d a e)
 have o:b+lg (N*p)=b+lg p+1+j:=by omega
 unfold Rb;rw[o,i,Nat.pow_add,Nat.pow_add,<-a0Z]
 calc f*2 ^ lg p*(2 ^ 1*2 ^ j)<=964*dS p*(M*hh (b+lg p+1) n)*(2 ^ 1*2 ^ j):=a0z _ h
  _=964*(2*M*dS p)*(2 ^ j*hh (b+lg p+1) n):=by rw[Nat.pow_one];simp only[a1b,a1y,a0Z]
  _<=964*(w*dS (N*p))*hh (b+lg p+1+j) n:=a0D (a0o _ l) m
  _=964*w*dS (N*p)*hh (b+lg p+1+j) n:=by simp only[a0Z]
theorem Tw.pt{p b o c t:Nat} {C E e:Nat->Nat}(h:Tw p b m Z N o c x y t C E e)(a:gF Z=true)(d:1<=p)(q:2<=N)(g:N<=10)(i:N*p<=40)(B:m+b<=43)
 (A:x+N<=M) (z:y+c+1<=M) (s:2*M<=w*(N*N+N-2)):Pt Z (N*p) b (m+1) w (t+1) C E e:=by
 have r:p<=40:=a0h (a1q p (by omega)) i;have D:=afh d q i;have I:N<=N*p:=a2r _ d;have F:∀n,L1 (N*p) b n=n+1:=λn=>by unfold L1;rw[a0n (by omega)]
 have J:rG Z=true:=by cases Z<;>simp[gF]at a;rfl
 have l:jK Z=false:=by cases Z<;>simp[gF]at a;rfl
 have ho:=h.ho;have L:=h.apJ d B;refine⟨KP.of h.k (.inl a),?_,λn=>?_,λn f=>?_,λn f=>?_,λ_=>by omega⟩
 .have u:=h.ht
  have v:N*p*(524+10*(m+1+b))=N*(p*(524+10*(m+b)))+10*(N*p):=by grind
  omega
 .have u:=h.he n
  rw[l,F n];have v:N*p*(1+(m+1)+b)*(n+1)=N*(p*(1+m+b)*(n+1))+N*p*(n+1):=by grind
  have G:o*(n+1)<=N*p*(n+1):=a0z _ (by omega);simp only[a0A,a0I];omega
 .refine conv d q g i f s (a0h (h.hC n f) (a0o _ (a0D (by omega) (aff f (by omega)))))
 refine conv d q g i f s ?_
 have u:=h.hE n f;have G:=atg (n:=n) d r h.hC;have O:=alu (b:=b) (n:=n) d r (by omega:t+4<=964*(N*p));rw[J];simp only[a0G];have v:964*dS p*(N*hh (b+lg p) n)+964*dS p*(x*hh (b+lg p) n+y*Jh (b+lg p) n)+964*dS p*((c+1)*Jh (b+lg p) n)=964*dS p*((x+N)*hh (b+lg p) n+(y+c+1)*Jh (b+lg p) n):=by grind
 have P:964*dS p*((x+N)*hh (b+lg p) n+(y+c+1)*Jh (b+lg p) n)<=964*dS p*(M*hh (b+lg p+1) n):=by refine a0o _ ?_;rw[av9,a1A];exact a2Y (a0z _ A) (a0z _ z)
 have H:(t+1+3+E n+sumTo (λj=>C j+519) n)*2 ^ lg p=(t+4)*2 ^ lg p+E n*2 ^ lg p+sumTo (λj=>C j+519) n*2 ^ lg p:=by grind
 rw[H];omega
theorem Tw.mono{p b o c a l j g t:Nat} {C E e:Nat->Nat}(h:Tw p b m X i o c x y t C E e)(ho:o<=a)(d:a<=i)(s:c<=l)(r:x<=j)(q:y<=g):Tw p b m X i a l j g t C E e :=
 ⟨h.k,d,by have:=h.ht;omega,λn=>a0h (h.he n) (Nat.add_le_add_left (a0z _ ho) _),λn f=>a0h (h.hC n f) (a0o _ (a0z _ s)),
  λn f=>a0h (h.hE n f) (a0o _ (a2Y (a0z _ r) (a0z _ q)))⟩
def cB(v w d:Nat):Nat->Nat
 | 0=>v
 | i+1=>cB v w d i+w+d*(i+1)
def xB(v w d:Nat):Nat->Nat
 | 0=>v
 | i+1=>xB v w d i+w+d*(i+1)+(i+2)
def yB(v w d:Nat):Nat->Nat
 | 0=>0
 | i+1=>yB v w d i+cB v w d (i+1)+1
def TT(A:NF)(p b m v w:Nat)(X:NF)(j:Nat):Prop:=∃t C E e,Tw p b m X (j+1) (j+1) (cB v w (2*(1+m+b)) j) (xB v w (2*(1+m+b)) j) (yB v w (2*(1+m+b)) j) t C E e
def TPn(p b m v w:Nat)(X:NF)(j:Nat):Prop:=gF X=true/\∃t C E e,Tw p b m X (j+2) (j+1) (cB v w (2*(1+m+b)) (j+1)) (xB v w (2*(1+m+b)) (j+1)-(j+2)) (yB v w (2*(1+m+b)) j) t C E e
def Ql{A:NF}(i:wf A)(g:aP A=true)(b:aP X=true):gF (aG A X)=true:=by
 induction A using NF.ind generalizing X with
 | h A j =>
   cases A with
   | zero=>simp[aP]at g
   | one=>simp[aP]at g
   | set s=>rw[aX rfl b];rfl
   | sum l=>rw[aX rfl b];rfl
   | star a=>rw[aX rfl b];rfl
   | pair c d=>obtain⟨k,hd,f,e⟩:=i;rw[dA b];exact j c (by simp[NF.size];have:=NF.size_pos d;omega) k (head_tail f) (eP hd e b)
def TT.copy{A:NF}{p b tA:Nat} {o n eA:Nat->Nat}(k:Ct A p b m w tA o n eA)(h:TT A p b m v w X j)(g:1<=p)(l:p<=40)(i:m+b<=43)(a:wf A)(d:aP A=true)(f:wf X)(c:aP X=true):TPn p b m v w (aG A X) j:=by
 obtain⟨t,C,E,e,h⟩:=h;refine⟨Ql a d c,_,_,_,_,(Tw.copy k h g l i a d f c).mono (a0b _) (by omega) ?_ ?_ (a0b _)⟩
 .simp only[cB];omega
 simp only[xB];omega
def TPn.tt{A:NF}{p b:Nat}(h:TPn p b m v w X j):TT A p b m v w X (j+1):=by obtain⟨_,t,C,E,e,h⟩:=h;refine⟨t,C,E,e,h.mono (by omega) (by omega) (a0b _) (by omega) ?_⟩;simp only[yB];omega
def TPn.opt{A:NF}{p b:Nat}(h:TPn p b m v w X j)(a:wf X)(c:1<=p)(f:p<=40)(d:m+b<=43)(hz:eH X .one≠.zero):TT A p b m v w (eH X .one) (j+1):=by
 obtain⟨g,t,C,E,e,h⟩:=h;refine⟨_,_,_,_,(Tw.opt h a g c f d (by omega) hz).mono (by omega) (by omega) (a0b _) ?_ ?_⟩
 .simp only[xB];omega
 simp only[yB];omega
def TPn.pt{p b w':Nat}(h:TPn p b m v w X j)(c:1<=p)(k:j<=8)(g:(j+2)*p<=40)(d:m+b<=43)(i:v<=w+2*(m+b)+8)(a:w+(if j=0 then 2*(m+b)+9 else 6*(m+b)+33)<=w'):∃t C E e,Pt X ((j+2)*p) b (m+1) w' t C E e:=by
 obtain⟨f,t,C,E,e,h⟩:=h;refine⟨t+1,C,E,e,Tw.pt (M:=w'*((j+2)*(j+2)+(j+2)-2) / 2) h f c (by omega) (by omega) g d ?_ ?_ ?_⟩
 .rcases(show j=0\/j=1\/j=2\/j=3\/j=4\/j=5\/j=6\/j=7\/j=8 by omega) with rfl|rfl|rfl|rfl|rfl|rfl|rfl|rfl|rfl<;>simp[xB]at a |-<;>omega
 .rcases(show j=0\/j=1\/j=2\/j=3\/j=4\/j=5\/j=6\/j=7\/j=8 by omega) with rfl|rfl|rfl|rfl|rfl|rfl|rfl|rfl|rfl<;>simp[yB,cB]at a |-<;>omega
 omega
def Vk:∀{l:List NF} {p:NF},p∈l->bits p<=bf l
 | x::r,p,h=>by
   rw[tH];rcases a0l.1 h with rfl|h
   .exact Nat.left_le_or
   exact a0h (Vk h) Nat.right_le_or
def aaC(h:WC a)(ht:aP a=true):∃p∈parts a,p≠.one:=by
 cases a with
 | zero=>simp[aP]at ht
 | one=>simp[aP]at ht
 | set s=>exact⟨.set s,by simp[parts],by simp⟩
 | pair c d=>exact⟨.pair c d,by simp[parts],by simp⟩
 | star c=>exact⟨.star c,by simp[parts],by simp⟩
 | sum l =>
   obtain⟨f,-⟩:=Cc h.1 h.2;have g:bQ [NF.sum l]=.sum l:=Pv h.1 h.2;simp only[parts]at f |-
   by_cases i:∃p∈l,p≠.one
   .exact i
   exfalso
   have b:∀y∈l,y=.one:=λy j=>Classical.byContradiction λe=>i ⟨y,j,e⟩
   match l,b,f,g with
   | [],_,_,g=>simp[bQ,parts,bN,bf,gU,mkS]at g
   | [y],b,_,g=>have:=b y (by simp);subst this;simp[bQ,parts,bN,dF,bf,bits,gU,put,mkS]at g
   | y::z::r,b,f,_=>have m:=b y (by simp);have k:=b z (by simp);rw[m,k]at f;simp at f
theorem KI(e:WC a)(ht:aP a=true):aP (eH a .one)=true:=by
 have k:∀x ∈ [a,NF.one],wf x:=by intro x f;simp at f;rcases f with rfl|rfl;exact e.1;exact trivial
 have j:NF.one∈parts (eH a .one):=by grind [eH,rD,bN,dF,parts]
 obtain⟨p,g,r⟩:=aaC e ht;have i:∃q∈parts (eH a .one),q≠.one:=by
  have o:p ∈ [a,NF.one].flatMap parts:=by simp[g]
  cases m:dF p
  .grind [eH,rD,bN]
  have b:=wK e.1 g;have hb:bf ([a,NF.one].flatMap parts)≠0:=by
   have:=Vk o;cases p<;>simp[dF]at m
   rename_i s
   have t:0<s:=b.1;simp only[bits]at this;omega
  refine⟨.set (bf ([a,NF.one].flatMap parts)),?_,by simp⟩;unfold eH;rw[rD k];unfold bN;rw[a0n hb];simp
 cases h:eH a .one with
 | zero=>rw[h]at j;simp[parts]at j
 | one=>rw[h]at i;obtain⟨q,hq,n⟩:=i;simp[parts]at hq;exact absurd hq n
 | set s=>rfl
 | pair c d=>rfl
 | star c=>rfl
 | sum l=>rfl
def mM(h:aP a=true):a≠.zero/\a≠.one:=by cases a<;>simp[aP]at h<;>simp
def aaD {A:NF}{p b tA:Nat} {u t eA:Nat->Nat}(n:Ct A p b m w tA u t eA)(d:WC A)(e:aP A=true)(f:1<=p)(i:p<=40)(g:m+b<=43) :
 ∀(k j:Nat) (X:NF),TT A p b m v w X j->WC X->aP X=true->TT A p b m v w (dG A k X) (j+k)/\WC (dG A k X)/\aP (dG A k X)=true
 | 0,j,X,h,c,a=>⟨h,c,a⟩
 | k+1,j,X,h,c,a=>by have s:=h.copy n f i g d.1 e c.1 a;have l:=d.then c;have o:=eP d.1 e a;have t2:=KI l o;have r:TT A p b m v w (eH (aG A X) .one) (j+1):=s.opt l.1 f i g (mM t2).1;have q:=aaD n d e f i g k (j+1) _ r (l.or .one) t2;rw[show j+(k+1)=j+1+k by omega];exact q
def SY {A:NF}{p b tA:Nat} {B z eA:Nat->Nat}(n:Ct A p b m w tA B z eA)(f:WC A)(g:aP A=true)(i:1<=p)(q:p<=40)(l:m+b<=43) :
 ∀(k j:Nat) (X:NF),TT A p b m v w X j->WC X->aP X=true->TT A p b m v w (eQ A k X) (j+k)/\WC (eQ A k X)/\aP (eQ A k X)=true/\(∀a,k=a+1->TPn p b m v w (eQ A k X) (j+a))
 | 0,j,X,h,d,c=>⟨h,d,c,λa e=>by omega⟩
 | k+1,j,X,h,d,c=>by
   have o:=h.copy n i q l f.1 g d.1 c;have y:=f.then d;have r:=eP f.1 g c;obtain⟨x,u,t,s⟩:=SY n f g i q l k (j+1) _ (o.tt (A:=A)) y r;refine⟨by rw[show j+(k+1)=j+1+k by omega];exact x,u,t,λa e=>?_⟩;obtain rfl:a=k:=by omega
   cases a with
   | zero=>exact o
   | succ a=>have:=s a rfl;rw[show j+(a+1)=j+1+a by omega];exact this
def Tw.pt0{p b c t:Nat} {C E e:Nat->Nat}(h:Tw p b m Z N 0 c x y t C E e)(z:t+11<=N*p*(524+10*(m+b)))(a:gF Z=true)(j:1<=p)(k:2<=N)(g:N<=10)(l:N*p<=40)(r:m+b<=43)
 (q:x+N<=M) (o:y+c+1<=M) (u:2*M<=w*(N*N+N-2)):Pt Z (N*p) b m w (t+1) C E e:=by
 have d:=h.pt a j k g l r q o u;have s:=afh j k l;have v:∀n,L1 (N*p) b n=n+1:=λn=>by unfold L1;rw[a0n (by omega)]
 have f:jK Z=false:=by cases Z<;>simp[gF]at a;rfl
 refine⟨d.kp,by omega,λn=>?_,d.hC,d.hE,d.br⟩;have i:=h.he n;rw[f,v n];simp only[a0A,a0I,Nat.zero_mul,a1Q]at i |-;rw[a0Z,a0Z];rw[a0Z]at i;exact i
theorem Pt.plus{p b t:Nat} {C E e:Nat->Nat}(h:Pt a p b m w t C E e)(q:WC a)(c:aP a=true)(k:1<=p)(o:2*p<=40)(D:m+1+b<=43) :
 ∃t C E e,Pt (aG a (iH a)) (2*p) b (m+1) (w+2*(m+b)+12) t C E e:=by
 have r:p<=40:=by omega
 obtain⟨tA,v,eA,n⟩:=h.ct (mM c).1;have d:∃g CS j i,Ct (iH a) p b (m+1) (w+2*(m+b)+8) g CS j i:=by
  by_cases s:∃x,a=.star x
  .obtain⟨x,rfl⟩:=s
   exact⟨tA,C,v,eA,n.mono (a0b _) (by omega) (by omega)⟩
  have u:iH a=.star a:=by cases a<;>first | rfl|exact absurd ⟨_,rfl⟩ s|(simp[aP]at c)
  obtain⟨B,H,d⟩:=h.star k r (by omega) (mM c).1;obtain⟨g,j,i,l⟩:=d.ct (by simp);rw[u];exact⟨g,B,j,i,l⟩
 obtain⟨g,CS,j,i,d⟩:=d;have z:=q.star;have f:aP (iH a)=true:=by cases a<;>first | rfl|(simp[aP]at c)
 have A:Ct a p b (m+1) w tA C v eA:=n.mono (a0b _) (by omega) (a0b _);have y:=Tw.copy A d.tw k r (by omega) q.1 c z.1 f;refine⟨_,_,_,_,Tw.pt0 (M:=2*(w+2*(m+b)+12)) y ?_ (Ql q.1 c f) k (by omega) (by omega) o (by omega) ?_ ?_ ?_⟩
 .have G:=n.ht
  have F:=d.ht;show tA+g+3+11<=2*p*(524+10*(m+1+b));have u:2*p*(524+10*(m+1+b))=p*(524+10*(m+b))+10*p+p*(524+10*(m+1+b)):=by grind
  omega
 .omega
 .omega
 omega
theorem ads(a:NF):∀(k:Nat) (t:NF),dG a (k+1) t=eH (aG a (dG a k t)) .one
 | 0,t=>rfl
 | k+1,t=>by show dG a (k+1) (eH (aG a t) .one)=_;rw[ads a k];rfl
def Ct.tt{A:NF}{p b t:Nat} {C E e:Nat->Nat}(h:Ct X p b m v t C E e):TT A p b m v w X 0 :=
 ⟨t,C,E,e,h.tw.mono (by omega) (by omega) (a0b _) (a0b _) (a0b _)⟩
def amY{p b t:Nat} {C E e:Nat->Nat}(h:Pt a p b m w t C E e)(c:aP a=true)(l:1<=p)(k:p<=40)(u:m+b<=43):∃d CS i g,Ct (iH a) p b (m+1) (w+2*(m+b)+8) d CS i g:=by
 by_cases j:∃x,a=.star x
 .obtain⟨x,rfl⟩:=j
  obtain⟨tA,r,eA,o⟩:=h.ct (mM c).1;exact⟨tA,C,r,eA,o.mono (a0b _) (by omega) (by omega)⟩
 have q:iH a=.star a:=by cases a<;>first | rfl|exact absurd ⟨_,rfl⟩ j|(simp[aP]at c)
 obtain⟨s,v,n⟩:=h.star l k (by omega) (mM c).1;obtain⟨d,i,g,f⟩:=n.ct (by simp);rw[q];exact⟨d,s,i,g,f⟩
def KO(b:aP a=true):aP (iH a)=true:=by cases a<;>first | rfl|(simp[aP]at b)
def Pt.aoP{p b t:Nat} {C E e:Nat->Nat}(h:Pt a p b m w t C E e)(d:WC a)(c:aP a=true)(f:1<=p)(lo:Nat)(hi:Option Nat)(S:∀n,hi=some n->lo<=n)(W:2<=times lo hi)(G:times lo hi<=10)(i:times lo hi*p<=40)(hm:m+2+b<=43) :
 ∃t C E e,Pt (kD a lo hi) (times lo hi*p) b (m+3) (w+6*(m+b)+43) t C E e:=by
 have l:p<=40:=a0h (a1q p (by omega)) i;obtain⟨tA,EA,eA,hA⟩:=h.ct (mM c).1;have u:Ct a p b (m+1) w tA C EA eA:=hA.mono (a0b _) (by omega) (a0b _);have fin:∀(v:Nat) (X:NF) (j:Nat),TPn p b (m+1) v w X j->v<=w+2*(m+b)+8->j<=8->(j+2)*p<=40->∃t C E e,Pt X ((j+2)*p) b (m+2) (w+6*(m+b)+41) t C E e:=by intro v X j hT hv hj M;exact hT.pt f hj M (by omega) (by omega) (by split<;>omega)
 cases hi with
 | none=>have L:times lo none=lo+1:=rfl;rw[L]at W G i |-;obtain⟨k,rfl⟩:∃k,lo=k+1:=⟨lo-1,by omega⟩;obtain⟨tS,CS,ES,eS,hS⟩:=amY h c f l (by omega);obtain⟨-,-,-,o⟩:=SY u d c f l (by omega) (k+1) 0 (iH a) (hS.tt (A:=a)) d.star (KO c);have g:=o k rfl;rw[a1n]at g;obtain⟨y,x,B,z,s⟩:=fin _ _ k g (by omega) (by omega) i;exact⟨y,x,B,z,s.mono (a0b _) (by omega) (by omega)⟩
 | some n =>
   have L:times lo (some n)=n:=rfl;have hle:=S n rfl;rw[L]at W G i |-
   by_cases KH:lo=n
   .subst KH
    obtain⟨k,rfl⟩:∃k,lo=k+2:=⟨lo-2,by omega⟩;have I:kD a (k+2) (some (k+2))=eQ a (k+1) a:=by show eQ a (k+2) (dG a (k+2-(k+2)) .one)=_;rw[a2v];show eQ a (k+1) (aG a .one)=_;rw[bF]
    rw[I];obtain⟨-,-,-,o⟩:=SY u d c f l (by omega) (k+1) 0 a (u.tt (A:=a)) d c;have g:=o k rfl;rw[a1n]at g;obtain⟨y,x,B,z,s⟩:=fin _ _ k g (by omega) (by omega) i;exact⟨y,x,B,z,s.mono (a0b _) (by omega) (by omega)⟩
   obtain⟨k,V⟩:∃k,n-lo=k+1:=⟨n-lo-1,by omega⟩;obtain⟨tO,EO,eO,hO⟩:=h.opt d f l (mM c).1 (mM c).2;have Y:WC (eH a .one):=d.or .one;have q:=KI d c;obtain⟨Z,EO2,eO2,F⟩:=hO.ct (mM q).1;have I:dG a (k+1) .one=dG a k (eH a .one):=by simp[dG,eH,aG,bF]
   cases lo with
   | zero =>
     obtain⟨r,rfl⟩:∃r,k=r+1:=⟨k-1,by omega⟩;have P:kD a 0 (some n)=eH (aG a (dG a r (eH a .one))) .one:=by show dG a (n-0) .one=_;rw[V,I,ads]
     obtain⟨H,o,g⟩:=aaD u d c f l (by omega) r 0 _ (F.tt (A:=a)) Y q;rw[a1n]at H;have s:=H.copy u f l (by omega) d.1 c o.1 g;have D:n=r+2:=by omega
     rw[P,D];rw[D]at i;obtain⟨y,x,B,z,O⟩:=fin _ _ r s (by omega) (by omega) i;have WZ:=d.then o;have U:=eP d.1 c g;obtain⟨J,T,R,N⟩:=O.opt WZ (by have:1*1<=(r+2)*p:=a0D (by omega) f;omega) i (mM U).1 (mM U).2;exact⟨J,x,T,R,N.mono (a0b _) (by omega) (by omega)⟩
   | succ lo =>
     have P:kD a (lo+1) (some n)=eQ a (lo+1) (dG a k (eH a .one)):=by show eQ a (lo+1) (dG a (n-(lo+1)) .one)=_;rw[V,I]
     obtain⟨H,o,g⟩:=aaD u d c f l (by omega) k 0 _ (F.tt (A:=a)) Y q;rw[a1n]at H;obtain⟨-,-,-,s⟩:=SY u d c f l (by omega) (lo+1) k _ H o g;have O:=s lo rfl;have D:n=k+lo+2:=by omega
     rw[P,D];rw[D]at i;obtain⟨y,x,B,z,N⟩:=fin _ _ (k+lo) O (by omega) (by omega) i;exact⟨y,x,B,z,N.mono (a0b _) (by omega) (by omega)⟩
def WW(m b:Nat):Nat:=m*m+22*m+2+8*b
def Ta{b:Nat}(a:m<=m')(hb:b<=b'):WW m b<=WW m' b':=by have:=a0D a a;unfold WW;omega
theorem awd(m b:Nat):WW (m+1) b=WW m b+2*m+23:=by grind [WW]
theorem awe(m b:Nat):WW (m+3) b=WW m b+6*m+75:=by grind [WW]
def awf(m b:Nat):2*(1+m+b)<=WW m b:=by unfold WW;omega
def EL(X:NF)(P b m:Nat):Prop:=X=.zero\/X=.one\/(aP X=true/\∃p t C E e,1<=p/\p<=P/\Pt X p b m (WW m b) t C E e)
theorem EL.mono{b:Nat}(h:EL X P b m)(f:P<=P')(hb:b<=b')(a:m<=m'):EL X P' b' m':=by
 rcases h with h|h|⟨ht,p,t,C,E,e,d,g,c⟩
 .exact .inl h
 .exact .inr (.inl h)
 exact .inr (.inr ⟨ht,p,t,C,E,e,d,by omega,c.mono hb a (Ta a hb)⟩)
def aaE:∀k,eQ .zero k .zero=.zero
 | 0=>rfl
 | k+1=>aaE k
theorem aaF:∀k,dG .zero k .one=.one
 | 0=>rfl
 | k+1=>by
   show dG .zero k (eH (aG .zero .one) .one)=.one;have:eH (aG .zero .one) .one=.one:=by simp[aG,eH,bQ,parts,bN,dF,bf,bits,gU,put,mkS]
   rw[this];exact aaF k
def WT(k:Nat):eQ .zero k .one=.zero\/eQ .zero k .one=.one:=by
 cases k with
 | zero=>exact .inr rfl
 | succ k=>exact .inl (aaE k)
def ajW(lo:Nat)(hi:Option Nat):kD .zero lo hi=.zero\/kD .zero lo hi=.one:=by
 cases hi with
 | none=>exact WT lo
 | some n=>simp only[kD,aaF];exact WT lo
def EL.rep{b:Nat}(h:EL X P b m)(c:WC X)(lo:Nat)(hi:Option Nat)(q:∀n,hi=some n->lo<=n)(a:times lo hi<=10)(R:times lo hi*P<=40)(O:P<=40)(L:m+2+b<=43)(hb:b<=5) :
 EL (kD X lo hi) (times lo hi*P) b (m+iV lo hi):=by
 rcases h with rfl|rfl|⟨ht,p,t,C,E,e,d,v,r⟩
 .rcases ajW lo hi with h|h
  .exact .inl h
  exact .inr (.inl h)
 .exact .inr (.inl (acO lo hi))
 have g:times lo hi*p<=times lo hi*P:=a0o _ v;have J:=vU lo hi;have I:=awd m b;have H:=awe m b
 by_cases i:2<=times lo hi
 .by_cases B:lo=1/\hi=none
  .obtain⟨rfl,rfl⟩:=B
   have l:kD X 1 none=aG X (iH X):=rfl;have w:times 1 none=2:=rfl;have j:iV 1 none=1:=rfl;rw[w]at R g |-;rw[l,j];obtain⟨s,A,f,o,y⟩:=r.plus c ht d (by omega) (by omega);exact .inr (.inr ⟨eP c.1 ht (KO ht),2*p,s,A,f,o,by omega,g,y.mono (a0b _) (a0b _) (by omega)⟩)
  have j:iV lo hi=3:=by
   cases hi with
   | none=>simp only[iV];rw[a0n];simp only[times]at i;intro h;exact B ⟨by omega,rfl⟩
   | some n=>simp only[iV];rw[a0n];simp only[times]at i;omega
  rw[j];obtain⟨s,A,f,o,y⟩:=r.aoP c ht d lo hi q i a (by omega) L;have V:aP (kD X lo hi)=true:=by
   cases hi with
   | none =>
     simp only[times]at i;have:∀k (T:NF),aP T=true->aP (eQ X k T)=true:=by
      intro k
      induction k with
      | zero=>intro T a;exact a
      | succ k u=>intro T a;exact u _ (eP c.1 ht a)
     exact this lo _ (KO ht)
   | some n =>
     have G:∀k (T:NF),aP T=true->aP (eQ X k T)=true:=by
      intro k
      induction k with
      | zero=>intro T a;exact a
      | succ k u=>intro T a;exact u _ (eP c.1 ht a)
     have z:∀k (T:NF),WC T->aP T=true->aP (dG X k T)=true:=by
      intro k
      induction k with
      | zero=>intro T _ a;exact a
      | succ k u=>intro T F a;exact u _ ((c.then F).or .one) (KI (c.then F) (eP c.1 ht a))
     simp only[times]at i;show aP (eQ X lo (dG X (n-lo) .one))=true;cases W:n-lo with
     | zero=>have:=q n rfl;obtain⟨k,rfl⟩:∃k,lo=k+1:=⟨lo-1,by omega⟩;show aP (eQ X k (aG X .one))=true;rw[bF];exact G k X ht
     | succ k=>refine G lo _ ?_;show aP (dG X k (eH (aG X .one) .one))=true;rw[bF];exact z k _ (c.or .one) (KI c ht)
  refine .inr (.inr ⟨V,times lo hi*p,s,A,f,o,?_,g,y.mono (a0b _) (a0b _) (by omega)⟩);have:1*1<=times lo hi*p:=a0D (by omega) d;omega
 cases hi with
 | none =>
   simp only[times]at i;obtain rfl:lo=0:=by omega
   have l:kD X 0 none=iH X:=rfl;have w:times 0 none*P=P:=by simp[times]
   have j:iV 0 none=1:=rfl;rw[l,w,j]
   by_cases D:∃x,X=.star x
   .obtain⟨x,rfl⟩:=D
    exact .inr (.inr ⟨ht,p,t,C,E,e,d,v,r.mono (a0b _) (by omega) (by omega)⟩)
   have U:iH X=.star X:=by cases X<;>first | rfl|exact absurd ⟨_,rfl⟩ D|(simp[aP]at ht)
   obtain⟨f,o,N⟩:=r.star d (by omega) (by omega) (mM ht).1;rw[U];exact .inr (.inr ⟨rfl,p,t+4,f,f,o,d,v,N.mono (a0b _) (a0b _) (by omega)⟩)
 | some n =>
   simp only[times]at i;have M:=q n rfl;rcases(show n=0\/n=1 by omega) with rfl|rfl
   .obtain rfl:lo=0:=by omega
    exact .inr (.inl rfl)
   have w:times lo (some 1)*P=P:=by simp[times]
   rw[w];rcases(show lo=0\/lo=1 by omega) with rfl|rfl
   .have l:kD X 0 (some 1)=eH X .one:=by show eH (aG X .one) .one=_;rw[bF]
    have j:iV 0 (some 1)=1:=rfl;rw[l,j];obtain⟨s,f,o,S⟩:=r.opt c d (by omega) (mM ht).1 (mM ht).2;exact .inr (.inr ⟨KI c ht,p,s,C,f,o,d,v,S.mono (a0b _) (a0b _) (by omega)⟩)
   have l:kD X 1 (some 1)=X:=by show aG X .one=X;exact bF X
   rw[l];exact .inr (.inr ⟨ht,p,t,C,E,e,d,v,r.mono (a0b _) (by omega) (Ta (by omega) (a0b _))⟩)
def CL(X:NF)(P b m:Nat):Prop:=X=.zero\/X=.one\/(aP X=true/\∃p,1<=p/\p<=P/\((∃t C E e,Pt X p b m (WW m b) t C E e)\/(gF X=true/\∃t C E e,Ct X p b m (WW m b) t C E e)))
theorem CL.mono{b:Nat}(h:CL X P b m)(g:P<=P')(hb:b<=b')(c:m<=m'):CL X P' b' m':=by
 rcases h with h|h|⟨ht,p,f,i,a⟩
 .exact .inl h
 .exact .inr (.inl h)
 refine .inr (.inr ⟨ht,p,f,by omega,?_⟩);rcases a with⟨t,C,E,e,a⟩|⟨d,t,C,E,e,a⟩
 .exact .inl ⟨t,C,E,e,a.mono hb c (Ta c hb)⟩
 exact .inr ⟨d,t,C,E,e,a.mono hb c (Ta c hb)⟩
theorem EL.cl{b:Nat}(h:EL X P b m):CL X P b m:=by
 rcases h with h|h|⟨ht,p,t,C,E,e,d,c,a⟩
 .exact .inl h
 .exact .inr (.inl h)
 exact .inr (.inr ⟨ht,p,d,c,.inl ⟨t,C,E,e,a⟩⟩)
def CL.cons {A B:NF}{Q b:Nat}(i:EL A P b m)(a:CL B Q b m)(j:WC A)(WB:WC B)(v:P+Q<=40)(u:m+b<=44):CL (aG A B) (P+Q) b m:=by
 rcases i with rfl|rfl|⟨c,p,t,C,E,e,o,x,n⟩
 .exact .inl rfl
 .exact a.mono (by omega) (a0b _) (a0b _)
 rcases a with rfl|rfl|⟨tb,q,w,y,d⟩
 .exact .inl (fJ A)
 .rw[bF]
  exact .inr (.inr ⟨c,p,o,by omega,.inl ⟨t,C,E,e,n⟩⟩)
 obtain⟨tA,z,eA,i⟩:=n.ct (mM c).1;have a:∃f CB h g,Ct B q b m (WW m b) f CB h g:=by
  rcases d with⟨l,k,s,r,d⟩|⟨_,l,k,s,r,d⟩
  .obtain⟨f,h,g,a⟩:=d.ct (mM tb).1
   exact⟨f,k,h,g,a⟩
  exact⟨l,k,s,r,d⟩
 obtain⟨f,CB,h,g,a⟩:=a;have:=i.cons a o w (by omega) u (awf m b) j.1 c WB.1 tb;exact .inr (.inr ⟨eP j.1 c tb,p+q,by omega,by omega,.inr ⟨Ql j.1 c tb,_,_,_,_,this⟩⟩)
def CL.gt{b:Nat}(h:CL X P b m)(i:P<=40)(g:m+b<=44)(ht:aP X=true):∃p t C E e,1<=p/\p<=P/\Gt X p b m (WW m b+2) t C E e/\t+7<=p*(524+10*(m+b)):=by
 rcases h with rfl|rfl|⟨_,p,c,d,a⟩
 .simp[aP]at ht
 .simp[aP]at ht
 rcases a with⟨t,C,E,e,a⟩|⟨f,t,C,E,e,a⟩
 .exact⟨p,t,C,E,e,c,d,(a.mono (a0b _) (a0b _) (by omega:WW m b<=WW m b+2)).gt,by have:=a.ht;omega⟩
 exact⟨p,t+1,C,E,e,c,d,a.gt c (by omega) g f,by have:=a.ht;omega⟩
def amZ {xs:List NF}(g:∀x∈xs,WC x)(e:a∈xs)(ht:aP a=true):aP (bQ xs)=true:=by
 have f:∀x∈xs,wf x:=λx n=>(g x n).1
 obtain⟨p,i,m⟩:=aaC (g a e) ht;have o:∃q∈parts (bQ xs),q≠.one:=by
  have k:p∈xs.flatMap parts:=a1l.2 ⟨a,e,i⟩;cases h:dF p
  .refine⟨p,?_,m⟩
   rw[rD f];unfold bN;exact a1B _ (List.mem_filter.2 ⟨k,by simp[h]⟩)
  have b:=wK (f a e) i;have hb:bf (xs.flatMap parts)≠0:=by
   have:=Vk k;cases p<;>simp[dF]at h
   rename_i s
   have t:0<s:=b.1;simp only[bits]at this;omega
  refine⟨.set (bf (xs.flatMap parts)),?_,by simp⟩;rw[rD f];unfold bN;rw[a0n hb];simp
 obtain⟨q,hq,r⟩:=o;cases j:bQ xs with
 | zero=>rw[j]at hq;simp[parts]at hq
 | one=>rw[j]at hq;simp[parts]at hq;exact absurd hq r
 | set s=>rfl
 | pair c d=>rfl
 | star c=>rfl
 | sum l=>rfl
theorem adt:∀l:List RX,iO l=(l.map mh).sum
 | []=>rfl
 | x::r=>by simp only[iO,a0E,a0Y,adt r]
theorem WU(f:α->Nat)(q:α->Bool):∀l:List α,((l.filter q).map f).sum<=(l.map f).sum
 | []=>by simp
 | x::r=>by
   have:=WU f q r;rw[List.filter_cons]
   split
   .grind
   grind
theorem Yo(h:¬ aP a=true):∀p,p∈parts a->p=.one:=by grind [fQ,parts]
theorem alv {l:List RX}{b:Nat}(u:∀x∈l,WC (bn x))(h:∀x∈l,CL (bn x) (mh x) b m)(N:iO l<=40)(S:m+b<=44) :
 bQ (iP l)=.zero\/bQ (iP l)=.one\/(aP (bQ (iP l))=true/\∃p t C E e,1<=p/\p<=iO l/\Gt (bQ (iP l)) p b m (WW m b+4) t C E e):=by
 rw[uB];rw[adt]at N |-;have d:∀x∈l.map bn,wf x:=λx c=>by obtain⟨a,o,rfl⟩:=a0q.1 c;exact(u a o).1
 have z:∀x∈l.map bn,WC x:=λx c=>by obtain⟨a,o,rfl⟩:=a0q.1 c;exact u a o
 let l':List RX:=l.filter λx=>aP (bn x)
 have g:∀x∈l',x∈l/\aP (bn x)=true:=λx c=>by simpa[l'] using List.mem_filter.1 c
 have J:∀x∈l,mh x<=40:=λx c=>by obtain⟨A,B,rfl⟩:=a2Q c;simp at N;omega
 have R:(∃x∈l,bn x=.one)\/¬ ∃x∈l,bn x=.one:=Classical.em _;have r:∀p,p∈(l.map bn).flatMap parts↔p∈(l'.map bn).flatMap parts\/(p=.one/\∃x∈l,bn x=.one):=by grind [aP,bn,Yo,fQ,parts]
 by_cases s:l'=[]
 .rcases R with ho|ho
  .right;left
   have:bQ (l.map bn)=bQ [.one]:=vT d (by intro x c;simp at c;subst c;trivial) (λp=>by rw[r p,s];simp[parts];intro _;exact ho)
   rw[this];simp[bQ,parts,bN,dF,bf,bits,gU,put,mkS]
  left
  have:bQ (l.map bn)=bQ []:=vT d (by simp) (λp=>by rw[r p,s];simp;intro _ x c e;exact ho ⟨x,c,e⟩)
  rw[this];rfl
 right;right
 have hd:∀a:{x // x∈l'},∃p t C E e,1<=p/\p<=mh a.1/\Gt (bn a.1) p b m (WW m b+2) t C E e/\t+7<=p*(524+10*(m+b)):=λa=>(h a.1 (g a.1 a.2).1).gt (J a.1 (g a.1 a.2).1) S (g a.1 a.2).2
 let p:{x // x∈l'}->Nat:=λa=>(hd a).choose
 let t:{x // x∈l'}->Nat:=λa=>(hd a).choose_spec.choose
 let C:{x // x∈l'}->Nat->Nat:=λa=>(hd a).choose_spec.choose_spec.choose
 let E:{x // x∈l'}->Nat->Nat:=λa=>(hd a).choose_spec.choose_spec.choose_spec.choose
 let e:{x // x∈l'}->Nat->Nat:=λa=>(hd a).choose_spec.choose_spec.choose_spec.choose_spec.choose
 have j:∀a,1<=p a/\p a<=mh a.1/\Gt (bn a.1) (p a) b m (WW m b+2) (t a) (C a) (E a) (e a)/\t a+7<=p a*(524+10*(m+b)):=λa=>(hd a).choose_spec.choose_spec.choose_spec.choose_spec.choose_spec
 have I:l'.attach.map (λa=>bn a.1)=l'.map bn:=by simp
 have M:(l'.attach.map (λa=>mh a.1)).sum=(l'.map mh).sum:=by congr 1;simp
 have O:(l'.attach.map p).sum<=(l.map mh).sum:=by refine a0h (aaA p (λa=>mh a.1) _ λa _=>(j a).2.1) ?_;rw[M];exact WU mh _ l
 have P:l'.attach≠[]:=by simpa using s
 have hG:=Gt.bQ P (λa _=>(u a.1 (g a.1 a.2).1).1) (λa _=>(j a).1) (by omega) (λa _=>(j a).2.2.1) (λa _=>(j a).2.2.2);rw[I]at hG;obtain⟨v,k⟩:=List.exists_mem_of_ne_nil l' s;have w:1<=(l'.attach.map p).sum:=by obtain⟨T,U⟩:=List.exists_mem_of_ne_nil _ P;obtain⟨A,B,D⟩:=a2Q U;have:=(j T).1;rw[D];simp;omega
 have f:∀x∈l'.map bn,wf x:=λx c=>by obtain⟨a,o,rfl⟩:=a0q.1 c;exact(u a (g a o).1).1
 refine⟨amZ z (a0q.2 ⟨v,(g v k).1,rfl⟩) (g v k).2,?_⟩;rcases R with ho|ho
 .have H:bQ (l.map bn)=eH (bQ (l'.map bn)) .one:=by
   unfold eH;rw[Ri f (by intro x c;simp at c;subst c;trivial)];refine vT d (by intro x c;rcases a0e.1 c with c|c;exact f x c;simp at c;subst c;trivial) (λq=>?_);rw[r q];simp only[List.flatMap_append,a0e,a1i,a2E,a0R,parts,a0w]
   constructor
   .simp_all
   simp_all
  rw[H];have i:=hG.1.one (Ms f) hG.2 w (by omega);exact⟨_,_,_,_,_,w,O,i⟩
 have H:=vT d f (λq=>by
  rw[r q]
  constructor
  .rintro(G|⟨_,G⟩)
   .exact G
   exact absurd G ho
  exact .inl)
 rw[H];have i:=hG.1;refine⟨_,_,_,_,_,w,O,⟨i.kp,i.ht,i.he,λn y=>a0h (i.hC n y) (vD (by omega)),λn y=>a0h (i.hE n y) (vD (by omega))⟩⟩
mutual
def mm:RX->Nat
 | .one _=>0
 | .seq l=>yT l
 | .alt l=>yT l
 | .rep x lo hi=>mm x+iV lo hi
def yT:List RX->Nat
 | []=>0
 | x::r=>max (mm x) (yT r)
end
mutual
def bE:RX->Nat
 | .one _=>0
 | .seq l=>Qn l+1
 | .alt l=>xQ l+1
 | .rep x _ _=>bE x
def Qn:List RX->Nat
 | []=>0
 | x::r=>max (bE x) (Qn r)
def bC:RX->Nat
 | .one _=>0
 | .seq l=>Qn l
 | .alt l=>xQ l+1
 | .rep x _ _=>bE x
def xQ:List RX->Nat
 | []=>0
 | x::r=>max (bC x) (xQ r)
end
mutual
def sm:RX->Prop
 | .one _=>True
 | .seq l=>iO l<=40/\smL l
 | .alt l=>iO l<=40/\smL l
 | .rep x lo hi=>mh x*times lo hi<=40/\times lo hi<=10/\mh x<=40/\sm x
def smL:List RX->Prop
 | []=>True
 | x::r=>sm x/\smL r
end
mutual
theorem ahf:∀(e:RX),tL e->sm e->(∀b m,bE e<=b->mm e<=m->b<=5->m+2+b<=43->EL (bn e) (mh e) b m)/\(∀b m,bC e<=b->mm e<=m->b<=5->m+2+b<=43->CL (bn e) (mh e) b m)
 | .one s,ho,f=>by
   have h:∀b m,EL (bn (.one s)) (mh (.one s)) b m:=by
    intro b m;simp only[bn,mh]
    split
    .exact .inl rfl
    exact .inr (.inr ⟨rfl,1,514,_,_,_,by omega,by omega,(Pt.set s).mono (a1G _) (a1G _) (by unfold WW;omega)⟩)
   exact⟨λb m _ _ _ _=>h b m,λb m _ _ _ _=>(h b m).cl⟩
 | .seq l,ho,f=>by
   have k:=(MV l ho f.2).1;have g:iO l<=40:=f.1;refine⟨λb m hb a c d=>?_,λb m hb a c d=>k b m g hb a c d⟩;simp only[bE]at hb;obtain⟨b',rfl⟩:∃b',b=b'+1:=⟨b-1,by omega⟩;have h:=k b' m g (by omega) a (by omega) (by omega);show EL (sJ l) (iO l) (b'+1) m
   by_cases ht:aP (sJ l)=true
   .obtain⟨p,t,C,E,e,j,i,o,_⟩:=h.gt g (by omega) ht
    exact .inr (.inr ⟨ht,p,t,C,E,e,j,i,(o.shut j (by omega)).mono (a0b _) (a0b _) (by unfold WW;omega)⟩)
   rcases fQ ht with e|e
   .exact .inl e
   exact .inr (.inl e)
 | .alt l,ho,f=>by
   have k:=(MV l ho.1 f.2).2;have g:iO l<=40:=f.1;have q:∀x∈l,WC (bn x):=λx n=>E8 ho.1 (bn x) (by rw[uB];exact a0q.2 ⟨x,n,rfl⟩)
   have key:∀b m,xQ l+1<=b->yT l<=m->b<=5->m+2+b<=43->EL (bQ (iP l)) (iO l) b m:=by
    intro b m hb a c d;obtain⟨b',rfl⟩:∃b',b=b'+1:=⟨b-1,by omega⟩;have h:=k b' m (by omega) a (by omega) (by omega);rcases alv q h g (by omega) with e|e|⟨ht,p,t,C,E,e,j,i,o⟩
    .exact .inl e
    .exact .inr (.inl e)
    exact .inr (.inr ⟨ht,p,t,C,E,e,j,i,(o.shut j (by omega)).mono (a0b _) (a0b _) (by unfold WW;omega)⟩)
   exact⟨λb m hb a c d=>key b m hb a c d,λb m hb a c d=>(key b m hb a c d).cl⟩
 | .rep x lo hi,ho,f=>by
   have n:=(ahf x ho.1 f.2.2.2).1;have key:∀b m,bE x<=b->mm x+iV lo hi<=m->b<=5->m+2+b<=43->EL (kD (bn x) lo hi) (mh x*times lo hi) b m:=by intro b m hb a c d;have h:=n b (m-iV lo hi) hb (by omega) c (by omega);have i:=h.rep (uC ho.1) lo hi ho.2 f.2.1 (by rw[a1b];exact f.1) f.2.2.1 (by omega) c;rw[a1b];exact i.mono (a0b _) (a0b _) (by omega)
   exact⟨λb m hb a c d=>key b m hb a c d,λb m hb a c d=>(key b m hb a c d).cl⟩
theorem MV:∀(l:List RX),jm l->smL l->(∀b m,iO l<=40->Qn l<=b->yT l<=m->b<=5->m+2+b<=43->CL (sJ l) (iO l) b m)/\(∀b m,xQ l<=b->yT l<=m->b<=5->m+2+b<=43->∀x∈l,CL (bn x) (mh x) b m)
 | [],_,_=>⟨λb m _ _ _ _ _=>.inr (.inl rfl),λb m _ _ _ _ x c=>by simp at c⟩
 | y::r,ho,g=>by
   have j:=ahf y ho.1 g.1;have i:=MV r ho.2 g.2;refine⟨λb m h hb f d a=>?_,λb m hb f d a x c=>?_⟩
   .simp only[Qn]at hb
    simp only[yT]at f;simp only[iO]at h;exact CL.cons (j.1 b m (by omega) (by omega) d a) (i.1 b m (by omega) (by omega) (by omega) d a) (uC ho.1) (Zz ho.2) h (by omega)
   simp only[xQ]at hb;simp only[yT]at f;rcases a0l.1 c with e|c
   .rw[e];exact j.2 b m (by omega) (by omega) d a
   exact i.2 b m (by omega) (by omega) d a x c
end
def KP.all {t:Nat} {C E e:Nat->Nat}(h:KP X t C E e)(n:Nat):oG X 0+hG X 0 n<=C n:=by
 have d:=h.c n;cases X with
 | zero=>simp[oG,hG]
 | one=>simp[oG,hG]
 | set s=>have:=U4 0 n (.set s);simp[parts]at d;omega
 | pair a b=>have:=U4 0 n (.pair a b);simp[parts]at d;omega
 | star a=>have:=U4 0 n (.star a);simp[parts]at d;omega
 | sum l=>have:=ae7 0 n l;simp only[parts]at d;simp only[oG,hG,a0G];omega
def asb {p:Nat}(h:p<=40):lg p<=5/\dS p<=72*2 ^ lg p/\(lg p=5->dS p<=63*2 ^ lg p):=by
 have:((List.range 41).all λp=>decide (lg p<=5/\dS p<=72*2 ^ lg p/\(lg p=5->dS p<=63*2 ^ lg p)))=true:=by decide +kernel
 have a:=a1d.1 this p (by simp;omega);exact a2q a
theorem awj:hh 9 40=7271678484:=by decide +kernel
def asc {p b:Nat}(h:p<=40)(hb:b<=5):dS p*hh (b+lg p) 40<=63*47573905428*2 ^ lg p:=by
 obtain⟨f,e,d⟩:=asb h
 by_cases c:lg p=5
 .have a:hh (b+lg p) 40<=47573905428:=by rw[<-auM];exact aff (by omega) (by omega)
  calc dS p*hh (b+lg p) 40<=63*2 ^ lg p*47573905428:=a0D (d c) a
   _=63*47573905428*2 ^ lg p:=by rw[Nat.mul_right_comm]
 have a:hh (b+lg p) 40<=7271678484:=by rw[<-awj];exact aff (by omega) (by omega)
 calc dS p*hh (b+lg p) 40<=72*2 ^ lg p*7271678484:=a0D e a
  _=72*7271678484*2 ^ lg p:=by rw[Nat.mul_right_comm]
  _<=63*47573905428*2 ^ lg p:=a0z _ (by omega)
theorem ahg {l:List RX}(ho:tL (.alt l))(c:sm (.alt l))(hb:xQ l<=5)(r:yT l+2*xQ l<=40){w:LN}(h:w.length<=40):nl (dW (bn (.alt l)) w)<9223372036854775807:=by
 have d:=uC ho;have q:=auu d.1 d.2 w 40 h;refine a2i q ?_;have k:=(MV l ho.1 c.2).2 (xQ l) (yT l) (a0b _) (a0b _) hb (by omega);have j:∀x∈l,WC (bn x):=λx g=>E8 ho.1 (bn x) (by rw[uB];exact a0q.2 ⟨x,g,rfl⟩)
 have i:=c.1;unfold nB;show 518+oG (bQ (iP l)) 0+hG (bQ (iP l)) 0 40<_;rcases alv j k i (by omega) with e|e|⟨_,p,t,C,E,e,y,v,f⟩
 .rw[e];simp[oG,hG]
 .rw[e];simp[oG,hG]
 have u:=f.kp.all 40;have o:=f.hC 40 (by omega);have n:=asc (p:=p) (b:=xQ l) (by omega) hb;have a:WW (yT l) (xQ l)+4<=2526:=by have:=a0D (show yT l<=40 by omega) (show yT l<=40 by omega);unfold WW;omega
 have m:C 40*2 ^ lg p<=964*2526*63*47573905428*2 ^ lg p:=by
  refine a0h o ?_;unfold Rb
  calc 964*(WW (yT l) (xQ l)+4)*dS p*hh (xQ l+lg p) 40=964*(WW (yT l) (xQ l)+4)*(dS p*hh (xQ l+lg p) 40):=a0Z _ _ _
   _<=964*2526*(63*47573905428*2 ^ lg p):=a0D (a0o _ a) n
   _=964*2526*63*47573905428*2 ^ lg p:=by simp only[a0Z]
 have s:=Nat.le_of_mul_le_mul_right m (a2S _);omega
def chg(s i:Nat):Bool:=s.testBit i != s.testBit (i+1)
def cp(s:Nat):Nat:=(List.range 255).countP (chg s)
theorem ahh:cp 0=0:=by decide +kernel
theorem Iw(s f:Nat):∀k i,(vg s f k).testBit i=(s.testBit i||(decide (f<=i)&&decide (i<f+k)))
 | 0,i=>by grind [vg]
 | k+1,i=>by
   rw[vg,a2D,Iw s f k i,a2I];rw[a0T];simp only[a1a,a0O,a0U]
   constructor
   .grind
   grind
theorem aaG {p q r:Nat->Bool}(l:LN)(h:∀x∈l,p x=true->q x=true\/r x=true):l.countP p<=l.countP q+l.countP r:=by
 induction l with
 | nil=>simp
 | cons a l b =>
   have b:=b (λx c=>h x (by simp[c]));rw[a2G,a2G,a2G];cases d:p a
   .simp;omega
   grind
theorem count_eq(n k:Nat):(List.range n).countP (λi=>decide (i=k))<=1:=by
 induction n with
 | zero=>simp
 | succ n a =>
   rw[List.range_succ,List.countP_append]
   by_cases h:n=k
   .grind [List.range,List.countP_eq_zero]
   grind
theorem am0(s:Nat)(a b:UInt8):cp (addRange s a b)<=cp s+2:=by
 unfold cp;have:=aaG (p:=chg (addRange s a b)) (q:=chg s) (r:=λi=>decide (i+1=a.toNat)||decide (i=b.toNat)) (List.range 255) (by
  intro i _ hi;unfold chg addRange at hi;rw[Iw,Iw]at hi;cases c:chg s i
  .grind [chg]
  exact .inl rfl)
 have:=aaG (p:=λi=>decide (i+1=a.toNat)||decide (i=b.toNat)) (q:=λi=>decide (i=a.toNat-1)) (r:=λi=>decide (i=b.toNat)) (List.range 255) (by intro i _ hi;simp[a1a,a0U]at hi |-;omega)
 have:=count_eq 255 (a.toNat-1);have:=count_eq 255 b.toNat;omega
theorem ase{s:Nat}:cp (s ^^^ fU)=cp s:=by
 unfold cp;refine List.countP_congr (λi hi=>?_);have hi:=a2b.1 hi;have f:∀j,j<256->fU.testBit j=true:=by decide +kernel
 unfold chg;rw[a2o,a2o,f i (by omega),f (i+1) (by omega)];cases s.testBit i<;>cases s.testBit (i+1)<;>simp
theorem Qo:∀{k st:Nat} {t r:LB} {c:Nat},fE k st t=some (c,r)->cp c+2*r.length<=cp st+2*t.length
 | 0,st,t,r,c,h=>by cases h
 | k+1,st,t,r,c,h=>by
   unfold fE at h
   split at h
   .cases h
   rename_i a b q hi
   have e:=BZ hi;have d:=am0 st a b
   split at h
   .grind
   have:=Qo h;omega
def ajX {t r:LB} {s:Nat}(h:nT t=some (s,r)):cp s+2*r.length<=2*t.length:=by
 unfold nT at h
 split at h
 .rename_i a
  have c:=jg a
  split at h
  .cases h
  rename_i s1 q b
  have:=Qo b;simp at h;obtain⟨rfl,rfl⟩:=h;rw[ase];rw[ahh]at this;omega
 have:=Qo h;rw[ahh]at this;omega
theorem MW:∀(l:List RX) (y:RX),yT (l++[y])=max (yT l) (mm y)
 | [],y=>by simp[yT]
 | x::r,y=>by simp only[a0L,yT,MW r y];omega
theorem Vl:∀(l:List RX) (y:RX),Qn (l++[y])=max (Qn l) (bE y)
 | [],y=>by simp[Qn]
 | x::r,y=>by simp only[a0L,Qn,Vl r y];omega
theorem FZ:∀(l:List RX) (y:RX),xQ (l++[y])=max (xQ l) (bC y)
 | [],y=>by simp[xQ]
 | x::r,y=>by simp only[a0L,xQ,FZ r y];omega
def aaH:∀{k:Nat} {x y:RX} {t r:LB},dQ k x t=some (y,r)->bE y=bE x/\mm y+r.length<=mm x+t.length
 | 0,x,y,t,r,h=>by simp[dQ]at h
 | k+1,x,y,t,r,h=>by
   simp only[dQ]at h
   split at h
   .split at h
    .simp at h
    rename_i b e c
    have f:=E9 c;obtain⟨a,d⟩:=aaH h;simp only[bE,mm]at a d;exact⟨a,by omega⟩
   simp at h;obtain⟨rfl,rfl⟩:=h;exact⟨rfl,a0b _⟩
mutual
theorem am1:∀{k nest:Nat} {t r:LB} {x:RX},nest<=5->ik k nest t=some (x,r)->bE x+nest<=5/\mm x+2*bE x+r.length<=t.length
 | 0,nest,t,r,x,b,h=>by simp[ik]at h
 | k+1,nest,[],r,x,b,h=>by simp[ik]at h
 | k+1,nest,c::q,r,x,b,h=>by
   simp only[ik]at h
   split at h
   .split at h
    .simp at h
    rename_i n
    split at h
    .simp at h
    rename_i o f a
    obtain⟨l,m,j,i⟩:=aaI (acc:=[]) (by omega) (by simp[xQ];omega) a
    split at h
    .rename_i g
     have u:=jg g;simp at h;obtain⟨rfl,rfl⟩:=h;subst m;simp[bE,mm,xQ,yT]at j i |-;omega
    simp at h
   split at h
   .split at h
    .simp at h
    rename_i s f a
    have e:=ajX a;simp at h;obtain⟨rfl,rfl⟩:=h;simp[bE,mm];omega
   split at h
   .simp at h
    obtain⟨rfl,rfl⟩:=h;simp[bE,mm];omega
   split at h
   .cases q with
    | nil=>simp at h
    | cons d p=>simp at h;obtain⟨rfl,rfl⟩:=h;simp[bE,mm];omega
   split at h
   .simp at h
   simp at h;obtain⟨rfl,rfl⟩:=h;simp[bE,mm];omega
theorem ahi:∀{k nest:Nat} {acc:List RX} {t r:LB} {x:RX},nest<=5->Qn acc+nest<=5->jF k nest acc t=some (x,r)->∃l,x=.seq l/\Qn l+nest<=5/\yT l+2*Qn l+r.length<=yT acc+2*Qn acc+t.length
 | 0,nest,acc,t,r,x,a,b,h=>by simp[jF]at h
 | k+1,nest,acc,t,r,x,a,b,h=>by
   simp only[jF]at h
   split at h
   .grind
   split at h
   .simp at h
   rename_i i m d
   obtain⟨p,o⟩:=am1 a d
   split at h
   .simp at h
   rename_i y j c
   obtain⟨m1,n⟩:=aaH c;obtain⟨l,g,f,e⟩:=ahi a (by rw[Vl];omega) h;rw[MW,Vl]at e;exact⟨l,g,f,by omega⟩
theorem aaI:∀{k nest:Nat} {acc:List RX} {t r:LB} {x:RX},nest<=5->xQ acc+nest<=5->iQ k nest acc t=some (x,r)->∃l,x=.alt l/\xQ l+nest<=5/\yT l+2*xQ l+r.length<=yT acc+2*xQ acc+t.length
 | 0,nest,acc,t,r,x,a,e,h=>by simp[iQ]at h
 | k+1,nest,acc,t,r,x,a,e,h=>by
   simp only[iQ]at h
   split at h
   .simp at h
   rename_i n o f
   obtain⟨c,m,q,j⟩:=ahi (acc:=[]) a (by simp[Qn];omega) f;subst m;simp only[yT,Qn]at j
   split at h
   .rename_i d
    have p:=jg d;obtain⟨l,i,g,b⟩:=aaI a (by rw[FZ];simp only[bC];omega) h;rw[MW,FZ]at b;simp only[bC,mm]at b;exact⟨l,i,g,by omega⟩
   simp at h;obtain⟨rfl,rfl⟩:=h;refine⟨acc++[.seq c],rfl,?_,?_⟩
   .rw[FZ];simp only[bC];omega
   rw[MW,FZ];simp only[bC,mm];omega
end
theorem ajY {t:LB} {e:RX}(h:fF t=some e):∃l,e=.alt l/\xQ l<=5/\yT l+2*xQ l<=t.length:=by
 unfold fF at h
 split at h
 .rename_i y a
  obtain⟨l,c,d,b⟩:=aaI (acc:=[]) (a1G _) (by simp[xQ]) a;simp at h;subst h;simp[xQ,yT]at b;exact⟨l,c,by omega,by omega⟩
 simp at h
mutual
theorem ajZ:∀(e:RX),uO e->dI e<=40->sm e
 | .one _,_,_=>trivial
 | .seq l,hd,h=>by simp only[dI]at h;exact⟨by rw[Cf h];exact h,afi l hd h⟩
 | .alt l,hd,h=>by simp only[dI]at h;exact⟨by rw[Cf h];exact h,afi l hd h⟩
 | .rep x lo hi,hd,h=>by
   simp only[dI]at h
   split at h
   .omega
   rename_i c
   have a:dI x<=40:=by omega
   have b:=rZ a;refine⟨by rw[b];exact h,ac0 hd.2.1 hd.2.2,by rw[b];exact a,ajZ x hd.1 a⟩
theorem afi:∀(l:List RX),mZ l->bV l<=40->smL l
 | [],_,_=>trivial
 | x::r,hd,h=>by simp only[bV]at h;exact⟨ajZ x hd.1 (by omega),afi r hd.2 (by omega)⟩
end
theorem ahj {t:LB} {e:RX}(h:fF t=some e)(ht:t.length<=40)(b:dI e<=40)(w:LN)(a:w.length<=40):nl (dW (bn e) w)<9223372036854775807:=by grind [ajY,ahg,mQ,ajZ,zM]
theorem aaJ(a:NF):∀k t,eQ a k (aG a t)=aG a (eQ a k t)
 | 0,t=>rfl
 | k+1,t=>by rw[eQ,aaJ a k (aG a t)];rfl
theorem Qp:eQ a (k+1) t=aG a (eQ a k t):=aaJ a k t
theorem aaK(a:NF):∀k t,dG a k (eH (aG a t) .one)=eH (aG a (dG a k t)) .one
 | 0,t=>rfl
 | k+1,t=>by rw[dG,aaK a k (eH (aG a t) .one)];rfl
theorem aaL:dG a (k+1) t=eH (aG a (dG a k t)) .one:=aaK a k t
def yU(a:NF)(lo:Nat):Option Nat->NF
 | none=>iH a
 | some n=>dG a (n-lo) .one
theorem aj0:kD a lo hi=eQ a lo (yU a lo hi):=by cases hi<;>rfl
def aj1(U:List NF)(a:NF)(lo:Nat)(hi:Option Nat):Prop :=
 (hi=none->iH a∈U) /\
 (∀n,hi=some n->∀k,k<n-lo->(∀f∈uZ a (dG a k .one),f∈U)/\Ff U [aG a (dG a k .one),.one]) /\
 (∀k,k<lo->∀f∈uZ a (eQ a k (yU a lo hi)),f∈U)
def Qq(U:List NF):List RX->Prop
 | []=>True
 | x::r=>(∀f∈uZ (bn x) (sJ r),f∈U)/\Qq U r
def Qq.get {U:List NF}:∀{l:List RX},Qq U l->∀i (hi:i<l.length),∀f∈uZ (bn l[i]) (sJ (l.drop (i+1))),f∈U
 | x::r,h,0,_=>h.1
 | x::r,h,i+1,hi=>by simpa using Qq.get h.2 i (by simpa using hi)
mutual
def aaM(U:List NF):RX->Prop
 | .one s=>s≠0->.set s∈U
 | .seq l=>zi U l/\Qq U l
 | .alt l=>zi U l/\Ff U (iP l)
 | .rep x lo hi=>aaM U x/\aj1 U (bn x) lo hi
def zi(U:List NF):List RX->Prop
 | []=>True
 | x::r=>aaM U x/\zi U r
end
theorem KQ {U:List NF}:∀{l:List RX},zi U l↔∀x∈l,aaM U x
 | []=>by simp[zi]
 | x::r=>by simp only[zi,a0l,forall_eq_or_imp,KQ]
def Tc(ls:List NF):List NF:=[.set (bf (ls.flatMap parts)),bQ ls]
def adu(lo:Nat):Option Nat->Nat
 | none=>0
 | some n=>n-lo
def Qr(a:NF)(lo:Nat)(hi:Option Nat):List NF :=
 iH a::((List.range (adu lo hi)).flatMap (λk=>uZ a (dG a k .one)++Tc [aG a (dG a k .one),.one]) ++
  (List.range lo).flatMap λk=>uZ a (eQ a k (yU a lo hi)))
mutual
def Td:RX->List NF
 | .one s=>[.set s]
 | .seq l=>aaN l
 | .alt l=>aaO l++Tc (iP l)
 | .rep x lo hi=>Td x++Qr (bn x) lo hi
def aaO:List RX->List NF
 | []=>[]
 | x::r=>Td x++aaO r
def aaN:List RX->List NF
 | []=>[]
 | x::r=>(Td x++aaN r)++uZ (bn x) (sJ r)
end
def aaP:∀(a b:NF),wf a->(uZ a b).length<=cl a:=by
 intro a;refine NF.ind (P:=λa=>∀b,wf a->(uZ a b).length<=cl a) ?_ a;intro a d b c
 by_cases hb:aP b=true
 .cases a with
  | zero=>simp[uZ]
  | one=>simp[uZ]
  | set s=>rw[nA rfl hb];exact Rn _
  | sum l=>rw[nA rfl hb];exact Rn _
  | star x=>rw[nA rfl hb];exact Rn _
  | pair x y=>have ht:aP (aG y b)=true:=eP c.2.1 c.2.2.2 hb;rw[E5 hb,nA c.2.2.1 ht];have:=d y (by simp[NF.size];omega) b c.2.1;simp[cl,elems]at this |-;omega
 rcases fQ hb with e|e<;>subst e<;>cases a<;>simp[uZ]
def ZO(x:NF):Prop:=∃p t,Et x p t/\p<=40/\t<=100
theorem ZO.wc {x:NF}(h:ZO x):WC x:=by obtain⟨p,t,h,_⟩:=h;exact h.1
theorem ZO.cl {x:NF}(h:ZO x):cl x<=40:=by
 obtain⟨p,t,h,a,ht⟩:=h
 by_cases b:p=0
 .rw[h.2.1 b];decide
 exact a0h ((h.2.2 (by omega)).cp.cl (by omega)) a
theorem ZO.size {x:NF}(h:ZO x):x.size<=8080:=by
 obtain⟨p,t,h,b,ht⟩:=h
 by_cases a:p=0
 .rw[h.2.1 a];decide
 refine a0h (h.2.2 (by omega)).sz ?_;have:2*p*(t+1)<=80*101:=a0D (by omega) (by omega);omega
def aaQ:∀l:List NF,l.length<=bP l
 | []=>a1G _
 | x::r=>by have:=x.size_pos;have:=aaQ r;simp only[bP,a0r];omega
def aj2 {x:NF} {n:Nat}(h:x.size<=n):(parts x).length<=n:=a0h (aaQ _) (a0h (Ws x) h)
def ahk {U ls:List NF} {n:Nat}(a:∀f∈Tc ls,f∈U)(h:∀x∈ls,x.size<=n)(d:ls.length<=1000)(c:n<=1000000):Ff U ls:=by
 refine⟨λ_=>a _ (by simp[Tc]),λ_=>a _ (by simp[Tc]),?_,by omega⟩;have g:=acX (ls:=ls) (n:=n) λx b=>aj2 (h x b)
 have e:ls.length*n<=1000*1000000:=a0D d c;omega
theorem am2:iV lo hi<=3:=by cases hi<;>simp only[iV]<;>split<;>omega
theorem apK {p t lo n:Nat}(c:Et a p t)(ht:1<=p->1<=t)(h:p*n<=40)(b:t<=90) {k:Nat}(d:k<=n-lo):ZO (dG a k .one):=by
 have:=aeY c ht 0 (some k) (by simp);refine⟨_,_,this,?_,?_⟩
 .exact a0h (a0o _ (show times 0 (some k)<=n by simp[times];omega)) h
 grind [am2]
def D4{β:Type}(f:α->List β)(n:Nat):∀l:List α,(∀a∈l,(f a).length<=n)->(l.flatMap f).length<=l.length*n
 | [],_=>by simp
 | a::r,h=>by
   have d:=h a (by simp);have c:=D4 f n r λx b=>h x (by simp[b])
   simp only[a1i,a0p,a0r,a0J,a2T];omega
def am3{b:NF}(c:a.size<=8080)(hb:b.size<=8080):(aG a b).size<=16161:=by have:=Hq a b;omega
theorem asf {U:List NF} {p t lo:Nat}(i:Et a p t)(l:p<=40)(ht:1<=p->1<=t)(h:p*times lo hi<=40)(c:t<=90)(m:∀n,hi=some n->lo<=n)(j:∀f∈Qr a lo hi,f∈U):aj1 U a lo hi:=by
 have hF:ZO a:=⟨p,t,i,l,by omega⟩;refine⟨λ_=>j _ (by simp[Qr]),?_,?_⟩
 .rintro n rfl k g
  have e:∀f∈uZ a (dG a k .one)++Tc [aG a (dG a k .one),.one],f∈U:=λf b=>j f (by unfold Qr;exact a2l _ (a1B _ (a1l.2 ⟨k,a2b.2 g,b⟩)))
  refine⟨λf b=>e f (a1B _ b),ahk (n:=16161) (λf b=>e f (a1o _ b)) ?_ (by simp) (by omega)⟩;intro x d;simp at d;rcases d with rfl|rfl
  .exact am3 hF.size ((apK (lo:=lo) i ht h c (a3t g)).size)
  decide
 grind [Qr]
def aj3 {lo:Nat}(hF:ZO a)(h:lo<=9)(c:∀n,hi=some n->n<=9):(Qr a lo hi).length<=800:=by
 have g:=hF.cl;have b:=hF.wc.1;have f:=D4 (λk=>uZ a (dG a k .one)++Tc [aG a (dG a k .one),.one]) 42 (List.range (adu lo hi)) (λk _=>by have:=aaP a (dG a k .one) b;simp[Tc];omega)
 have e:=D4 (λk=>uZ a (eQ a k (yU a lo hi))) 40 (List.range lo) (λk _=>by have:=aaP a (eQ a k (yU a lo hi)) b;omega)
 have d:adu lo hi<=9:=by
  cases hi with
  | none=>simp[adu]
  | some n=>have:=c n rfl;simp only[adu];omega
 rw[List.length_range]at f e;unfold Qr;simp only[a0r,a0p];omega
def aaR {e:RX}(h:tL e)(a:dI e<=40)(ht:jX e<=90):ZO (bn e):=⟨_,_,rF h,by rw[rZ a];exact a,by omega⟩
def aaS:∀{l:List RX} {e:RX},e∈l->dI e<=bV l
 | x::r,e,h=>by
   simp only[bV];rcases a0l.1 h with rfl|h
   .omega
   have:=aaS h;omega
def MX:∀{l:List RX} {e:RX},jm l->e∈l->tL e
 | x::r,e,a,h=>by
   rcases a0l.1 h with rfl|h
   .exact a.1
   exact MX a.2 h
mutual
theorem YS:∀{e:RX} {U:List NF},tL e->uO e->dI e<=40->jX e<=90->(∀f∈Td e,f∈U)->aaM U e
 | .one s,U,ho,hd,b,ht,a=>λ_=>a _ (by simp[Td])
 | .seq l,U,ho,hd,b,ht,a=>ahl (show jm l from ho) (show mZ l from hd) (show bV l<=40 from b) (show gu l<=90 from ht) a
 | .alt l,U,ho,hd,b,ht,a=>by have k:gu l+(l.length-1)<=90:=ht;have j:bV l<=40:=b;simp only[Td]at a;refine⟨ahm ho.1 (show mZ l from hd) j (by omega) λf c=>a f (a1B _ c),?_⟩;refine ahk (n:=8080) (λf c=>a f (a1o _ c)) ?_ (by rw[uB,a0y];omega) (by omega);intro x i;rw[uB]at i;obtain⟨e,he,rfl⟩:=a0q.1 i;exact(aaR (MX ho.1 he) (by have:=aaS he;omega) (by have:=(Bu he).2;omega)).size
 | .rep x lo hi,U,ho,hd,b,ht,a=>by
   have k:jX x+iV lo hi<=90:=ht;simp only[Td]at a;have d:dI x<=40:=by
    simp only[dI]at b
    by_cases h:40<dI x
    .rw[a0m h]at b;omega
    omega
   have g:mh x*times lo hi<=40:=by simp only[dI]at b;rw[a0n (by omega)]at b;rw[rZ d];exact b
   exact⟨YS ho.1 hd.1 d (by omega) λf c=>a f (a1B _ c),
    asf (rF ho.1) (by rw[rZ d];exact d) J9 g (by omega) ho.2 λf c=>a f (a1o _ c)⟩
theorem ahm:∀{l:List RX} {U:List NF},jm l->mZ l->bV l<=40->gu l<=90->(∀f∈aaO l,f∈U)->zi U l
 | [],U,_,_,_,_,_=>trivial
 | x::r,U,ho,hd,c,ht,b=>by simp only[bV]at c;simp only[gu]at ht;simp only[aaO]at b;exact⟨YS ho.1 hd.1 (by omega) (by omega) λf a=>b f (a1B _ a),ahm ho.2 hd.2 (by omega) (by omega) λf a=>b f (a1o _ a)⟩
theorem ahl:∀{l:List RX} {U:List NF},jm l->mZ l->bV l<=40->gu l<=90->(∀f∈aaN l,f∈U)->zi U l/\Qq U l
 | [],U,_,_,_,_,_=>⟨trivial,trivial⟩
 | x::r,U,ho,hd,d,ht,b=>by
   simp only[bV]at d;simp only[gu]at ht;simp only[aaN]at b;have c:=ahl (U:=U) ho.2 hd.2 (by omega) (by omega) λf a=>b f (a1B _ (a1o _ a))
   exact⟨⟨YS ho.1 hd.1 (by omega) (by omega) λf a=>b f (a1B _ (a1B _ a)),c.1⟩,λf a=>b f (a1o _ a),c.2⟩
end
mutual
def Dn:RX->Nat
 | .one _=>1
 | .seq l=>wR l+1
 | .alt l=>wR l+1
 | .rep x _ _=>Dn x+1
def wR:List RX->Nat
 | []=>0
 | x::r=>Dn x+wR r
end
theorem MY:∀(a b:List RX),wR (a++b)=wR a+wR b
 | [],b=>by simp[wR]
 | x::a,b=>by simp only[a0L,wR,MY a b];omega
def WV:∀{k:Nat} {x y:RX} {t r:LB},dQ k x t=some (y,r)->Dn y+r.length<=Dn x+t.length
 | 0,x,y,t,r,h=>by simp[dQ]at h
 | k+1,x,y,t,r,h=>by
   simp only[dQ]at h
   split at h
   .split at h
    .simp at h
    rename_i b r' hb
    have d:=E9 hb;have c:=vU b.1 b.2;have a:=WV (k:=k) h;simp only[Dn]at a;omega
   simp only[Option.some.injEq,Prod.mk.injEq]at h;obtain⟨rfl,rfl⟩:=h;omega
mutual
theorem aj4:∀{k nest:Nat} {t r:LB} {x:RX},ik k nest t=some (x,r)->Dn x+3*r.length<=3*t.length
 | 0,nest,t,r,x,h=>by simp[ik]at h
 | k+1,nest,[],r,x,h=>by simp[ik]at h
 | k+1,nest,c::q,r,x,h=>by
   simp only[ik]at h
   split at h
   .split at h
    .simp at h
    split at h
    .simp at h
    rename_i g i a
    have e:=Vm (acc:=[]) a
    split at h
    .rename_i b
     have f:=jg b;simp at h;obtain⟨rfl,rfl⟩:=h;simp only[wR,a0r]at e |-;simp only[List.length_tail]at f;simp;omega
    simp at h
   split at h
   .split at h
    .simp at h
    rename_i a
    have e:=Kb a;simp at h;obtain⟨rfl,rfl⟩:=h;simp only[Dn,a0r];omega
   split at h
   .simp at h
    obtain⟨rfl,rfl⟩:=h;simp only[Dn,a0r];omega
   split at h
   .cases q with
    | nil=>simp at h
    | cons d j=>simp at h;obtain⟨rfl,rfl⟩:=h;simp only[Dn,a0r];omega
   split at h
   .simp at h
   simp at h;obtain⟨rfl,rfl⟩:=h;simp only[Dn,a0r];omega
theorem adv:∀{k nest:Nat} {acc:List RX} {t r:LB} {x:RX},jF k nest acc t=some (x,r)->Dn x+3*r.length<=1+wR acc+3*t.length
 | 0,nest,acc,t,r,x,h=>by simp[jF]at h
 | k+1,nest,acc,t,r,x,h=>by
   simp only[jF]at h
   split at h
   .grind [Dn]
   split at h
   .simp at h
   rename_i d f c
   have j:=aj4 c
   split at h
   .simp at h
   rename_i y e a
   have i:=WV a;have b:=adv (acc:=acc++[y]) h;have g:=(xJ a).2;rw[MY]at b;simp only[wR]at b;omega
theorem Vm:∀{k nest:Nat} {acc:List RX} {t r:LB} {x:RX},iQ k nest acc t=some (x,r)->Dn x+3*r.length<=2+wR acc+3*t.length
 | 0,nest,acc,t,r,x,h=>by simp[iQ]at h
 | k+1,nest,acc,t,r,x,h=>by
   simp only[iQ]at h
   split at h
   .simp at h
   rename_i b f d
   have e:=adv (acc:=[]) d;simp only[wR]at e
   split at h
   .rename_i c
    have g:=jg c;have a:=Vm (acc:=acc++[b]) h;rw[MY]at a;simp only[wR]at a;omega
   simp at h;obtain⟨rfl,rfl⟩:=h;simp only[Dn,MY,wR];omega
end
def ahn {t:LB} {x:RX}(h:fF t=some x):Dn x<=3*t.length+2:=by
 unfold fF at h
 split at h
 .rename_i y a
  simp at h;subst h;have:=Vm (acc:=[]) a;simp only[wR]at this;omega
 simp at h
mutual
theorem Te:∀{e:RX},tL e->uO e->dI e<=40->jX e<=90->(Td e).length+40<=1000*Dn e
 | .one s,ho,hd,a,ht=>by simp[Td,Dn]
 | .seq l,ho,hd,a,ht=>by have:=adw (show jm l from ho) (show mZ l from hd) (show bV l<=40 from a) (show gu l<=90 from ht);simp only[Td,Dn];omega
 | .alt l,ho,hd,a,ht=>by have d:gu l+(l.length-1)<=90:=ht;have c:=adx ho.1 (show mZ l from hd) (show bV l<=40 from a) (by omega);simp only[Td,Dn,a0p];simp[Tc];omega
 | .rep x lo hi,ho,hd,a,ht=>by
   have d:jX x+iV lo hi<=90:=ht;have b:dI x<=40:=by
    simp only[dI]at a
    by_cases h:40<dI x
    .rw[a0m h]at a;omega
    omega
   have c:=Te ho.1 hd.1 b (by omega);have f:=aj3 (aaR ho.1 b (by omega)) hd.2.1 hd.2.2;simp only[Td,Dn,a0p];omega
theorem adx:∀{l:List RX},jm l->mZ l->bV l<=40->gu l<=90->(aaO l).length<=1000*wR l
 | [],_,_,_,_=>by simp[aaO]
 | x::r,ho,hd,a,ht=>by simp only[bV]at a;simp only[gu]at ht;have c:=Te ho.1 hd.1 (by omega) (by omega);have b:=adx ho.2 hd.2 (by omega) (by omega);simp only[aaO,wR,a0p];omega
theorem adw:∀{l:List RX},jm l->mZ l->bV l<=40->gu l<=90->(aaN l).length<=1000*wR l
 | [],_,_,_,_=>by simp[aaN]
 | x::r,ho,hd,a,ht=>by simp only[bV]at a;simp only[gu]at ht;have e:=Te ho.1 hd.1 (by omega) (by omega);have d:=adw ho.2 hd.2 (by omega) (by omega);have c:=aaP (bn x) (sJ r) (rF ho.1).1.1;have b:=(aaR ho.1 (show dI x<=40 by omega) (by omega)).cl;simp only[aaN,wR,a0p];omega
end
end
section
variable {i n:Nat} {α:Type} {w' x y:World} {e:RX} {F S:LN} {l t:LB} {w0 w1 w2 w3:Int} {tmps:Array Value} {v vs:Value} {xs:List Value} {s r:Nat}
def Bi(X:NF)(a:List LN)(v:LN):Nat:=a.findIdx λu=>name (dW X u)==name (dW X v)
def rQ(X:NF)(w:LN):LN->List LN->LN->Bool × List LN × LN
 | [],a,nx=>(true,a,nx)
 | c::F,a,nx=>if Bi X a (w++[c])=40 then (false,a,nx) else rQ X w F (if Bi X a (w++[c])=a.length then a++[w++[c]] else a) (nx++[Bi X a (w++[c])])
def yz(X:NF)(F:LN):Nat->Nat->List LN->LN->Bool × List LN × LN
 | 0,_,a,nx=>(true,a,nx)
 | k+1,i,a,nx=>match a[i]? with
   | none=>(true,a,nx)
   | some w=>match rQ X w F a nx with
     | (false,r)=>(false,r)
     | (true,b,c)=>yz X F k (i+1) b c
def oC(X:NF)(F:LN):Bool × List LN × LN:=yz X F 41 0 [[]] []
theorem alx(X:NF)(a:List LN)(v:LN):Bi X a v<=a.length:=a2U
def WB(a:List LN):Prop:=a.length<=40/\∀(j:Nat) (u:LN),a[j]?=some u->u.length<=j
theorem WB.one:WB [[]]:=by
 refine⟨by simp,λj u h=>?_⟩;cases j with
 | zero=>simp at h;subst h;simp
 | succ j=>simp at h
theorem WB.add {a:List LN} {w:LN}{c:Nat}(h:WB a)(d:a[i]?=some w)(f:a.length≠40):WB (a++[w++[c]]):=by
 have:=h.1;have:=h.2 i w d;have:=(a0d.1 d).1;refine⟨by simp;omega,λj u b=>?_⟩
 by_cases e:j<a.length
 .rw[a0s e]at b;exact h.2 j u b
 grind
def Vn(X:NF)(w:LN):∀(F:LN) (a:List LN) (nx:LN),a <+: (rQ X w F a nx).2.1
 | [],a,nx=>a0N _
 | c::F,a,nx=>by
   unfold rQ
   split
   .exact a0N _
   refine List.IsPrefix.trans ?_ (Vn X w F _ _)
   split
   .exact a1t _ _
   exact a0N _
theorem rR {a b:List α}(h:a <+: b) {x:α}(c:a[i]?=some x):b[i]?=some x:=by obtain⟨t,rfl⟩:=h;rw[a0s (a0d.1 c).1];exact c
theorem aaT(X:NF)(w:LN)(i:Nat):∀(F:LN) (a:List LN) (nx:LN),WB a->a[i]?=some w->WB (rQ X w F a nx).2.1
 | [],a,nx,h,_=>h
 | c::F,a,nx,h,d=>by
   unfold rQ
   split
   .exact h
   rename_i b
   refine aaT X w i F _ _ ?_ ?_
   .split
    .rename_i he;exact h.add d (by rw[he]at b;exact b)
    exact h
   grind
theorem ady(X:NF)(F:LN):∀(k i:Nat) (a:List LN) (nx:LN),a <+: (yz X F k i a nx).2.1
 | 0,i,a,nx=>a0N _
 | k+1,i,a,nx=>by
   unfold yz
   split
   .exact a0N _
   rename_i w e
   have h:=Vn X w F a nx
   split
   .grind
   rename_i b d c;rw[c]at h;exact h.trans (ady X F k (i+1) b d)
theorem aho(X:NF)(F:LN):∀(k i:Nat) (a:List LN) (nx:LN),WB a->WB (yz X F k i a nx).2.1
 | 0,i,a,nx,h=>h
 | k+1,i,a,nx,h=>by
   unfold yz
   split
   .exact h
   rename_i w b
   have c:=aaT X w i F a nx h b
   split
   .grind
   simp_all[aho]
def aaU(X:NF)(F:LN):WB (oC X F).2.1:=aho X F 41 0 [[]] [] WB.one
def D7(e:RX)(F:LN):List NF:=[.zero,.one]++Td e++(oC (bn e) F).2.1.flatMap λw=>F.flatMap λc=>J7 (bn e) w c
def ahp{β:Type}(f:α->List β)(n:Nat)(l:List α)(h:∀a∈l,(f a).length<=n):(l.flatMap f).length<=l.length*n:=D4 f n l h
def am4(ho:tL e)(hd:uO e)(a:dI e<=40)(ht:jX e<=40)(k:Dn e<=200)(hF:F.length<=256):(D7 e F).length<=1000000000000:=by
 have:=Te ho hd a (by omega);have h:mh e<=40:=by rw[rZ a];exact a
 have b:=aaU (bn e) F;have g:∀w∈(oC (bn e) F).2.1,(F.flatMap λc=>J7 (bn e) w c).length<=16256204800:=by intro w f;obtain⟨j,d⟩:=a1T f;have:=b.2 j w d;have:=(a0d.1 d).1;have:=ahp (λc=>J7 (bn e) w c) (121*524800) F (λc m=>a0h (ajm (bn e) w c (by have:=b.1;omega)) (a0o _ (Px ho h ht)));have:F.length*(121*524800)<=256*(121*524800):=a0z _ hF;omega
 have:=ahp (λw=>F.flatMap λc=>J7 (bn e) w c) 16256204800 (oC (bn e) F).2.1 g;have:(oC (bn e) F).2.1.length*16256204800<=40*16256204800:=a0z _ b.1;unfold D7;simp only[a0p,a0r,a1e];omega
def am5:∀f∈Td e,f∈D7 e F:=λf a=>by unfold D7;simp[a]
def am6:NF.zero∈D7 e F/\NF.one∈D7 e F:=by unfold D7;simp
def aj5(ho:tL e)(d:dI e<=40)(ht:jX e<=40) {w:LN}(b:w∈(oC (bn e) F).2.1) {c:Nat}(l:c∈F):Fg c (D7 e F) (dW (bn e) w):=by
 have n:mh e<=40:=by rw[rZ d];exact d
 have h:=aaU (bn e) F;obtain⟨j,g⟩:=a1T b;have:=h.2 j w g;have:=(a0d.1 g).1;have a:=rF ho;have i:(bn e).size<=3280:=by
  by_cases m:mh e=0
  .rw[a.2.1 m];simp[NF.size]
  have:=(a.2.2 (by omega)).sz;have:2*mh e*(jX e+1)<=2*40*41:=a0D (by omega) (by omega);omega
 refine amz a.1 i (Px ho n ht) (by have:=h.1;omega) (λf k=>?_) (Mt (fT _) (List.suffix_refl w));unfold D7;refine a0e.2 (.inr (a1l.2 ⟨w,b,a1l.2 ⟨c,l,agl k⟩⟩))
theorem apL(X:NF)(a:List LN)(v:LN):(oI (a.map λu=>name (dW X u)) (name (dW X v))<0/\Bi X a v=a.length)\/(0<=oI (a.map λu=>name (dW X u)) (name (dW X v))/\Bi X a v<a.length):=by grind [oI,Bi,name,dW,left]
def auP {X:NF}(h:WC X):∀u:LN,WC (dW X u)
 | u=>by
   have key:∀(u:LN) (y:NF),WC y->WC (dW y u):=by
    intro u
    induction u with
    | nil=>intro y b;exact b
    | cons a r c=>intro y b;exact c _ (b.left a)
   exact key u X h
def am7(h:fF t=some e)(ht:t.length<=40)(a:dI e<=40)(u:LN)(g:u.length<=39)(c:Nat) :
 WC (dW (bn e) u)/\xP c (dW (bn e) u)/\nl (left c (dW (bn e) u))<9223372036854775807:=by
 have d:=mQ h;have b:WC (bn e):=uC d.1;have f:=Px d.1 (by rw[rZ a];exact a) (by omega);refine⟨auP b u,amW b f (u:=u) (by omega) c _ (.inr (.inr (Mt (fT _) (List.suffix_refl u)))),?_⟩;rw[<-tK];exact ahj h ht a (u++[c]) (by simp;omega)
def wd(s i:Nat):Nat:=s / 2 ^ (64*i) % 2 ^ 64
theorem jv(s i:Nat):wd s i<18446744073709551616:=a3i _ (by decide)
theorem zk{q:Nat}(a:r<64):(wd s q).testBit r=s.testBit (64*q+r):=by unfold wd;rw[Nat.testBit_mod_two_pow,Nat.testBit_div_two_pow];simp[a,a2w]
def bv(s:Nat):Value:=.agg #[.int .u64 (wd s 0),.int .u64 (wd s 1),.int .u64 (wd s 2),.int .u64 (wd s 3)]
theorem zZ{w:Nat}(a:w<18446744073709551616):(Go.bits BinOp.and IntKind.u64 ((w:Int) / 2 ^ r) 1==1)=w.testBit r:=by
 have c:((w:Int) / 2 ^ r)=((w / 2 ^ r:Nat):Int):=by simp
 have b:w / 2 ^ r<18446744073709551616:=a2i (Nat.div_le_self _ _) a;rw[c,show(1:Int)=((1:Nat):Int) from rfl,bits_and_u64_nat _ _ b (by decide),Nat.testBit_eq_decide_div_mod_eq,Nat.and_one_is_mod];rw[a0T];simp;omega
def ahq(w0 w1 w2 w3:Nat)(q r:Nat)(w:World)(hq:q<4)(g:r<64)(f:w0<18446744073709551616)(d:w1<18446744073709551616)(b:w2<18446744073709551616)(a:w3<18446744073709551616) :
 zF 154 #[.agg #[.int .u64 w0,.int .u64 w1,.int .u64 w2,.int .u64 w3],.int .u8 (64*q+r:Nat)] w λe w'=>e=zR (.bool ((if q=0 then w0 else if q=1 then w1 else if q=2 then w2 else w3).testBit r))/\aB [] w w':=by
 have hd:((64*q+r:Nat):Int).tdiv 64=q:=by rw[a2z (by omega)];omega
 have h:((64*q+r:Nat):Int).tmod 64=r:=by rw[a2f (by omega)];omega
 generalize 64*q+r=c at *;rcases(by omega:q=0\/q=1\/q=2\/q=3) with rfl|rfl|rfl|rfl
 .delta zF;go_in
  go_wp2;go_ret;exact⟨by rw[<-zZ f];rfl,zJ⟩
 .delta zF;go_in
  go_wp2;go_ret;exact⟨by rw[<-zZ d];rfl,zJ⟩
 .delta zF;go_in
  go_wp2;go_ret;exact⟨by rw[<-zZ b];rfl,zJ⟩
 delta zF;go_in
 go_wp2;go_ret;exact⟨by rw[<-zZ a];rfl,zJ⟩
def am8(s:Nat)(c:Nat)(w:World)(a:c<256) :
 zF 154 #[bv s,.int .u8 c] w λe w'=>e=zR (.bool (s.testBit c))/\aB [] w w':=by
 have h:=ahq (wd s 0) (wd s 1) (wd s 2) (wd s 3) (c / 64) (c % 64) w (by omega) (a3i _ (by decide)) (jv _ _) (jv _ _) (jv _ _) (jv _ _);rw[show 64*(c / 64)+c % 64=c by omega]at h;have e:(if c / 64=0 then wd s 0 else if c / 64=1 then wd s 1 else if c / 64=2 then wd s 2 else wd s 3).testBit (c % 64)=s.testBit c:=by
  have key:(wd s (c / 64)).testBit (c % 64)=s.testBit c:=by rw[zk (a3i _ (by decide)),show 64*(c / 64)+c % 64=c by omega]
  rw[<-key];rcases(by omega:c / 64=0\/c / 64=1\/c / 64=2\/c / 64=3) with h|h|h|h<;>simp[h]
 rw[e]at h;exact h
def SB(w:World)(b:Nat)(w0 w1 w2 w3:Int):Prop:=w.heap[b]?=some (.cells #[.int .u64 w0,.int .u64 w1,.int .u64 w2,.int .u64 w3] 218 (0,0))
def SB.new {w:World} {b:Nat}(hb:b=w.heap.size):SB (w.alloc (Obj.cells #[.int .u64 w0,.int .u64 w1,.int .u64 w2,.int .u64 w3] 218)) b w0 w1 w2 w3:=by subst hb;exact bD w _
theorem SB.cells {w:World} {b:Nat}(h:SB w b w0 w1 w2 w3) :
 zC w b 0 (.int .u64 w0)/\zC w b 1 (.int .u64 w1)/\zC w b 2 (.int .u64 w2)/\zC w b 3 (.int .u64 w3):=by
 unfold SB at h;refine⟨?_,?_,?_,?_⟩<;>simp[World.cell?,h]
theorem SB.fz {w:World} {b:Nat}(h:SB w b w0 w1 w2 w3)(o:Nat):w.frozen? (zB b o)=false:=by unfold SB at h;simp[World.frozen?,h]
theorem SB.lt {w:World} {b:Nat}(h:SB w b w0 w1 w2 w3):b<w.heap.size:=(a0c.1 h).1
theorem SB.aC{w:World} {b:Nat}(h:SB w b w0 w1 w2 w3)(f:aB S w w')(a:b∉S):SB w' b w0 w1 w2 w3:=(f.block b h.lt a).trans h
theorem SB.drew {w:World} {b:Nat}(h:SB w b w0 w1 w2 w3):SB w.drew b w0 w1 w2 w3:=h
def SB.set0 {w:World} {b:Nat}(h:SB w b w0 w1 w2 w3)(v:Int):SB (w.setCell (zA b) (.int .u64 v)) b v w1 w2 w3:=by unfold SB at h |-;simp[World.setCell,h,a0v]
def SB.set1 {w:World} {b:Nat}(h:SB w b w0 w1 w2 w3)(v:Int):SB (w.setCell (zB b 1) (.int .u64 v)) b w0 v w2 w3:=by unfold SB at h |-;simp[World.setCell,h,a0v]
def SB.set2 {w:World} {b:Nat}(h:SB w b w0 w1 w2 w3)(v:Int):SB (w.setCell (zB b 2) (.int .u64 v)) b w0 w1 v w3:=by unfold SB at h |-;simp[World.setCell,h,a0v]
def SB.ahr {w:World} {b:Nat}(h:SB w b w0 w1 w2 w3)(v:Int):SB (w.setCell (zB b 3) (.int .u64 v)) b w0 w1 w2 v:=by unfold SB at h |-;simp[World.setCell,h,a0v]
def SB.far {w:World} {b b' o:Nat}(h:SB w b w0 w1 w2 w3)(v:Value)(hb:b≠b'):SB (w.setCell (zB b' o) v) b w0 w1 w2 w3:=by unfold SB at h |-;rw[Below.heap_setCell _ _ _ _ hb];exact h
theorem SB.load {w:World} {b:Nat}(h:SB w b w0 w1 w2 w3):(loadVar 218 (zA b)).run Tryz.prog w=.ok (.agg #[.int .u64 w0,.int .u64 w1,.int .u64 w2,.int .u64 w3]) w:=by obtain⟨e,d,c,a⟩:=h.cells;simp[go_sem,e,d,c,a]
def Yp {w:World} {b:Nat}(h:SB w b w0 w1 w2 w3)(c:tmps.getD 4 undef=zP b) :
 (results Tryz.f158 tmps).run Tryz.prog w=.ok (.agg #[.int .u64 w0,.int .u64 w1,.int .u64 w2,.int .u64 w3]) w:=by
 have a:tmps[4]?.getD undef=zP b:=by simpa using c
 simp only[results,Tryz.results158];simp[Sem.run_bind,Result.andThen,a,asAddr,h.load]
theorem aaV(s t i:Nat):wd (s ||| t) i=wd s i ||| wd t i:=by
 apply a1D;intro k
 by_cases b:k<64
 .rw[a2D,zk b,zk b,zk b,a2D]
 have a:∀x,(wd x i).testBit k=false:=λx=>a1z (a0t (jv x i) (by rw[show(18446744073709551616:Nat)=2 ^ 64 by decide];exact a1r (by omega) (by omega)))
 rw[a2D,a,a,a];rfl
def jz(k i a b:Nat):Int:=if i<k then ((a ||| b:Nat):Int) else (a:Int)
def ahs(s t:Nat)(w:World)(G:s<2 ^ 256)(ht:t<2 ^ 256) :
 zF 158 #[bv s,bv t] w λe w'=>e=zR (bv (s ||| t))/\aB [] w w':=by
 unfold bv;have y:=aaV s t 0;have x:=aaV s t 1;have v:=aaV s t 2;have u:=aaV s t 3;have r:=jv s 0;have q:=jv s 1;have l2:=jv s 2;have p:=jv s 3;have m0:=jv t 0;have m1:=jv t 1;have o:=jv t 2;have n:=jv t 3;generalize wd s 0=l at *;generalize wd s 1=s1 at *;generalize wd s 2=s2 at *;generalize wd s 3=i at *;generalize wd t 0=t0 at *;generalize wd t 1=t1 at *;generalize wd t 2=t2 at *;generalize wd t 3=f at *;delta zF;go_in
 go_wp2_with fail
 go_loopg [6] 4 (λk m wr=>∃(j:Nat),j+k=4/\m=zI j/\SB wr w.heap.size (jz j 0 l t0) (jz j 1 s1 t1) (jz j 2 s2 t2) (jz j 3 i f)/\SB wr (w.heap.size+1) t0 t1 t2 f/\SB wr (w.heap.size+1+1) 0 0 0 0/\aB [] w wr)
 exact⟨0,by omega,rfl,(SB.new (b:=w.heap.size) rfl).aC (S:=[]) (zJ.alloc _) (by simp),(SB.new (by simp)).aC zG (by simp),SB.new (by simp),(zJ.alloc _).alloc _⟩
 .obtain⟨j,H,rfl,a,d,c,F⟩:=hrel;rcases(by omega:j=0\/j=1\/j=2\/j=3\/j=4) with rfl|rfl|rfl|rfl|rfl
  .simp only[jz,a1u,Nat.reduceLT,a0G,a0I]at a
   obtain⟨c0,c1,c2,c3⟩:=a.cells;obtain⟨d0,d1,h,g⟩:=d.cells;have z:=a.fz;go_wp2_with fail
   go_region
   go_wp2;go_roundg 3
   .refine⟨1,by omega,by go_num,?_,(d.far _ (by omega)).drew,(c.far _ (by omega)).drew,(F.setCell (.inr (a0b _)) _).drew⟩;have:=(a.set0 (Go.bits BinOp.or IntKind.u64 l t0)).drew;rw[bits_or_u64_nat _ _ r m0]at this |-;simpa only[jz,a1u,Nat.reduceLT,a0G,a0I] using this
   omega
  .simp only[jz,a1u,Nat.reduceLT,a0G,a0I]at a
   obtain⟨c0,c1,c2,c3⟩:=a.cells;obtain⟨d0,d1,h,g⟩:=d.cells;have z:=a.fz;have a:=a;have d:=d;have c:=c;go_wp2_with fail
   go_region
   go_wp2;go_roundg 2
   .refine⟨2,by omega,by go_num,?_,(d.far _ (by omega)).drew,(c.far _ (by omega)).drew,(F.setCell (.inr (a0b _)) _).drew⟩;have:=(a.set1 (Go.bits BinOp.or IntKind.u64 s1 t1)).drew;rw[bits_or_u64_nat _ _ q m1]at this |-;simpa only[jz,a1u,Nat.reduceLT,a0G,a0I] using this
   omega
  .simp only[jz,a1u,Nat.reduceLT,a0G,a0I]at a
   obtain⟨c0,c1,c2,c3⟩:=a.cells;obtain⟨d0,d1,h,g⟩:=d.cells;have z:=a.fz;have a:=a;have d:=d;have c:=c;go_wp2_with fail
   go_region
   go_wp2;go_roundg 1
   .refine⟨3,by omega,by go_num,?_,(d.far _ (by omega)).drew,(c.far _ (by omega)).drew,(F.setCell (.inr (a0b _)) _).drew⟩;have:=(a.set2 (Go.bits BinOp.or IntKind.u64 s2 t2)).drew;rw[bits_or_u64_nat _ _ l2 o]at this |-;simpa only[jz,a1u,Nat.reduceLT,a0G,a0I] using this
   omega
  .simp only[jz,a1u,Nat.reduceLT,a0G,a0I]at a
   obtain⟨c0,c1,c2,c3⟩:=a.cells;obtain⟨d0,d1,h,g⟩:=d.cells;have z:=a.fz;have a:=a;have d:=d;have c:=c;go_wp2_with fail
   go_region
   go_wp2;go_roundg 0
   .refine⟨4,by omega,by go_num,?_,(d.far _ (by omega)).drew,(c.far _ (by omega)).drew,(F.setCell (.inr (a0b _)) _).drew⟩;have:=(a.ahr (Go.bits BinOp.or IntKind.u64 i f)).drew;rw[bits_or_u64_nat _ _ p n]at this |-;simpa only[jz,a1u,Nat.reduceLT,a0G,a0I] using this
   omega
  simp only[jz,a1u,Nat.reduceLT,a0G,a0I]at a;obtain⟨c0,c1,c2,c3⟩:=a.cells;obtain⟨E,D,C,B⟩:=c.cells;have A:=c.fz;have c:=c;go_wp2;refine bodyPost_ret (Yp (b:=w.heap.size+1+1) ((((c.set0 _).set1 _).set2 _).ahr _) (by rfl)) rfl ?_;refine⟨by rw[y,x,v,u],?_⟩;exact(((F.setCell (.inr (by simp;omega)) _).setCell (.inr (by simp;omega)) _).setCell (.inr (by simp;omega)) _).setCell (.inr (by simp;omega)) _
def aly(s:Nat):Nat:=s ^^^ (2 ^ 256-1)
theorem apM(i:Nat)(a:i<4):wd (2 ^ 256-1) i=18446744073709551615:=by rcases(by omega:i=0\/i=1\/i=2\/i=3) with rfl|rfl|rfl|rfl<;>decide +kernel
theorem asg{t:Nat}:wd (s ^^^ t) i=wd s i ^^^ wd t i:=by
 apply a1D;intro k
 by_cases b:k<64
 .rw[a2o,zk b,zk b,zk b,a2o]
 have a:∀x,(wd x i).testBit k=false:=λx=>a1z (a0t (jv x i) (by rw[show(18446744073709551616:Nat)=2 ^ 64 by decide];exact a1r (by omega) (by omega)))
 rw[a2o,a,a,a];rfl
def Tf(s i:Nat)(b:i<4):wd (aly s) i=18446744073709551615-wd s i:=by
 unfold aly;rw[asg,apM i b];have h:=jv s i;generalize wd s i=x at *;rw[show(18446744073709551615:Nat)=2 ^ 64-1 by decide];apply a1D;intro k;rw[a2o,a3c];rw[show 2 ^ 64-1-x=2 ^ 64-(x+1) by omega,Nat.testBit_two_pow_sub_succ (by rw[show(2:Nat) ^ 64=18446744073709551616 by decide];exact h)]
 by_cases a:k<64
 .simp[a]
 have:x.testBit k=false:=a1z (a0t h (by rw[show(18446744073709551616:Nat)=2 ^ 64 by decide];exact a1r (by omega) (by omega)));simp[a,this]
theorem am9(x:Nat)(h:x<18446744073709551616):18446744073709551615 ^^^ x=18446744073709551615-x:=by
 rw[show(18446744073709551615:Nat)=2 ^ 64-1 by decide];apply a1D;intro k;rw[a2o,a3c];rw[show 2 ^ 64-1-x=2 ^ 64-(x+1) by omega,Nat.testBit_two_pow_sub_succ (by rw[show(2:Nat) ^ 64=18446744073709551616 by decide];exact h)]
 by_cases a:k<64
 .simp[a]
 have:x.testBit k=false:=a1z (a0t h (by rw[show(18446744073709551616:Nat)=2 ^ 64 by decide];exact a1r (by omega) (by omega)));simp[a,this]
theorem Tg{x:Nat}(h:x<18446744073709551616):Go.bits BinOp.xor IntKind.u64 IntKind.u64.max (x:Int)=((18446744073709551615-x:Nat):Int):=by rw[show IntKind.u64.max=((18446744073709551615:Nat):Int) by decide,bits_xor_u64_nat _ _ (by decide) h,am9 x h]
def Yq {w:World} {b:Nat}(h:SB w b w0 w1 w2 w3)(c:tmps.getD 2 undef=zP b) :
 (results Tryz.f166 tmps).run Tryz.prog w=.ok (.agg #[.int .u64 w0,.int .u64 w1,.int .u64 w2,.int .u64 w3]) w:=by
 have a:tmps[2]?.getD undef=zP b:=by simpa using c
 simp only[results,Tryz.results166];simp[Sem.run_bind,Result.andThen,a,asAddr,h.load]
def oz(k i a:Nat):Int:=if i<k then ((18446744073709551615-a:Nat):Int) else (a:Int)
def WY(s:Nat)(w:World) :
 zF 166 #[bv s] w λe w'=>e=zR (bv (aly s))/\aB [] w w':=by
 unfold bv;have E0:=Tf s 0 (by omega);have E1:=Tf s 1 (by omega);have E2:=Tf s 2 (by omega);have E3:=Tf s 3 (by omega);have l0:=jv s 0;have l1:=jv s 1;have l2:=jv s 2;have l3:=jv s 3;generalize wd s 0=s0 at *;generalize wd s 1=s1 at *;generalize wd s 2=s2 at *;generalize wd s 3=s3 at *;delta zF;go_in
 go_wp2_with fail
 go_loopg [4] 4 (λk vi wr=>∃(j:Nat),j+k=4/\vi=zI j/\SB wr w.heap.size (oz j 0 s0) (oz j 1 s1) (oz j 2 s2) (oz j 3 s3)/\SB wr (w.heap.size+1) 0 0 0 0/\aB [] w wr)
 exact⟨0,by omega,rfl,(SB.new (b:=w.heap.size) rfl).aC zG (by simp),SB.new (by simp),zJ.alloc _⟩
 ·obtain⟨j,hj,rfl,H0,H2,F⟩:=hrel;rcases(by omega:j=0\/j=1\/j=2\/j=3\/j=4) with rfl|rfl|rfl|rfl|rfl
  ·simp only[oz,a1u,Nat.reduceLT,a0G,a0I]at H0
   obtain⟨c0,c1,c2,c3⟩:=H0.cells;have z:=H0.fz;go_wp2;go_roundg 3
   ·refine⟨1,by omega,by go_num,?_,(H2.far _ (by omega)),(F.setCell (.inr (a0b _)) _)⟩;have:=H0.set0 (Go.bits BinOp.xor IntKind.u64 IntKind.u64.max s0);rw[Tg l0]at this |-;simpa only[oz,a1u,Nat.reduceLT,a0G,a0I] using this
   omega
  ·simp only[oz,a1u,Nat.reduceLT,a0G,a0I]at H0
   obtain⟨c0,c1,c2,c3⟩:=H0.cells;have z:=H0.fz;have H0:=H0;have H2:=H2;go_wp2;go_roundg 2
   ·refine⟨2,by omega,by go_num,?_,(H2.far _ (by omega)),(F.setCell (.inr (a0b _)) _)⟩;have:=H0.set1 (Go.bits BinOp.xor IntKind.u64 IntKind.u64.max s1);rw[Tg l1]at this |-;simpa only[oz,a1u,Nat.reduceLT,a0G,a0I] using this
   omega
  ·simp only[oz,a1u,Nat.reduceLT,a0G,a0I]at H0
   obtain⟨c0,c1,c2,c3⟩:=H0.cells;have z:=H0.fz;have H0:=H0;have H2:=H2;go_wp2;go_roundg 1
   ·refine⟨3,by omega,by go_num,?_,(H2.far _ (by omega)),(F.setCell (.inr (a0b _)) _)⟩;have:=H0.set2 (Go.bits BinOp.xor IntKind.u64 IntKind.u64.max s2);rw[Tg l2]at this |-;simpa only[oz,a1u,Nat.reduceLT,a0G,a0I] using this
   omega
  ·simp only[oz,a1u,Nat.reduceLT,a0G,a0I]at H0
   obtain⟨c0,c1,c2,c3⟩:=H0.cells;have z:=H0.fz;have H0:=H0;have H2:=H2;go_wp2;go_roundg 0
   ·refine⟨4,by omega,by go_num,?_,(H2.far _ (by omega)),(F.setCell (.inr (a0b _)) _)⟩;have:=H0.ahr (Go.bits BinOp.xor IntKind.u64 IntKind.u64.max s3);rw[Tg l3]at this |-;simpa only[oz,a1u,Nat.reduceLT,a0G,a0I] using this
   omega
  simp only[oz,a1u,Nat.reduceLT,a0G,a0I]at H0;obtain⟨c0,c1,c2,c3⟩:=H0.cells;obtain⟨y0,y1,y2,y3⟩:=H2.cells;have y4:=H2.fz;have H2:=H2;go_wp2;refine bodyPost_ret (Yq (b:=w.heap.size+1) ((((H2.set0 _).set1 _).set2 _).ahr _) (by rfl)) rfl ?_;refine⟨by rw[E0,E1,E2,E3],?_⟩;exact(((F.setCell (.inr (by simp)) _).setCell (.inr (by simp)) _).setCell (.inr (by simp)) _).setCell (.inr (by simp)) _
def pU(s f:Nat):Nat->Nat
 | 0=>s
 | k+1=>pU s f k ||| 2 ^ (f+k)
theorem ash(c i:Nat)(d:i<4)(e:c<256):wd (2 ^ c) i=if i=c / 64 then 2 ^ (c % 64) else 0:=by
 apply a1D;intro k
 by_cases b:k<64
 .rw[zk b,a2I]
  by_cases h:i=c / 64
  .rw[a0m h,a2I]
   congr 1;apply propext;omega
  rw[a0n h];simp;omega
 have a:(2:Nat) ^ 64<=2 ^ k:=a1r (by omega) (by omega);rw[a1z (a0t (jv _ _) a)]
 split
 .rw[a2I];simp;omega
 simp
def YU(x c i:Nat)(a:i<4)(b:c<256):wd (x ||| 2 ^ c) i=if i=c / 64 then wd x i ||| 2 ^ (c % 64) else wd x i:=by
 rw[aaV,ash c i a b]
 split
 .rfl
 simp
theorem or_bit{x:Nat}(a:x<18446744073709551616)(b:r<64):Go.bits BinOp.or IntKind.u64 (x:Int) (IntKind.u64.wrap (2 ^ r))=((x ||| 2 ^ r:Nat):Int):=by
 have d:(2:Nat) ^ r<18446744073709551616:=by rw[show(18446744073709551616:Nat)=2 ^ 64 by decide];exact a3e (by omega) b
 have c:IntKind.u64.wrap ((2:Int) ^ r)=((2 ^ r:Nat):Int):=by
  have e:((2:Int) ^ r)=((2 ^ r:Nat):Int):=by simp
  rw[e,IntKind.wrap_u64];generalize 2 ^ r=z at *;omega
 rw[c,bits_or_u64_nat _ _ a d]
def aaW(b s f l:Nat)(w:World)(I:l<256)(L:f<256)(hb:SB w b (wd s 0) (wd s 1) (wd s 2) (wd s 3)) :
 zF 167 #[zP b,.int .u8 f,.int .u8 l] w λe w'=>e=zQ #[]/\SB w' b (wd (pU s f (l+1-f)) 0) (wd (pU s f (l+1-f)) 1) (wd (pU s f (l+1-f)) 2) (wd (pU s f (l+1-f)) 3)/\aB [b] w w':=by
 have x:=aj hb;clear hb;delta zF;go_in
 go_wp2_with fail
 go_loopg [6] (l+1-f) (λk y wr=>∃(j c:Nat),j+k=l+1-f/\c=f+j/\y=zI c/\SB wr b (wd (pU s f j) 0) (wd (pU s f j) 1) (wd (pU s f j) 2) (wd (pU s f j) 3)/\aB [b] w wr)
 case atStart=>exact⟨0,f,by omega,rfl,rfl,x,aB.refl _ _⟩
 case round =>
  clear x;obtain⟨j,c,J,u,rfl,d,v⟩:=hrel;have F:=aj v;clear v
  by_cases M:j<l+1-f
  .have h:f+j<256:=by omega
   have A:f+j<=l:=by omega
   have i:Z_ (pU s f (j+1)=pU s f j ||| 2 ^ (f+j)):=rfl;rw[<-u]at h A i;have a:=aj u;clear u;have hd:(c:Int).tdiv 64=((c / 64:Nat):Int):=by rw[a2z (by omega)];omega
   have H:(c:Int).tmod 64=((c % 64:Nat):Int):=by rw[a2f (by omega)];omega
   have W0:=aj (YU (pU s f j) c 0 (by omega) h);have t:=aj (YU (pU s f j) c 1 (by omega) h);have p:=aj (YU (pU s f j) c 2 (by omega) h);have n:=aj (YU (pU s f j) c 3 (by omega) h);have G:=jv (pU s f j) 0;have E:=jv (pU s f j) 1;have l2:=jv (pU s f j) 2;have D:=jv (pU s f j) 3;have m:c % 64<64:=a3i _ (by decide);have hq:c / 64<4:=by omega
   generalize wd (pU s f j) 0=C at *;generalize wd (pU s f j) 1=s1 at *;generalize wd (pU s f j) 2=s2 at *;generalize wd (pU s f j) 3=B at *;generalize c % 64=r at *;generalize c / 64=q at *;obtain⟨c0,c1,c2,c3⟩:=d.cells;have z:=d.fz;have g:=aj d;clear d;rcases(by omega:q=0\/q=1\/q=2\/q=3) with rfl|rfl|rfl|rfl
   .go_wp2_with fail
    go_region
    go_wp2;go_roundg (gk-1)
    case measure=>omega
    case rel =>
     refine⟨j+1,c+1,by omega,by rw[a.o];omega,by go_num,?_,(F.o.setCell (.inl (by simp)) _).drew⟩;rw[i.o,W0.o,t.o,p.o,n.o];have:=(g.o.set0 (Go.bits BinOp.or IntKind.u64 C (IntKind.u64.wrap (2 ^ r)))).drew;rw[or_bit G m]at this |-;simpa using this
   .go_wp2_with fail
    go_region
    go_wp2;go_roundg (gk-1)
    case measure=>omega
    case rel =>
     refine⟨j+1,c+1,by omega,by rw[a.o];omega,by go_num,?_,(F.o.setCell (.inl (by simp)) _).drew⟩;rw[i.o,W0.o,t.o,p.o,n.o];have:=(g.o.set1 (Go.bits BinOp.or IntKind.u64 s1 (IntKind.u64.wrap (2 ^ r)))).drew;rw[or_bit E m]at this |-;simpa using this
   .go_wp2_with fail
    go_region
    go_wp2;go_roundg (gk-1)
    case measure=>omega
    case rel =>
     refine⟨j+1,c+1,by omega,by rw[a.o];omega,by go_num,?_,(F.o.setCell (.inl (by simp)) _).drew⟩;rw[i.o,W0.o,t.o,p.o,n.o];have:=(g.o.set2 (Go.bits BinOp.or IntKind.u64 s2 (IntKind.u64.wrap (2 ^ r)))).drew;rw[or_bit l2 m]at this |-;simpa using this
   go_wp2_with fail
   go_region
   go_wp2;go_roundg (gk-1)
   case measure=>omega
   case rel =>
    refine⟨j+1,c+1,by omega,by rw[a.o];omega,by go_num,?_,(F.o.setCell (.inl (by simp)) _).drew⟩;rw[i.o,W0.o,t.o,p.o,n.o];have:=(g.o.ahr (Go.bits BinOp.or IntKind.u64 B (IntKind.u64.wrap (2 ^ r)))).drew;rw[or_bit D m]at this |-;simpa using this
  have he:j=l+1-f:=by omega
  subst he;have g:=aj d;clear d;have dZ:¬ (c<=l):=by omega
  go_wp2;go_end0
  exact⟨rfl,g,F⟩
def PS(w:World)(b:Nat)(t:LB)(i:Nat)(vs:Value):Prop :=
 w.heap[b]?=some (.cells #[zT t,zI i,vs] 203 (0,0))/\i<=t.length/\t.length<=1048576
theorem PS.c0 {w:World} {b:Nat}(h:PS w b t i vs):zC w b 0 (zT t):=by simp[World.cell?,h.1]
theorem PS.c1 {w:World} {b:Nat}(h:PS w b t i vs):zC w b 1 (zI i):=by simp[World.cell?,h.1]
theorem PS.c2 {w:World} {b:Nat}(h:PS w b t i vs):zC w b 2 vs:=by simp[World.cell?,h.1]
theorem PS.fz {w:World} {b:Nat}(h:PS w b t i vs)(o:Nat):w.frozen? (zB b o)=false:=by simp[World.frozen?,h.1]
theorem PS.lt {w:World} {b:Nat}(h:PS w b t i vs):b<w.heap.size:=(a0c.1 h.1).1
theorem PS.aC{w:World} {b:Nat}(h:PS w b t i vs)(f:aB S w w')(a:b∉S):PS w' b t i vs:=⟨(f.block b h.lt a).trans h.1,h.2⟩
theorem PS.drew {w:World} {b:Nat}(h:PS w b t i vs):PS w.drew b t i vs:=h
theorem PS.drewN {w:World} {b:Nat}(n:Nat)(h:PS w b t i vs):PS (w.drewN n) b t i vs:=h
def PS.at_ {w:World} {b:Nat}(h:PS w b t i vs)(j:Nat)(a:j<=t.length):PS (w.setCell (zB b 1) (zI j)) b t j vs:=by refine⟨?_,a,h.2.2⟩;have:=h.1;simp[World.setCell,a0v,this]
def PS.sets {w:World} {b:Nat}(h:PS w b t i vs)(v:Value):PS (w.setCell (zB b 2) v) b t i v:=by refine⟨?_,h.2⟩;have:=h.1;simp[World.setCell,a0v,this]
def PA(w:World)(b:Nat)(t l:LB)(vs:Value):Prop:=∃i,PS w b t i vs/\t.drop i=l
theorem PA.drewN {w:World} {b:Nat}(n:Nat)(h:PA w b t l vs):PA (w.drewN n) b t l vs:=h
theorem PA.aC{w:World} {b:Nat}(h:PA w b t l vs)(f:aB S w w')(a:b∉S):PA w' b t l vs:=by obtain⟨i,d,c⟩:=h;exact⟨i,d.aC f a,c⟩
def tk(c:UInt8):LB->Bool
 | []=>false
 | x::_=>x==c
def rs(c:UInt8)(l:LB):LB:=if tk c l then l.tail else l
theorem drop_cons(h:t.drop i=l):(i<t.length->∃a:i<t.length,l=t[i]::t.drop (i+1))/\(¬ i<t.length->l=[]):=by
 constructor
 .intro a;exact⟨a,by rw[<-h];exact a0k a⟩
 intro a;rw[<-h];exact a0i (by omega)
def jI(b:Nat)(t l:LB)(vs:Value)(c:UInt8)(w:World)(h:PA w b t l vs) :
 zF 132 #[zP b,.int .u8 c.toNat] w λe w'=>e=zR (.bool (tk c l))/\PA w' b t (rs c l) vs/\aB [b] w w':=by
 obtain⟨i,d,g⟩:=h;have:=d.c0;have:=d.c1;have:=d.fz 1;have:=d.2.1;have:=d.2.2;have o:=bL t
 by_cases k:i<t.length
 .obtain⟨_,f⟩:=(drop_cons g).1 k;have:(bs t)[i]'(by rw[o];omega)=t[i]:=rfl;generalize m:t[i]=x at *
  by_cases j:x=c
  .subst j
   have a:tk x l=true/\rs x l=t.drop (i+1):=by show _/\_;rw[f];simp[tk,rs]
   delta zF;go_in
   go_wp2_with fail
   go_quiet (fail)
   go_wp2;go_ret;rw[a.1,a.2];exact⟨rfl,⟨i+1,(d.drewN _).at_ (i+1) k,rfl⟩,(zK.drewN _).setCell (.inl (by simp)) _⟩
  have a:tk c l=false/\rs c l=l:=by show _/\_;rw[f];simp[tk,rs,j]
  have:((x.toNat:Int) != (c.toNat:Int))=true:=by rw[a1M];intro e;exact j (a1w.1 (by omega))
  delta zF;go_in
  go_wp2_with fail
  go_quiet (fail)
  go_wp2;go_ret;rw[a.1,a.2];exact⟨rfl,⟨i,d.drewN _,g⟩,zK.drewN _⟩
 have a:tk c l=false/\rs c l=l:=by show _/\_;rw[(drop_cons g).2 k];simp[tk,rs]
 delta zF;go_in
 go_wp2_with fail
 go_quiet (fail)
 go_wp2;go_ret;rw[a.1,a.2];exact⟨rfl,⟨i,d.drewN _,g⟩,zK.drewN _⟩
def Bj(b:Nat)(t l:LB)(vs:Value)(w:World)(h:PA w b t l vs) :
 zF 162 #[zP b] w λe w'=>e=zQ #[.int .u8 (hd l),.bool (!l.isEmpty)]/\PA w' b t l.tail vs/\aB [b] w w':=by
 obtain⟨i,c,g⟩:=h;have:=c.c0;have:=c.c1;have:=c.fz 1;have:=c.2.1;have:=c.2.2;have k:=bL t
 by_cases f:i<t.length
 .obtain⟨_,d⟩:=(drop_cons g).1 f;have:(bs t)[i]'(by rw[k];omega)=t[i]:=rfl;generalize m:t[i]=x at *;have a:hd l=x.toNat/\l.isEmpty=false/\l.tail=t.drop (i+1):=by show _/\_;rw[d];simp[hd]
  delta zF;go_in
  go_wp2_with fail
  go_quiet (fail)
  go_wp2_with fail
  go_quiet (fail)
  go_wp2;go_ret2;rw[a.1,a.2.1,a.2.2];exact⟨rfl,⟨i+1,(c.drewN _).at_ (i+1) f,rfl⟩,((aB.refl [b] w).drewN _).setCell (p:=(zB b 1)) (.inl (by simp)) _⟩
 have a:hd l=0/\l.isEmpty=true/\l.tail=l:=by show _/\_;rw[((drop_cons g).2 f)];simp[hd]
 delta zF;go_in
 go_wp2_with fail
 go_quiet (fail)
 go_wp2;go_ret2;rw[a.1,a.2.1,a.2.2];exact⟨rfl,⟨i,c.drewN _,g⟩,zK.drewN _⟩
def MZ(l:LB):Bool:=l.isEmpty||tk 124 l||tk 41 l
def Qs(b:Nat)(t l:LB)(vs:Value)(w:World)(h:PA w b t l vs) :
 zF 142 #[zP b] w λe w'=>e=zR (.bool (MZ l))/\∃n,w'=w.drewN n:=by
 obtain⟨i,a,f⟩:=h;have:=a.c0;have:=a.c1;have:=a.2.1;have q:=bL t
 by_cases k:i<t.length
 .have o:decide (t.length<=i)=false:=a0f (by omega);obtain⟨_,d⟩:=(drop_cons f).1 k;have:(bs t)[i]'(by rw[q];omega)=t[i]:=rfl;generalize r:t[i]=x at *;have c:MZ l=((x==124)||(x==41)):=by rw[d];simp[MZ,tk]
  have j:((x.toNat:Int)==124)=(x==124):=by
   rw[a0T];simp;constructor
   .intro e;exact a1w.1 (by simpa using(by omega:x.toNat=124))
   intro e;subst e;rfl
  have g:((x.toNat:Int)==41)=(x==41):=by
   rw[a0T];simp;constructor
   .intro e;exact a1w.1 (by simpa using(by omega:x.toNat=41))
   intro e;subst e;rfl
  cases m:(x==124)
  .rw[m]at j c
   delta zF;go_in
   go_wp2_with fail
   go_quiet (fail)
   go_wp2;go_ret;rw[c];exact⟨dD (by rw[<-g];rfl),_,rfl⟩
  rw[m]at j c;delta zF;go_in
  go_wp2_with fail
  go_quiet (fail)
  go_wp2;go_ret;rw[c];exact⟨dD (by rfl),_,rfl⟩
 have:decide (t.length<=i)=true:=a0g (by omega);have d:=(drop_cons f).2 k;have c:MZ l=true:=by rw[d];rfl
 delta zF;go_in
 go_wp2_with fail
 go_quiet (fail)
 go_wp2;go_ret;rw[c];exact⟨rfl,_,rfl⟩
theorem jw(c:UInt8):tk c l=bA c l:=by cases l<;>rfl
def yA(l:LB):Nat:=match di l with | some (n,_)=>n|none=>0
def wS(l:LB):LB:=match di l with | some (_,r)=>r|none=>l
theorem afj(a b:UInt8):(a<=b)=(a.toNat<=b.toNat):=by rw[a1p]
def asi {a b:Int} {c d:Bool}(h:a=b)(e:c=d):Ending.returned (.tuple #[zI a,.bool c])=zQ #[zI b,.bool d]:=by rw[h,e]
def Cu(b:Nat)(t l:LB)(vs:Value)(w:World)(h:PA w b t l vs) :
 zF 173 #[zP b] w λe w'=>e=zQ #[zI (yA l),.bool (di l).isSome]/\PA w' b t (wS l) vs/\aB [b] w w':=by
 obtain⟨i,c,g⟩:=h;have:=c.c0;have:=c.c1;have:=c.fz 1;have:=c.2.1;have:=c.2.2;have y:=bL t
 by_cases k:i<t.length
 .have s:decide (t.length<=i)=false:=a0f (by omega);obtain⟨_,d⟩:=(drop_cons g).1 k;have:(bs t)[i]'(by rw[y];omega)=t[i]:=rfl;generalize q:t[i]=x at *;have:=x.toNat_lt
  by_cases o:48<=x.toNat/\x.toNat<=57
  .have a:yA l=x.toNat-48/\(di l).isSome=true/\wS l=t.drop (i+1):=by
    show _/\_;have m:(48<=x&&x<=57)=true:=by simp[afj];exact o
    unfold yA wS;rw[d];simp only[di,m,a0G];simp
   have n:decide ((x.toNat:Int)<48)=false:=a0f (by omega);have r:decide ((57:Int)<(x.toNat:Int))=false:=a0f (by omega);delta zF;go_in
   go_wp2_with fail
   go_quiet (fail)
   go_wp2_with fail
   go_quiet (fail)
   go_wp2;go_ret2;rw[a.1,a.2.1,a.2.2];refine⟨?_,⟨i+1,(c.drewN _).at_ (i+1) k,rfl⟩,((aB.refl [b] w).drewN _).setCell (.inl (by simp)) _⟩;exact asi (by omega) rfl
  have a:yA l=0/\(di l).isSome=false/\wS l=l:=by
   show _/\_;have m:(48<=x&&x<=57)=false:=by rw[a2p];intro e;simp[afj]at e;exact o e
   unfold yA wS;rw[d];simp only[di,m];simp
  by_cases A:x.toNat<48
  have n:decide ((x.toNat:Int)<48)=true:=a0g (by omega)
  rotate_left
  have:decide ((x.toNat:Int)<48)=false:=a0f (by omega);have:decide ((57:Int)<(x.toNat:Int))=true:=a0g (by omega)
  all_goals
   delta zF;go_in
   go_wp2_with fail
   go_quiet (fail)
   go_wp2;go_ret2;rw[a.1,a.2.1,a.2.2];exact⟨rfl,⟨i,c.drewN _,g⟩,zK.drewN _⟩
 have:decide (t.length<=i)=true:=a0g (by omega);have d:=(drop_cons g).2 k;have a:yA l=0/\(di l).isSome=false/\wS l=l:=by show _/\_;rw[d];exact⟨rfl,rfl,rfl⟩
 delta zF;go_in
 go_wp2_with fail
 go_quiet (fail)
 go_wp2;go_ret2;rw[a.1,a.2.1,a.2.2];exact⟨rfl,⟨i,c.drewN _,g⟩,zK.drewN _⟩
def Iy(x:UInt8)(n:Nat)(a:n<256):((x.toNat:Int)==(n:Int))=(x==UInt8.ofNat n):=by
 have h:(UInt8.ofNat n).toNat=n:=by rw[UInt8.toNat_ofNat'];exact Nat.mod_eq_of_lt a
 rw[a0T,a0W,a0W]
 constructor
 .intro e
  apply a1w.1;rw[h];omega
 intro e;rw[e,h]
def Tj(b:Nat)(t l:LB)(vs:Value)(w:World)(h:PA w b t l vs) :
 zF 152 #[zP b] w λe w'=>e=zR (.bool (DK l))/\∃n,w'=w.drewN n:=by
 obtain⟨i,a,o⟩:=h;have:=a.c0;have:=a.c1;have:=a.2.1;have:=a.2.2;have z:=bL t
 by_cases q:i<t.length
 .have r:decide ((t.length:Int)<=(i:Int))=false:=a0f (by omega)
  obtain⟨_,j⟩:=(drop_cons o).1 q;have:(bs t)[i]'(by rw[z];omega)=t[i]:=rfl;generalize A:t[i]=x at *;have g:DK l=DI x:=by rw[j];rfl
  have f:=Iy x 42 (by omega);have d:=Iy x 43 (by omega);have c:=Iy x 63 (by omega);have k:=Iy x 123 (by omega);have p:DI x=(x==42||x==43||x==63||x==123):=rfl;cases k1:(x==42)
  .have y:((x.toNat:Int)==42)=false:=f.trans k1
   cases k2:(x==43)
   .have v:((x.toNat:Int)==43)=false:=d.trans k2
    cases m:(x==63)
    .have u:((x.toNat:Int)==63)=false:=c.trans m
     have s:((x.toNat:Int)==123)=(x==123):=k;delta zF;go_in
     go_wp2_with fail
     go_quiet (fail)
     go_wp2_with fail
     go_quiet (fail)
     go_wp2;go_ret;rw[g,p,k1,k2,m];exact⟨dD (by simp[s]),_,rfl⟩
    have:((x.toNat:Int)==63)=true:=c.trans m;delta zF;go_in
    go_wp2_with fail
    go_quiet (fail)
    go_wp2_with fail
    go_quiet (fail)
    go_wp2;go_ret;rw[g,p,k1,k2,m];exact⟨dD (by simp),_,rfl⟩
   have:((x.toNat:Int)==43)=true:=d.trans k2;delta zF;go_in
   go_wp2_with fail
   go_quiet (fail)
   go_wp2_with fail
   go_quiet (fail)
   go_wp2;go_ret;rw[g,p,k1,k2];exact⟨dD (by simp),_,rfl⟩
  have:((x.toNat:Int)==42)=true:=f.trans k1;delta zF;go_in
  go_wp2_with fail
  go_quiet (fail)
  go_wp2_with fail
  go_quiet (fail)
  go_wp2;go_ret;rw[g,p,k1];exact⟨dD (by simp),_,rfl⟩
 have:decide ((t.length:Int)<=(i:Int))=true:=a0g (by omega);have g:DK l=false:=by rw[((drop_cons o).2 q)];rfl
 delta zF;go_in
 go_wp2_with fail
 go_quiet (fail)
 go_wp2;go_ret;rw[g];exact⟨rfl,_,rfl⟩
def Yt:Option Nat->Int
 | none=>-1
 | some n=>n
def CP(p:Option ((Nat × Option Nat) × LB))(a m:Int)(ok:Bool)(b:LB):Prop :=
 match p with
 | some ((lo,c),r)=>a=lo/\m=Yt c/\ok=true/\b=r
 | none=>ok=false
def afk(h:(di l).isSome=false):dL l=none:=by
 unfold dL;cases hd:di l with
 | none=>rfl
 | some x=>rw[hd]at h;simp at h
def adz(h:(di l).isSome=true):di l=some (yA l,wS l)/\yA l<=9:=by
 cases hd:di l with
 | none=>rw[hd]at h;simp at h
 | some x=>obtain⟨n,r⟩:=x;have:=zz hd;unfold yA wS;rw[hd];exact⟨rfl,this.2⟩
def ana(h:(di l).isSome=false):di l=none/\wS l=l:=by
 cases hd:di l with
 | none=>unfold wS;rw[hd];exact⟨rfl,rfl⟩
 | some x=>rw[hd]at h;simp at h
def Yu(b:Nat)(t l:LB)(vs:Value)(w:World)(h:PA w b t l vs) :
 zF 168 #[zP b] w λe w'=>∃a m ok F,e=zQ #[zI a,zI m,.bool ok]/\PA w' b t F vs/\aB [b] w w'/\CP (dL l) a m ok F:=by
 cases A:(di l).isSome
 .have B:=afk A
  delta zF;go_in
  go_wp2_with fail
  refine(Cu b t l vs w h).mono ?_;rintro e w1 ⟨rfl,D,F1⟩;rw[A];go_wp2;go_ret3
  refine⟨_,_,_,_,rfl,D,F1,?_⟩;rw[B];rfl
 obtain⟨E,O⟩:=adz A;have B:dL l=if bA 44 (wS l) then
  match di (wS l).tail with
  | some (n,u)=>if bA 125 u&&decide (yA l<=n) then some ((yA l,some n),u.tail) else none
  | none=>if bA 125 (wS l).tail then some ((yA l,none),(wS l).tail.tail) else none
 else if bA 125 (wS l) then some ((yA l,some (yA l)),(wS l).tail) else none:=by
  conv=>lhs;unfold dL
  rw[E]
  all_goals rfl
 delta zF;go_in
 go_wp2_with fail
 refine(Cu b t l vs w h).mono ?_;rintro e w1 ⟨rfl,D,F1⟩;rw[A];generalize yA l=lo at *;generalize wS l=r at *;go_wp2_with fail
 refine(jI b t r vs 44 w1 D).mono ?_;rintro e w2 ⟨rfl,C,H⟩;have F2:=F1.trans H;clear H;cases o:tk 44 r
 .have k:rs 44 r=r:=by unfold rs;rw[o];rfl
  rw[jw]at o;have g:dL l=if bA 125 r then some ((lo,some lo),r.tail) else none:=by rw[B,o];rfl
  go_wp2_with fail
  refine(jI b t (rs 44 r) vs 125 w2 C).mono ?_;rintro e w3 ⟨rfl,j,x⟩;have F3:=F2.trans x;clear x;rw[k]at j |-;cases y:tk 125 r
  .go_wp2
   go_ret3
   refine⟨_,_,_,_,rfl,j,F3,?_⟩;rw[jw]at y;rw[g,y];rfl
  have s:rs 125 r=r.tail:=by unfold rs;rw[y];rfl
  have M:((lo:Int) == -1)=false:=a0j.2 (by omega);go_wp2;go_ret3
  refine⟨_,_,_,_,rfl,j,F3,?_⟩;rw[jw]at y;rw[g,y,s];exact⟨rfl,rfl,rfl,rfl⟩
 have k:rs 44 r=r.tail:=by unfold rs;rw[o];rfl
 rw[jw]at o;have g:dL l=match di r.tail with
  | some (n,u)=>if bA 125 u&&decide (lo<=n) then some ((lo,some n),u.tail) else none
  | none=>if bA 125 r.tail then some ((lo,none),r.tail.tail) else none:=by
  rw[B,o];rfl
 rw[k]at C;go_wp2_with fail
 refine(Cu b t r.tail vs w2 C).mono ?_;rintro e w3 ⟨rfl,j,x⟩;have F3:=F2.trans x;clear x;cases G:(di r.tail).isSome
 .obtain⟨f,I⟩:=ana G
  have d:dL l=if bA 125 r.tail then some ((lo,none),r.tail.tail) else none:=by rw[g,f]
  rw[I]at j;clear f I;go_wp2_with fail
  refine(jI b t r.tail vs 125 w3 j).mono ?_;rintro e J ⟨rfl,p,v⟩;have F4:=F3.trans v;clear v;cases c:tk 125 r.tail
  .go_wp2
   go_ret3
   refine⟨_,_,_,_,rfl,p,F4,?_⟩;rw[jw]at c;rw[d,c];rfl
  have s:rs 125 r.tail=r.tail.tail:=by unfold rs;rw[c];rfl
  go_wp2;go_ret3
  refine⟨_,_,_,_,rfl,p,F4,?_⟩;rw[jw]at c;rw[d,c,s];exact⟨rfl,rfl,rfl,rfl⟩
 obtain⟨f,L⟩:=adz G;have d:dL l=if bA 125 (wS r.tail)&&decide (lo<=yA r.tail) then some ((lo,some (yA r.tail)),(wS r.tail).tail) else none:=by rw[g,f]
 clear f;generalize yA r.tail=z at *;generalize wS r.tail=q at *;go_wp2_with fail
 refine(jI b t q vs 125 w3 j).mono ?_;rintro e J ⟨rfl,p,v⟩;have F4:=F3.trans v;clear v;have M:((z:Int) == -1)=false:=a0j.2 (by omega);cases c:tk 125 q
 .go_wp2
  go_ret3
  refine⟨_,_,_,_,rfl,p,F4,?_⟩;rw[jw]at c;rw[d,c];rfl
 have s:rs 125 q=q.tail:=by unfold rs;rw[c];rfl
 by_cases i:lo<=z
 .have N:decide ((lo:Int)<=(z:Int))=true:=a0g (by omega)
  go_wp2;go_ret3
  refine⟨_,_,_,_,rfl,p,F4,?_⟩;rw[jw]at c;rw[d,c,s,a0g i];exact⟨rfl,rfl,by first | rfl|simp[i],rfl⟩
 have N:decide ((lo:Int)<=(z:Int))=false:=a0f (by omega);go_wp2;go_ret3
 refine⟨_,_,_,_,rfl,p,F4,?_⟩;rw[jw]at c;rw[d,c,a0f i];show _=false
 first | rfl|simp[i]
theorem vE {c:UInt8}(h:tk c l=true):rs c l=l.tail:=by unfold rs;rw[h];rfl
theorem wU {c:UInt8}(h:tk c l=false):rs c l=l:=by unfold rs;rw[h];rfl
theorem apN {c:UInt8}(h:tk c l=true):l=c::l.tail:=by
 cases l with
 | nil=>simp[tk]at h
 | cons x r=>simp[tk]at h;simp[h]
def apO(l:LB):DJ l=if tk 42 l then some ((0,none),l.tail) else if tk 43 l then some ((1,none),l.tail) else if tk 63 l then some ((0,some 1),l.tail) else if tk 123 l then dL l.tail else none:=by cases l<;>rfl
def Oa(b:Nat)(t l:LB)(vs:Value)(w:World)(h:PA w b t l vs) :
 zF 153 #[zP b] w λe w'=>∃a m ok k,e=zQ #[zI a,zI m,.bool ok]/\PA w' b t k vs/\aB [b] w w'/\CP (DJ l) a m ok k:=by
 have j:=apO l;delta zF;go_in
 go_wp2_with fail
 refine(jI b t l vs 42 w h).mono ?_;rintro e w1 ⟨rfl,f,F1⟩;cases k1:tk 42 l
 case true =>
  rw[vE k1]at f;go_wp2;go_ret3
  refine⟨_,_,_,_,rfl,f,F1,?_⟩;rw[j,k1];exact⟨rfl,rfl,rfl,rfl⟩
 rw[wU k1]at f;have f:=f;go_wp2_with fail
 refine(jI b t l vs 43 w1 f).mono ?_;rintro e w2 ⟨rfl,d,r⟩;have F2:=F1.trans r;clear r;cases k2:tk 43 l
 case true =>
  rw[vE k2]at d;go_wp2;go_ret3
  refine⟨_,_,_,_,rfl,d,F2,?_⟩;rw[j,k1,k2];exact⟨rfl,rfl,rfl,rfl⟩
 rw[wU k2]at d;have d:=d;go_wp2_with fail
 refine(jI b t l vs 63 w2 d).mono ?_;rintro e w3 ⟨rfl,c,q⟩;have F3:=F2.trans q;clear q;cases g:tk 63 l
 case true =>
  rw[vE g]at c;go_wp2;go_ret3
  refine⟨_,_,_,_,rfl,c,F3,?_⟩;rw[j,k1,k2,g];exact⟨rfl,rfl,rfl,rfl⟩
 rw[wU g]at c;have c:=c;go_wp2_with fail
 refine(jI b t l vs 123 w3 c).mono ?_;rintro e s ⟨rfl,i,p⟩;have F4:=F3.trans p;clear p;cases n:tk 123 l
 case false =>
  go_wp2;go_ret3
  refine⟨_,_,_,_,rfl,i,F4,?_⟩;rw[j,k1,k2,g,n];rfl
 rw[vE n]at i;have i:=i;have v:DJ l=dL l.tail:=by rw[j,k1,k2,g,n];rfl
 go_wp2_with fail
 refine(Yu b t l.tail vs s i).mono ?_;rintro e y ⟨a,m,ok,k,rfl,u,o,x⟩;have F5:=F4.trans o;clear o;go_wp2;go_ret3
 refine⟨_,_,_,_,rfl,u,F5,?_⟩;rw[v];exact x
def BP(p:Option (UInt8 × LB))(v:UInt8)(ok:Bool)(a:LB):Prop :=
 match p with
 | some (c,r)=>v=c/\ok=true/\a=r
 | none=>ok=false
def hdB(l:LB):UInt8:=l.head?.getD 0
theorem alz:hd l=((hdB l).toNat:Int):=rfl
def D8(b:Nat)(t l:LB)(vs:Value)(w:World)(h:PA w b t l vs) :
 zF 174 #[zP b] w λe w'=>∃(v:UInt8) (ok:Bool) (q:LB),e=zQ #[.int .u8 v.toNat,.bool ok]/\PA w' b t q vs/\aB [b] w w'/\BP (lh l) v ok q:=by
 delta zF;go_in
 go_wp2_with fail
 refine(jI b t l vs 92 w h).mono ?_;rintro e w1 ⟨rfl,m,F1⟩;cases k1:tk 92 l
 case true =>
  rw[vE k1]at m;have a:lh l=match l.tail with | []=>none|d::p=>some (d,p):=by rw[apN k1];rfl
  go_wp2_with fail
  refine(Bj b t l.tail vs w1 m).mono ?_;rintro e w2 ⟨rfl,j,o⟩;have F2:=F1.trans o;clear o;rw[alz];go_wp2;go_ret2;refine⟨hdB l.tail,_,_,rfl,j,F2,?_⟩;rw[a];cases l.tail with
  | nil=>rfl
  | cons d p=>exact⟨rfl,rfl,rfl⟩
 rw[wU k1]at m;have m:=m;go_wp2_with fail
 refine(Bj b t l vs w1 m).mono ?_;rintro e w2 ⟨rfl,j,o⟩;have F2:=F1.trans o;clear o;rw[alz];have i:=Iy (hdB l) 93 (by omega);have g:=Iy (hdB l) 91 (by omega);have f:=Iy (hdB l) 45 (by omega);have a:lh l=if l.isEmpty then none else if hdB l==93||hdB l==91||hdB l==45 then none else some (hdB l,l.tail):=by
  cases l with
  | nil=>rfl
  | cons x r=>have:(x==92)=false:=k1;simp only[lh,this];rfl
 generalize hdB l=x at *;cases k2:l.isEmpty
 .rw[k2]at a
  cases c:(x==93)
  .have y:((x.toNat:Int) != 93)=true:=by rw[a1M];intro e;rw[show(x==93)=true from i.symm.trans (a0W.2 e)]at c;cases c
   cases k:(x==91)
   .have u:((x.toNat:Int) != 91)=true:=by rw[a1M];intro e;rw[show(x==91)=true from g.symm.trans (a0W.2 e)]at k;cases k
    cases n:(x==45)
    .have s:((x.toNat:Int) != 45)=true:=by rw[a1M];intro e;rw[show(x==45)=true from f.symm.trans (a0W.2 e)]at n;cases n
     rw[c,k,n]at a;clear i g f;go_wp2;go_ret2;refine⟨x,_,_,rfl,j,F2,?_⟩;rw[a];exact⟨rfl,rfl,rfl⟩
    have s:((x.toNat:Int) != 45)=false:=by rw[a1X];exact a0W.1 (f.trans n)
    rw[c,k,n]at a;clear i g f;go_wp2;go_ret2;refine⟨x,_,_,rfl,j,F2,?_⟩;rw[a];rfl
   have u:((x.toNat:Int) != 91)=false:=by rw[a1X];exact a0W.1 (g.trans k)
   rw[c,k]at a;clear i g f;go_wp2;go_ret2;refine⟨x,_,_,rfl,j,F2,?_⟩;rw[a];rfl
  have y:((x.toNat:Int) != 93)=false:=by rw[a1X];exact a0W.1 (i.trans c)
  rw[c]at a;clear i g f;go_wp2;go_ret2;refine⟨x,_,_,rfl,j,F2,?_⟩;rw[a];rfl
 rw[k2]at a;clear i g f;go_wp2;go_ret2;refine⟨x,_,_,rfl,j,F2,?_⟩;rw[a];rfl
def IP(p:Option ((UInt8 × UInt8) × LB))(a c:UInt8)(ok:Bool)(b:LB):Prop :=
 match p with
 | some ((x,y),r)=>a=x/\c=y/\ok=true/\b=r
 | none=>ok=false
def acs(b:Nat)(t l:LB)(vs:Value)(w:World)(h:PA w b t l vs) :
 zF 172 #[zP b] w λe w'=>∃(a c:UInt8) (ok:Bool) (v:LB),e=zQ #[.int .u8 a.toNat,.int .u8 c.toNat,.bool ok]/\PA w' b t v vs/\aB [b] w w'/\IP (tN l) a c ok v:=by
 have g:tN l=match lh l with
  | none=>none
  | some (a,r)=>if bA 45 r then (match lh r.tail with | none=>none|some (b,r2)=>if a<=b then some ((a,b),r2) else none) else some ((a,a),r):=rfl
 delta zF;go_in
 go_wp2_with fail
 refine(D8 b t l vs w h).mono ?_;rintro e w1 ⟨x,k,m,rfl,C,F1,p⟩;cases z:lh l with
 | none =>
   rw[z]at p g;obtain rfl:k=false:=p;go_wp2;go_ret3
   refine⟨0,0,_,_,rfl,C,F1,?_⟩;rw[g];rfl
 | some s =>
   obtain⟨c,r⟩:=s;rw[z]at p g;obtain⟨rfl,rfl,rfl⟩:x=c/\k=true/\m=r:=p;go_wp2_with fail
   refine(jI b t m vs 45 w1 C).mono ?_;rintro e w2 ⟨rfl,i,B⟩;have F2:=F1.trans B;cases k2:tk 45 m
   .rw[wU k2]at i
    rw[jw]at k2;go_wp2;go_ret3
    refine⟨x,x,_,_,rfl,i,F2,?_⟩;rw[g];simp only[k2];exact⟨rfl,rfl,by first | rfl|simp,rfl⟩
   rw[vE k2]at i;rw[jw]at k2;go_wp2_with fail
   refine(D8 b t m.tail vs w2 i).mono ?_;rintro e _ ⟨y,j,E,rfl,u,A,f⟩;have F3:=F2.trans A;cases o:lh m.tail with
   | none =>
     rw[o]at f;obtain rfl:j=false:=f;go_wp2;go_ret3
     refine⟨x,y,_,_,rfl,u,F3,?_⟩;rw[g];simp only[k2,o]
     rfl
   | some s =>
     obtain⟨d,D⟩:=s;rw[o]at f;obtain⟨rfl,rfl,rfl⟩:y=d/\j=true/\E=D:=f
     by_cases q:x.toNat<=y.toNat
     .go_wp2;go_ret3
      refine⟨x,y,_,_,rfl,u,F3,?_⟩;rw[g];simp only[k2,o,a0G];rw[a0m (by rw[afj];exact q)];exact⟨rfl,rfl,by first | rfl|simp[q],rfl⟩
     go_wp2;go_ret3
     refine⟨x,y,_,_,rfl,u,F3,?_⟩;rw[g];simp only[k2,o,a0G];rw[a0n (by rw[afj];exact q)];show _=false
     first | rfl|simp[q]
def Ea(s:Nat):List Value:=[.int .u64 (wd s 0),.int .u64 (wd s 1),.int .u64 (wd s 2),.int .u64 (wd s 3)]
def BL(base:Nat)(w:World)(v:Value)(S:LN):Prop:=w.ownsRow base 218 4 v S.length (S.flatMap Ea)
theorem BL.nil(base:Nat)(w:World):BL base w zN []:=World.ownsRow_nil w base _ 4
def asj:(Tryz.prog.info? 218).map (λi=>(i.zero,i.size,i.bytes))=some (some (.agg #[.int .u64 0,.int .u64 0,.int .u64 0,.int .u64 0]),4,32):=by kernel_rfl
structure FP(base b:Nat)(w w':World):Prop where
 os:w'.os=w.os
 tape:w'.tape=w.tape
 output:w'.output=w.output
 size:w.heap.size<=w'.heap.size
 block:∀k,k<w.heap.size->k≠b->(k<base\/∀cur fz,w.heap[k]?≠some (.cells cur 218 fz))->w'.heap[k]?=w.heap[k]?
theorem FP.refl(base b:Nat)(w:World):FP base b w w:=⟨rfl,rfl,rfl,a0b _,λ_ _ _ _=>rfl⟩
theorem FP.trans {base b:Nat}{z:World}(h:FP base b x y)(k:FP base b y z):FP base b x z :=
 ⟨k.os.trans h.os,k.tape.trans h.tape,k.output.trans h.output,a0h h.size k.size,λi c hb a=>by
   have e:=h.block i c hb a;refine(k.block i (a0t c h.size) hb ?_).trans e;rcases a with a|a
   .exact .inl a
   exact .inr (λcur fz=>by rw[e];exact a cur fz)⟩
def FP.Tk {base b:Nat}{w:World}(h:aB [b] w w'):FP base b w w':=⟨h.os,h.tape,h.output,h.size,λk a hb _=>h.block k a (by simpa using hb)⟩
theorem FP.aC {base b:Nat}{w:World}(h:FP base b x w)(f:aB [b] w w'):FP base b x w':=h.trans (.Tk f)
theorem FP.alloc {base b:Nat}{w:World}(h:FP base b x w)(o:Obj):FP base b x (w.alloc o):=h.aC zJ
theorem FP.drew {base b:Nat}{w:World}(h:FP base b x w):FP base b x w.drew:=⟨h.os,h.tape,h.output,h.size,h.block⟩
theorem FP.drewN {base b:Nat}{w:World}(n:Nat)(h:FP base b x w):FP base b x (w.drewN n):=⟨h.os,h.tape,h.output,h.size,h.block⟩
def FP.grown {base b:Nat}{w:World}(ho:w.ownsRow base 218 4 v n xs)(a:w.grownBy w' v.ownBlock):FP base b w w':=by
 refine⟨a.os,a.tape,a.output,a.size,λk d hb c=>a.block k d ?_⟩;intro e;have g:=ho.lt k e.symm;obtain⟨cur,fz,f⟩:=Ip ho k e.symm;rcases c with c|c
 .omega
 exact c cur fz f
def XB(w:World)(eb:Nat)(s:Nat):Prop:=w.heap[eb]?=some (.cells #[zI 0,.int .u64 (wd s 0),.int .u64 (wd s 1),.int .u64 (wd s 2),.int .u64 (wd s 3),zN,.pointer none,zI 0,zI 0] 221 (0,0))
def Cw(base b:Nat)(t l:LB)(vs:Value)(S:LN)(s:Nat)(w:World)(h:PA w b t l vs)(c:BL base w vs S)(hb:b<base)(hz:base<=w.heap.size)(X:S.length<=1048576) :
 zF 165 #[zP b,bv s] w λe w'=>∃(eb:Nat) (v:Value),e=zR (zP eb)/\w.heap.size<=eb/\XB w' eb s/\PA w' b t l v/\BL base w' v (S++[s])/\FP base b w w':=by
 unfold bv;obtain⟨i,j,R⟩:=h;have c2:=j.c2;have G:=j.fz 2;have I:=j.lt;obtain⟨a,cap,rfl⟩:=aW c;obtain⟨C,D,L,J,N⟩:=info_parts asj;have O:∀(w:World) (eb:Nat),eb=w.heap.size->XB (w.alloc (.cells #[zI 0,.int .u64 (wd s 0),.int .u64 (wd s 1),.int .u64 (wd s 2),.int .u64 (wd s 3),zN,.pointer none,zI 0,zI 0] 221)) eb s:=by intro w eb e;subst e;exact bD w _
 have P:S.flatMap Ea++[.int .u64 (wd s 0),.int .u64 (wd s 1),.int .u64 (wd s 2),.int .u64 (wd s 3)]=(S++[s]).flatMap Ea:=by simp[Ea]
 have n:Value.ownBlock (.slice a S.length cap)≠some b:=λe=>by have:=c.lt _ e;omega
 have H:Value.ownBlock (.slice a S.length cap)≠some w.heap.size:=λe=>by have:=c.lt _ e;omega
 generalize wd s 0=g at *;generalize wd s 1=s1 at *;generalize wd s 2=s2 at *;generalize wd s 3=f at *;have F:∀o k:Obj,((w.alloc o).alloc k).drew.frozen? (zB b 2)=false:=λo k=>(((((aB.refl [] w).alloc o).alloc k).drew).frozen I (by simp)).trans G
 delta zF;go_in
 go_wp2_with fail
 go_region_law ((refine step_append_lies _ (by rfl) _ _ _ (by rfl) base 218 C _ 4 32 Tryz.underlying201 D L J N rfl (by omega) (.slice a S.length cap) S.length (S.flatMap Ea) (by rfl) (by exact(c.alloc _).alloc _) (zA (w.heap.size+1)) 1 1 [.int .u64 g,.int .u64 s1,.int .u64 s2,.int .u64 f] (by rfl) (by rfl) (World.news_of_block (cs:=#[.int .u64 g,.int .u64 s1,.int .u64 s2,.int .u64 f]) (t:=218) (fr:=(0,0)) (by exact Ik)) (by simp[Value.oneCell']) (by omega) (by unfold maxLen;omega) (by omega) (by simp;omega) (w.heap.size+2) (by simp) ?_;intro m p r q d Z AO;have c4:=(d.cell_far (zB b 2) (by simp;omega) (Ne.symm n));have x:=(d.frozen_far (zB b 2) (by simp;omega) (Ne.symm n));have Y:=x.trans (F _ _)))
 all_goals
  have F4:=aB.fo d;have A:SB r w.heap.size g s1 s2 f:=((SB.new (w:=w) (b:=w.heap.size) rfl).aC (S:=[]) (zJ.drew) (by simp)).aC F4 (by simpa[a0H] using λe=>H e);have y:PS r b t i (.slice a S.length cap):=(j.aC (S:=[]) ((zJ.alloc _).drew) (by simp)).aC F4 (by simpa[a0H] using λe=>n e);have G4:=FP.trans (base:=base) (b:=b) (((FP.refl base b w).alloc _).alloc _).drew (FP.grown ((c.alloc _).alloc _) d);have B:=F4.size;simp at B;have M:=y.sets (zS m (S.length+1) p);have z:=A.far (b':=b) (o:=2) (zS m (S.length+1) p) (by omega);obtain⟨W,V,U,T⟩:=z.cells;clear d F4 A z y c4 x;go_wp2;go_ret;refine⟨_,_,rfl,?_,O _ _ (by simp),⟨i,M.aC zG (by simp),R⟩,?_,(G4.aC (zK.setCell (.inl (by simp)) _)).alloc _⟩
  .omega
  have u:=q;rw[P]at u;have:=ownsRow_setCell_below u (a:=(zB b 2)) hb (zS m (S.length+1) p);have E:=this.alloc (.cells #[zI 0,.int .u64 g,.int .u64 s1,.int .u64 s2,.int .u64 f,zN,.pointer none,zI 0,zI 0] 221);unfold BL;rw[a0p];exact E
theorem aht(s f:Nat):∀k,pU s f k=vg s f k
 | 0=>rfl
 | k+1=>by simp only[pU,vg,aht s f k]
theorem BL.aC {base:Nat}{w:World} {L:LN}(h:BL base w v L)(f:aB S w w')(a:∀k,k∈S->k<base):BL base w' v L:=fG h f a
def aB.fresh{z:World}(h:aB S x y)(k:aB [n] y z)(c:x.heap.size<=n):aB S x z :=
 ⟨k.os.trans h.os,k.tape.trans h.tape,k.output.trans h.output,a0h h.size k.size,
  λi a b=>(k.block i (a0t a h.size) (by simp;omega)).trans (h.block i a b)⟩
def anb{w:World} {base:Nat} {e:TypeId} {size:Nat}(h:w.ownsRow base e size v n xs)(f:aB S w w')
 (d:∀k,k∈S->v.ownBlock≠some k):w'.ownsRow base e size v n xs:=by
 refine⟨h.1,?_⟩;rcases h.2 with b|⟨g,cap,cur,rfl,hb,a,rest⟩
 .exact .inl b
 refine .inr ⟨g,cap,cur,rfl,hb,?_,rest⟩;rw[f.block g (a0c.1 a).1 (λc=>d g c (by simp[Value.ownBlock]))];exact a
def SP(base b:Nat)(t:LB)(S:LN)(w:World)(p:Option (Nat × LB))(e:Ending)(w':World):Prop :=
 match p with
 | some (s,r)=>∃(eb:Nat) (a:Value),e=zR (zP eb)/\w.heap.size<=eb/\XB w' eb s/\PA w' b t r a/\BL base w' a (S++[s])/\FP base b w w'
 | none=>e=zR (.pointer none)/\(∃c a,PA w' b t c a)/\FP base b w w'
theorem PA.len {w:World} {b:Nat}(h:PA w b t l vs):l.length<=t.length/\t.length<=1048576:=by obtain⟨i,c,a⟩:=h;exact⟨by rw[<-a];simp,c.2.2⟩
def aaX(base b:Nat)(t l:LB)(vs:Value)(S:LN)(w:World)(h:PA w b t l vs)(hs:BL base w vs S)(hb:b<base)(hz:base<=w.heap.size)(hS:S.length<=1000000) :
 zF 164 #[zP b] w λe w'=>SP base b t S w (nT l) e w':=by
 have jE:b<w.heap.size:=by omega
 delta zF;go_in
 go_wp2_with fail
 refine(jI b t l vs 94 w h).mono ?_;rintro e w1 ⟨rfl,P1,F1⟩;have Z:=F1.size;obtain⟨m,P⟩:∃m,m=rs 94 l:=⟨_,rfl⟩;have J:nT l=match fE (l.length+1) 0 m with | none=>none|some (s,r)=>some (if tk 94 l then s ^^^ fU else s,r):=by
  unfold nT;rw[<-jw,P];cases F:tk 94 l
  .rw[wU F]
   simp only[a0A,a0I];cases fE (l.length+1) 0 l with
   | none=>rfl
   | some x=>obtain⟨s,r⟩:=x;rfl
  rw[vE F];rfl
 have hll:m.length<=l.length:=by rw[P];unfold rs;split<;>simp
 rw[<-P]at P1;clear P;generalize tk 94 l=ot at *;go_wp2_with fail
 go_loopg [5] (l.length+2) (λk ve wr=>∃(s':Nat) (g:LB) (U:Bool),ve=.bool U/\SB wr w1.heap.size (wd s' 0) (wd s' 1) (wd s' 2) (wd s' 3)/\PA wr b t g vs/\aB [b] w wr/\s'<2 ^ 256/\w1.heap.size<wr.heap.size /\
  (if U then fE (l.length+1) 0 m=some (s',g) else (∃E,k=E+1/\g.length+1<=E/\fE E s' g=fE (l.length+1) 0 m)))
 case atStart =>
  refine⟨0,m,false,rfl,?_,P1.aC zG (by simp),F1.alloc _,by decide,by simp,?_⟩
  .have:wd 0 0=0/\wd 0 1=0/\wd 0 2=0/\wd 0 3=0:=by decide
   rw[this.1,this.2.1,this.2.2.1,this.2.2.2];exact SB.new rfl
  simp only[a0A,a0I];exact⟨_,rfl,by omega,rfl⟩
 case round =>
  obtain⟨s',g,U,rfl,d,j,F2,JU,eG,i⟩:=hrel;cases U
  case false =>
   simp only[a0A,a0I]at i;obtain⟨E,hk1,JG,Vo⟩:=i;obtain⟨k2,rfl⟩:∃k2,E=k2+1:=⟨E-1,by omega⟩;have I:fE (l.length+1) 0 m=match tN g with | none=>none|some ((a,b),r)=>if bA 93 r then some (addRange s' a b,r.tail) else fE k2 (addRange s' a b) r:=by rw[<-Vo];rfl
   clear Vo;go_wp2_with fail
   refine(acs b t g vs wr j).mono ?_;rintro e w3 ⟨a,c,ok,n,rfl,P3,V,o⟩;have F3:=F2.trans V;have B3:=(d.aC V (by simp;omega));have z3:=V.size;clear V d;cases u:tN g with
   | none =>
     rw[u]at o I;obtain rfl:ok=false:=o;have z:nT l=none:=by rw[J,I]
     go_wp2;go_ret;rw[z];exact⟨rfl,⟨_,_,P3⟩,.Tk F3⟩
   | some x =>
     obtain⟨⟨x,y⟩,r⟩:=x;have hlen:=BZ u;rw[u]at o I;obtain⟨rfl,rfl,rfl,rfl⟩:a=x/\c=y/\ok=true/\n=r:=o;have ha8:=a.toNat_lt;have ZP:=c.toNat_lt;have X:pU s' a.toNat (c.toNat+1-a.toNat)=addRange s' a c:=by rw[aht];rfl
     have ng:=Rq JU a c;go_wp2_with fail
     refine(aaW w1.heap.size s' a.toNat c.toNat w3 (by omega) (by omega) B3).mono ?_;rintro e w4 ⟨rfl,B4,R⟩;rw[X]at B4;have P4:=(P3.aC R (by simp;omega));have F4:=F3.fresh R Z;have z4:=R.size;clear R;generalize addRange s' a c=O at *;go_wp2_with fail
     refine(jI b t n vs 93 w4 P4).mono ?_;rintro e N ⟨rfl,q,f⟩;have M:=(B4.aC f (by simp;omega));have F5:=F4.trans f;have z5:=f.size;clear f;have Yv:(rs 93 n).length<=n.length:=by unfold rs;split<;>simp
     cases T:tk 93 n
     .have v:fE (l.length+1) 0 m=fE k2 O n:=by rw[I];simp only[<-jw,T];rfl
      rw[wU T]at q;go_wp2;go_roundg (gk-1)
      case measure=>omega
      case rel=>refine⟨O,n,false,rfl,M,q,F5,ng,by omega,?_⟩;simp only[a0A,a0I];exact⟨k2,by omega,by omega,v.symm⟩
     have v:fE (l.length+1) 0 m=some (O,n.tail):=by rw[I];simp only[<-jw,T];rfl
     rw[vE T]at q;have q:=q;go_wp2;go_roundg (gk-1)
     case measure=>omega
     case rel=>refine⟨O,n.tail,true,rfl,M,q,F5,ng,by omega,?_⟩;simp only[a0G];exact v
  case true =>
   simp only[a0G]at i;have z:nT l=some (if ot then s' ^^^ fU else s',g):=by rw[J,i]
   have H:S.length<=1048576:=by omega
   have L:=(hs.aC F2 (by simp;omega));have gD:base<=wr.heap.size:=by omega
   have j:=j;have d:=d;clear i;obtain⟨q0,q1,q2,q3⟩:=d.cells;have qf:=d.fz;cases ot
   focus
    go_wp2_with fail
    refine(Cw base b t g vs S s' wr j L hb gD H).mono ?_;rintro e w6 ⟨eb,iN,rfl,G,X6,P6,L6,W⟩;have G6:=(FP.Tk (base:=base) F2).trans W
   rotate_left
   have HQ:∀(w:World),zF 166 #[.agg #[.int .u64 (wd s' 0),.int .u64 (wd s' 1),.int .u64 (wd s' 2),.int .u64 (wd s' 3)]] w λe w'=>e=zR (.agg #[.int .u64 (wd (s' ^^^ fU) 0),.int .u64 (wd (s' ^^^ fU) 1),.int .u64 (wd (s' ^^^ fU) 2),.int .u64 (wd (s' ^^^ fU) 3)])/\aB [] w w':=λw=>WY s' w
   go_wp2_with fail
   refine(HQ wr).mono ?_;rintro e N ⟨rfl,f⟩;have M:=d.aC f (by simp);have q:=j.aC f (by simp);have S5:=L.aC f (by simp);have F5:=F2.trans (f.mono (by simp));have z5:=f.size;obtain⟨q0,q1,q2,q3⟩:=M.cells;have qf:=M.fz;clear f;have Y:∀D C B A:Value,aB [w1.heap.size] N ((((N.setCell (zA w1.heap.size) D).setCell (zB w1.heap.size 1) C).setCell (zB w1.heap.size 2) B).setCell (zB w1.heap.size 3) A):=λD C B A=>((((aB.refl [w1.heap.size] N).setCell (p:=(zA w1.heap.size)) (.inl (by simp)) D).setCell (p:=(zB w1.heap.size 1)) (.inl (by simp)) C).setCell (p:=(zB w1.heap.size 2)) (.inl (by simp)) B).setCell (p:=(zB w1.heap.size 3)) (.inl (by simp)) A
   have U6:=(λD C B A=>Cw base b t g vs S (s' ^^^ fU) _ (q.aC (Y D C B A) (by simp;omega)) (anb S5 (Y D C B A) (by intro k F e;simp at F;subst F;have:=hs.lt _ e;omega)) hb (by simp;omega) H);generalize s' ^^^ fU=s6 at *;go_wp2_with fail
   refine(U6 _ _ _ _).mono ?_;rintro e w6 ⟨eb,iN,rfl,G,X6,P6,L6,W⟩;have G6:=(FP.Tk (base:=base) (F5.fresh (Y _ _ _ _) Z)).trans W;simp at G
   all_goals
    clear W;go_wp2;go_ret;rw[z];exact⟨eb,iN,rfl,by omega,X6,P6,L6,G6⟩
def XN(w:World)(eb:Nat)(k:Int)(v:Value):Prop:=w.heap[eb]?=some (.cells #[zI k,.int .u64 0,.int .u64 0,.int .u64 0,.int .u64 0,v,.pointer none,zI 0,zI 0] 221 (0,0))
def XW(w:World)(eb q:Nat)(lo a:Int):Prop:=w.heap[eb]?=some (.cells #[zI 3,.int .u64 0,.int .u64 0,.int .u64 0,.int .u64 0,zN,zP q,zI lo,zI a] 221 (0,0))
def pv(a:LN):List Value:=a.map λp=>zP p
def XV(A:Nat->Prop)(w:World)(v:Value)(a:LN):Prop:=w.ownsRow 0 204 1 v a.length (pv a)/\(∀k,v.ownBlock=some k->A k)/\a.length<=1000
mutual
def XR(A:Nat->Prop)(w:World):Nat->RX->Prop
 | p,.one s=>A p/\XB w p s
 | p,.seq l=>A p/\∃v a,XN w p 1 v/\XV A w v a/\mD A w a l
 | p,.alt l=>A p/\∃v a,XN w p 2 v/\XV A w v a/\mD A w a l
 | p,.rep x lo b=>A p/\∃q,XW w p q lo (Yt b)/\XR A w q x
def mD(A:Nat->Prop)(w:World):LN->List RX->Prop
 | [],[]=>True
 | p::a,x::l=>XR A w p x/\mD A w a l
 | _,_=>False
end
def pO(A:Nat->Prop)(w w':World):Prop:=∀k,A k->(∃cur fz,w.heap[k]?=some (.cells cur 221 fz)\/w.heap[k]?=some (.cells cur 204 fz))->w'.heap[k]?=w.heap[k]?
theorem XV.aY {A:Nat->Prop}{w:World} {a:LN}(h:XV A w v a)(k:pO A w w'):XV A w' v a:=by
 refine⟨⟨h.1.1,?_⟩,h.2⟩;rcases h.1.2 with c|⟨g,cap,cur,rfl,hb,b,rest⟩
 .exact .inl c
 exact .inr ⟨g,cap,cur,rfl,hb,(k g (h.2.1 g rfl) ⟨cur,_,.inr b⟩).trans b,rest⟩
mutual
theorem XR.aY {A:Nat->Prop}{w:World}(k:pO A w w'):∀{p:Nat} {x:RX},XR A w p x->XR A w' p x
 | p,.one s,h=>by simp only[XR]at h |-;exact⟨h.1,(k p h.1 ⟨_,_,.inl h.2⟩).trans h.2⟩
 | p,.seq l,h=>by simp only[XR]at h |-;obtain⟨b,v,d,a,c,e⟩:=h;exact⟨b,v,d,(k p b ⟨_,_,.inl a⟩).trans a,c.aY k,mD.aY k e⟩
 | p,.alt l,h=>by simp only[XR]at h |-;obtain⟨b,v,d,a,c,e⟩:=h;exact⟨b,v,d,(k p b ⟨_,_,.inl a⟩).trans a,c.aY k,mD.aY k e⟩
 | p,.rep x lo f,h=>by simp only[XR]at h |-;obtain⟨b,q,a,c⟩:=h;exact⟨b,q,(k p b ⟨_,_,.inl a⟩).trans a,XR.aY k c⟩
theorem mD.aY {A:Nat->Prop}{w:World}(k:pO A w w'):∀{a:LN} {l:List RX},mD A w a l->mD A w' a l
 | [],[],_=>by simp only[mD]
 | p::a,x::l,h=>by simp only[mD]at h |-;exact⟨XR.aY k h.1,mD.aY k h.2⟩
 | [],_::_,h=>by simp only[mD]at h
 | _::_,[],h=>by simp only[mD]at h
end
mutual
theorem XR.mono {A B:Nat->Prop} {w:World}(k:∀n,A n->B n):∀{p:Nat} {x:RX},XR A w p x->XR B w p x
 | p,.one s,h=>by simp only[XR]at h |-;exact⟨k p h.1,h.2⟩
 | p,.seq l,h=>by simp only[XR]at h |-;obtain⟨c,v,d,b,a,f⟩:=h;exact⟨k p c,v,d,b,⟨a.1,λn e=>k n (a.2.1 n e),a.2.2⟩,mD.mono k f⟩
 | p,.alt l,h=>by simp only[XR]at h |-;obtain⟨c,v,d,b,a,f⟩:=h;exact⟨k p c,v,d,b,⟨a.1,λn e=>k n (a.2.1 n e),a.2.2⟩,mD.mono k f⟩
 | p,.rep x lo g,h=>by simp only[XR]at h |-;obtain⟨c,q,b,a⟩:=h;exact⟨k p c,q,b,XR.mono k a⟩
theorem mD.mono {A B:Nat->Prop} {w:World}(k:∀n,A n->B n):∀{a:LN} {l:List RX},mD A w a l->mD B w a l
 | [],[],_=>by simp only[mD]
 | p::a,x::l,h=>by simp only[mD]at h |-;exact⟨XR.mono k h.1,mD.mono k h.2⟩
 | [],_::_,h=>by simp only[mD]at h
 | _::_,[],h=>by simp only[mD]at h
end
theorem mD.snoc {A:Nat->Prop} {w:World}:∀{a:LN} {l:List RX} {p:Nat} {x:RX},mD A w a l->XR A w p x->mD A w (a++[p]) (l++[x])
 | [],[],p,x,_,h=>by simp only[a0V,mD];exact⟨h,trivial⟩
 | q::a,y::l,p,x,h,b=>by simp_all[mD,mD.snoc]
 | [],_::_,p,x,h,_=>by simp only[mD]at h
 | _::_,[],p,x,h,_=>by simp only[mD]at h
theorem mD.len {A:Nat->Prop} {w:World}:∀{a:LN} {l:List RX},mD A w a l->a.length=l.length
 | [],[],_=>rfl
 | p::a,x::l,h=>by simp only[mD]at h;simp[mD.len h.2]
 | [],_::_,h=>by simp only[mD]at h
 | _::_,[],h=>by simp only[mD]at h
theorem pO.aC {A:Nat->Prop}{w:World}(f:aB S w w')(b:∀k,A k->k<w.heap.size/\k∉S):pO A w w' :=
 λk a _=>f.block k (b k a).1 (b k a).2
def pO.fp {A:Nat->Prop} {base b:Nat}{w:World}(f:FP base b w w')(d:∀k,A k->k<w.heap.size/\k≠b):pO A w w':=by intro k a ⟨cur,fz,h⟩;refine f.block k (d k a).1 (d k a).2 (.inr ?_);intro c g e;rcases h with h|h<;>rw[h]at e<;>simp at e
def FP.fresh{base b:Nat}{z:World}(h:FP base b x y)(k:aB [n] y z)(d:x.heap.size<=n):FP base b x z :=
 ⟨k.os.trans h.os,k.tape.trans h.tape,k.output.trans h.output,a0h h.size k.size,
  λi a hb c=>(k.block i (a0t a h.size) (by simp;omega)).trans (h.block i a hb c)⟩
def XP(base b:Nat)(t:LB)(S:LN)(w:World)(p:Option (RX × LB))(e:Ending)(w':World):Prop :=
 match p with
 | some (x,r)=>∃(eb:Nat) (a:Value),e=zR (zP eb)/\XR (λk=>w.heap.size<=k/\k<w'.heap.size) w' eb x/\PA w' b t r a/\BL base w' a (S++dB x)/\FP base b w w'
 | none=>e=zR (.pointer none)/\(∃c a,PA w' b t c a)/\FP base b w w'
theorem XB.lt {w:World} {eb s:Nat}(h:XB w eb s):eb<w.heap.size:=(a0c.1 h).1
def SP.xp {base b:Nat} {w:World} {p:Option (Nat × LB)} {e:Ending}(h:SP base b t S w p e w'):XP base b t S w (p.map λx=>(.one x.1,x.2)) e w':=by
 cases p with
 | none=>exact h
 | some x=>obtain⟨s,r⟩:=x;obtain⟨eb,c,j,i,a,g,f,d⟩:=h;refine⟨eb,c,j,?_,g,f,d⟩;simp only[XR];exact⟨⟨i,a.lt⟩,a⟩
end
section
variable {b cap eb j n q s:Nat} {l l' t:LB} {L S ps:LN} {w w':World} {e e2:TypeId} {hi k:Int} {ops:Array Oper} {rest:List Oper} {a:Act} {y:RX} {v v2 iN:Value} {acc:List RX} {xs xs2:List Value} {x:Operand}
def alA(k:Nat):Prop:=∀(base b nest:Nat) (t l:LB) (vs:Value) (S:LN) (w:World),PA w b t l vs->BL base w vs S->b<base->base<=w.heap.size->S.length+l.length<=100->nest<=5->4*l.length+4<=k ->
 zF 123 #[zP b,zI nest] w λe w'=>XP base b t S w (iQ k nest [] l) e w'
def alB(k:Nat):Prop:=∀(base b nest:Nat) (t l:LB) (vs:Value) (S:LN) (w:World),PA w b t l vs->BL base w vs S->b<base->base<=w.heap.size->S.length+l.length<=100->nest<=5->4*l.length+3<=k ->
 zF 133 #[zP b,zI nest] w λe w'=>XP base b t S w (jF k nest [] l) e w'
def afl(k:Nat):Prop:=∀(base b nest:Nat) (t l:LB) (vs:Value) (S:LN) (w:World),PA w b t l vs->BL base w vs S->b<base->base<=w.heap.size->S.length+l.length<=100->nest<=5->4*l.length+2<=k ->
 zF 151 #[zP b,zI nest] w λe w'=>XP base b t S w (ik k nest l) e w'
def M0(k nest:Nat)(l:LB):Option (RX × LB) :=
 if 5<=nest then none else match iQ k (nest+1) [] l with | none=>none|some (x,r2)=>if bA 41 r2 then some (x,r2.tail) else none
def XP.fpl{base:Nat}{a:World} {p:Option (RX × LB)} {e:Ending}(h:XP base b t S a p e w')(f:FP base b w a)(hb:b<w.heap.size):XP base b t S w p e w':=by
 cases p with
 | none=>exact⟨h.1,h.2.1,f.trans h.2.2⟩
 | some x=>obtain⟨x,r⟩:=x;obtain⟨eb,iN,k,j,i,g,d⟩:=h;exact⟨eb,iN,k,j.mono (λn c=>⟨a0h f.size c.1,c.2⟩),i,g,f.trans d⟩
def aaY {k:Nat}(hC:alA k)(base b nest:Nat)(t l:LB)(vs:Value)(S:LN)(w:World)(h:PA w b t l vs)(q:BL base w vs S)(hb:b<base)(hz:base<=w.heap.size)(u:S.length+l.length<=100)(f:nest<=5)(s:4*l.length+4<=k) :
 zF 163 #[zP b,zI nest] w λe w'=>XP base b t S w (M0 k nest l) e w':=by
 by_cases p:5<=nest
 .have d:M0 k nest l=none:=by unfold M0;rw[a0m p]
  delta zF;go_in
  go_wp2;go_ret;rw[d];exact⟨rfl,⟨_,_,h⟩,FP.refl _ _ _⟩
 have d:M0 k nest l=match iQ k (nest+1) [] l with | none=>none|some (x,r2)=>if bA 41 r2 then some (x,r2.tail) else none:=by unfold M0;rw[a0n p]
 have z:=hC base b (nest+1) t l vs S w h q hb hz u (by omega) s;delta zF;go_in
 go_wp2_with fail
 refine z.mono ?_;intro e m g;cases o:iQ k (nest+1) [] l with
 | none =>
   rw[o]at g d;obtain⟨rfl,⟨l',iN,i⟩,F1⟩:=g;go_wp2_with fail
   refine(jI b t l' iN 41 m i).mono ?_;rintro e j ⟨rfl,c,a⟩;have F2:=F1.aC a;clear a;cases tk 41 l'
   all_goals
    go_wp2;go_ret;rw[d];exact⟨rfl,⟨_,_,c⟩,F2⟩
 | some x =>
   obtain⟨x,r⟩:=x;rw[o]at g d;obtain⟨eb,iN,rfl,y,i,C,F1⟩:=g;have E:b<w.heap.size:=by omega
   have D:=F1.size;go_wp2_with fail
   refine(jI b t r iN 41 m i).mono ?_;rintro e j ⟨rfl,c,a⟩;have v:=((y.aY (pO.aC a (λn f=>⟨f.2,by simp;omega⟩))).mono (B:=λn=>w.heap.size<=n/\n<j.heap.size) (λn f=>⟨f.1,a0t f.2 a.size⟩));have A:=(C.aC a (by simp;omega));have F2:=F1.aC a;clear a;cases k2:tk 41 r
   .rw[jw]at k2;go_wp2;go_ret;rw[d];simp only[k2];exact⟨rfl,⟨_,_,c⟩,F2⟩
   rw[vE k2]at c;have c:=c;rw[jw]at k2;go_wp2;go_ret;rw[d];simp only[k2];exact⟨eb,iN,rfl,v,c,A,F2⟩
def ahu(k nest:Nat)(c:UInt8)(r:LB):ik (k+1) nest (c::r) =
 if c==40 then M0 k nest r
 else if c==91 then (nT r).map (λx=>(.one x.1,x.2))
 else if c==46 then some (.one fU,r)
 else if c==92 then (match r with | []=>none|d::r2=>some (.one (2 ^ d.toNat),r2))
 else if iI c then none
 else some (.one (2 ^ c.toNat),r):=by
 conv=>lhs;unfold ik
 simp only[]
 split
 .rfl
 split
 .cases nT r with
  | none=>rfl
  | some x=>obtain⟨s,q⟩:=x;rfl
 rfl
theorem adA{c:Nat}:pU 0 c (c+1-c)=2 ^ c:=by rw[show c+1-c=1 by omega];simp[pU]
def BF{base:Nat} {e:Ending}
 (h:∃(eb:Nat) (iN:Value),e=zR (zP eb)/\w.heap.size<=eb/\XB w' eb s/\PA w' b t l iN/\BL base w' iN (S++[s])/\FP base b w w'):XP base b t S w (some (.one s,l)) e w' :=
 SP.xp (p:=some (s,l)) h
def rT:wd 0 0=0/\wd 0 1=0/\wd 0 2=0/\wd 0 3=0:=by decide
def XP.ret{base:Nat} {p:Option (RX × LB)} {e:Ending}(h:XP base b t S w p e w'):∃q,e=zR (.pointer q):=by
 cases p with
 | none=>exact⟨_,h.1⟩
 | some x=>obtain⟨eb,iN,a,_⟩:=h;exact⟨_,a⟩
def afm:zF 166 #[.agg #[.int .u64 0,.int .u64 0,.int .u64 0,.int .u64 0]] w λe w'=>e=zR (bv fU)/\aB [] w w':=by
 have h:=WY 0 w;unfold bv at h;rw[rT.1,rT.2.1,rT.2.2.1,rT.2.2.2]at h;have e:aly 0=fU:=by decide
 rw[e]at h;exact h
def Oy {k:Nat}(hC:alA k):afl (k+1):=by
 intro base b nest t l vs S w H HS hb _ hS hn hk;have V:b<w.heap.size:=by omega
 delta zF;go_in
 go_wp2_with fail
 refine(Bj b t l vs w H).mono ?_;rintro e I ⟨rfl,y,aZ⟩;have X:=(HS.aC aZ (by simp;omega));have F1:=FP.Tk (base:=base) aZ;have:=aZ.size;cases l with
 | nil=>go_wp2;go_ret;exact⟨rfl,⟨_,_,y⟩,F1⟩
 | cons c r =>
   have f:=ahu k nest c r;simp[a1L]at y;simp[a0r]at hS hk;rw[JQ];have M:=Iy c 40 (by omega);have W:=Iy c 91 (by omega);have A:=Iy c 46 (by omega);have P:=Iy c 92 (by omega);have v:=Iy c 41 (by omega);have J:=Iy c 124 (by omega);have i:=Iy c 42 (by omega);have h:=Iy c 43 (by omega);have g:=Iy c 63 (by omega);have C:=Iy c 123 (by omega);have a:=Iy c 125 (by omega);have z:=Iy c 93 (by omega);have:=c.toNat_lt;cases UZ:(c==40)
   case true =>
    have f40:((c.toNat:Int)==40)=true:=M.trans UZ;rw[UZ]at f;have G:=aaY hC base b nest t r vs S I y X hb (by omega) (by omega) hn (by omega);go_wp2_with fail
    refine G.mono ?_;intro e E m;have X2:=m.fpl F1 V;obtain⟨q,rfl⟩:=m.ret;go_wp2;go_ret;rw[f];exact X2
   have:((c.toNat:Int)==40)=false:=M.trans UZ;rw[UZ]at f;cases Sc:(c==91)
   case true =>
    have f91:((c.toNat:Int)==91)=true:=W.trans Sc;rw[Sc]at f;have G:=aaX base b t r vs S I y X hb (by omega) (by omega);go_wp2_with fail
    refine G.mono ?_;intro e E m;obtain⟨q,rfl⟩:=m.xp.ret;go_wp2;go_ret;rw[f];exact m.xp.fpl F1 V
   have:((c.toNat:Int)==91)=false:=W.trans Sc;rw[Sc]at f;cases Sd:(c==46)
   case true =>
    have f46:((c.toNat:Int)==46)=true:=A.trans Sd;rw[Sd]at f;go_wp2_with fail
    refine(afm).mono ?_;rintro e E ⟨rfl,N⟩;have u:aB [] I E:=zJ.trans N;have G:=(Cw base b t r vs S fU E (y.aC u (by simp)) (X.aC u (by simp)) hb (by have:=u.size;omega) (by omega));have F2:=F1.aC (u.mono (by simp));go_wp2_with fail
    refine G.mono ?_;intro e _ m;obtain⟨q,rfl⟩:=(BF m).ret;go_wp2;go_ret;rw[f];exact (BF m).fpl F2 V
   have:((c.toNat:Int)==46)=false:=A.trans Sd;rw[Sd]at f;cases Z:(c==92)
   case true =>
    have f92:((c.toNat:Int)==92)=true:=P.trans Z;rw[Z]at f;go_wp2_with fail
    refine(Bj b t r vs I y).mono ?_;rintro e E ⟨rfl,P2,N⟩;have F2:=F1.aC N;have:=N.size;cases r with
    | nil=>go_wp2;go_ret;rw[f];exact⟨rfl,⟨_,_,P2⟩,F2⟩
    | cons d r2 =>
      rw[JQ];have:=d.toNat_lt;simp[a1L]at P2;simp[a0r]at hS;have O:∀o,o=Obj.cells #[.int .u64 0,.int .u64 0,.int .u64 0,.int .u64 0] 218->SB (E.alloc o) E.heap.size (wd 0 0) (wd 0 1) (wd 0 2) (wd 0 3):=by intro o ho;rw[ho,rT.1,rT.2.1,rT.2.2.1,rT.2.2.2];exact SB.new rfl
      go_wp2_with fail
      refine(aaW E.heap.size 0 d.toNat d.toNat _ (by omega) (by omega) (O _ rfl)).mono ?_;rintro e T ⟨rfl,R,U⟩;rw[adA]at R;have u:aB [] E T:=((aB.refl [] E).alloc _).fresh U (a0b _);have G:=(Cw base b t r2 vs S (2 ^ d.toNat) T (P2.aC u (by simp)) ((X.aC N (by simp;omega)).aC u (by simp)) hb (by have:=u.size;omega) (by omega));have F4:=F2.aC (u.mono (by simp));obtain⟨q0,q1,q2,q3⟩:=R.cells;go_wp2_with fail
      refine G.mono ?_;intro e w5 m;have X5:=(BF m).fpl F4 V;obtain⟨q,rfl⟩:=(BF m).ret;go_wp2;go_ret;rw[f];exact X5
   have:((c.toNat:Int)==92)=false:=P.trans Z;rw[Z]at f;have n:iI c=(c==41||c==124||c==42||c==43||c==63||c==123||c==125||c==93):=rfl;cases D:(c==41)
   case true =>
    have f41:((c.toNat:Int)==41)=true:=v.trans D;have p:iI c=true:=by rw[n,D];rfl
    rw[p]at f;go_wp2;go_ret;rw[f];exact⟨rfl,⟨_,_,y⟩,F1⟩
   have:((c.toNat:Int)==41)=false:=v.trans D;cases F:(c==124)
   case true =>
    have f124:((c.toNat:Int)==124)=true:=J.trans F;have p:iI c=true:=by rw[n,D,F];rfl
    rw[p]at f;go_wp2;go_ret;rw[f];exact⟨rfl,⟨_,_,y⟩,F1⟩
   have:((c.toNat:Int)==124)=false:=J.trans F;cases j:(c==42)
   case true =>
    have f42:((c.toNat:Int)==42)=true:=i.trans j;have p:iI c=true:=by rw[n,D,F,j];rfl
    rw[p]at f;go_wp2;go_ret;rw[f];exact⟨rfl,⟨_,_,y⟩,F1⟩
   have:((c.toNat:Int)==42)=false:=i.trans j;cases s:(c==43)
   case true =>
    have f43:((c.toNat:Int)==43)=true:=h.trans s;have p:iI c=true:=by rw[n,D,F,j,s];rfl
    rw[p]at f;go_wp2;go_ret;rw[f];exact⟨rfl,⟨_,_,y⟩,F1⟩
   have:((c.toNat:Int)==43)=false:=h.trans s;cases x:(c==63)
   case true =>
    have f63:((c.toNat:Int)==63)=true:=g.trans x;have p:iI c=true:=by rw[n,D,F,j,s,x];rfl
    rw[p]at f;go_wp2;go_ret;rw[f];exact⟨rfl,⟨_,_,y⟩,F1⟩
   have:((c.toNat:Int)==63)=false:=g.trans x;cases B:(c==123)
   case true =>
    have f123:((c.toNat:Int)==123)=true:=C.trans B;have p:iI c=true:=by rw[n,D,F,j,s,x,B];rfl
    rw[p]at f;go_wp2;go_ret;rw[f];exact⟨rfl,⟨_,_,y⟩,F1⟩
   have:((c.toNat:Int)==123)=false:=C.trans B;cases Y:(c==125)
   case true =>
    have f125:((c.toNat:Int)==125)=true:=a.trans Y;have p:iI c=true:=by rw[n,D,F,j,s,x,B,Y];rfl
    rw[p]at f;go_wp2;go_ret;rw[f];exact⟨rfl,⟨_,_,y⟩,F1⟩
   have:((c.toNat:Int)==125)=false:=a.trans Y;cases L:(c==93)
   case true =>
    have f93:((c.toNat:Int)==93)=true:=z.trans L;have p:iI c=true:=by rw[n,D,F,j,s,x,B,Y,L];rfl
    rw[p]at f;go_wp2;go_ret;rw[f];exact⟨rfl,⟨_,_,y⟩,F1⟩
   have:((c.toNat:Int)==93)=false:=z.trans L;have p:iI c=false:=by rw[n,D,F,j,s,x,B,Y,L];rfl
   rw[p]at f;have O:∀o,o=Obj.cells #[.int .u64 0,.int .u64 0,.int .u64 0,.int .u64 0] 218->SB (I.alloc o) I.heap.size (wd 0 0) (wd 0 1) (wd 0 2) (wd 0 3):=by intro o ho;rw[ho,rT.1,rT.2.1,rT.2.2.1,rT.2.2.2];exact SB.new rfl
   go_wp2_with fail
   refine(aaW I.heap.size 0 c.toNat c.toNat _ (by omega) (by omega) (O _ rfl)).mono ?_;rintro e T ⟨rfl,R,U⟩;rw[adA]at R;have u:aB [] I T:=((aB.refl [] I).alloc _).fresh U (a0b _);obtain⟨_,_,_,_⟩:=R.cells;go_wp2_with fail
   refine (Cw base b t r vs S (2 ^ c.toNat) T (y.aC u (by simp)) (X.aC u (by simp)) hb (by have:=u.size;omega) (by omega)).mono ?_;intro e _ m;have X5:=(BF m).fpl (F1.aC (u.mono (by simp))) V;obtain⟨q,rfl⟩:=(BF m).ret;go_wp2;go_ret;rw[f];exact X5
def mE(k nest:Nat)(l:LB):Option (RX × LB) :=
 match ik k nest l with
 | none=>none
 | some (x,r)=>dQ (r.length+1) x r
def ati(k:Nat):Prop:=∀(base b nest:Nat) (t l:LB) (vs:Value) (S:LN) (w:World),PA w b t l vs->BL base w vs S->b<base->base<=w.heap.size->S.length+l.length<=100->nest<=5->4*l.length+2<=k ->
 zF 143 #[zP b,zI nest] w λe w'=>XP base b t S w (mE k nest l) e w'
def XW.new{lo:Int}(h:eb=w.heap.size):XW (w.alloc (.cells #[zI 3,.int .u64 0,.int .u64 0,.int .u64 0,.int .u64 0,zN,zP q,zI lo,zI hi] 221)) eb q lo hi:=by subst h;exact bD w _
def Tm {k:Nat}(Y:afl k):ati k:=by
 intro base b nest t l vs S w h M hb hz X c W;have A1:=Y base b nest t l vs S w h M hb hz X c W;have jE:b<w.heap.size:=by omega
 clear h M;delta zF;go_in
 go_wp2_with fail
 refine A1.mono ?_;intro e T A;cases C:ik k nest l with
 | none =>
   have E:mE k nest l=none:=by unfold mE;rw[C]
   rw[C]at A;obtain⟨rfl,⟨l',iN,f⟩,F1⟩:=A;obtain⟨G,J⟩:∃G:Option Addr,G=none:=⟨_,rfl⟩;rw[<-J];go_wp2_with fail
   go_loopg [5] 1 (λk F wr=>k=1/\F=.pointer G/\wr=T)
   exact⟨rfl,by rw[J],rfl⟩
   .obtain⟨H,rfl,rfl⟩:=hrel;go_wp2;go_ret;rw[E];exact⟨by subst J;rfl,⟨_,_,f⟩,F1⟩
 | some x =>
   obtain⟨x,r⟩:=x;have E:mE k nest l=dQ (r.length+1) x r:=by unfold mE;rw[C]
   rw[C]at A;obtain⟨eb,iN,rfl,o,f,u,F1⟩:=A;go_wp2_with fail
   go_loopg [5] (r.length+2) (λk F wr=>∃(q:Nat) (y:RX) (l':LB) (i:Nat),k=i+1/\l'.length+1<=i/\F=zP q/\XR (λn=>w.heap.size<=n/\n<wr.heap.size) wr q y/\dB y=dB x/\PA wr b t l' iN/\BL base wr iN (S++dB x)/\FP base b w wr/\dQ i y l'=dQ (r.length+1) x r)
   exact⟨eb,x,r,r.length+1,rfl,a0b _,rfl,o,rfl,f,u,F1,rfl⟩
   .clear o f u F1;obtain⟨q,y,l',i,H,JG,rfl,o,p,f,u,F1,R⟩:=hrel;obtain⟨k2,rfl⟩:∃k2,i=k2+1:=⟨i-1,by omega⟩;have s:dQ (r.length+1) x r=if DK l' then (match DJ l' with | none=>none|some (b,r)=>dQ k2 (.rep y b.1 b.2) r) else some (y,l'):=by rw[<-R];rfl
    have z1:=F1.size;clear R;go_wp2_with fail
    refine(Tj b t l' iN wr f).mono ?_;rintro e w2 ⟨rfl,z,rfl⟩;cases N:DK l'
    .have j:dQ (r.length+1) x r=some (y,l'):=by rw[s,N];rfl
     go_wp2;go_ret;rw[E,j];refine⟨q,iN,rfl,?_,f.drewN _,?_,F1.drewN _⟩
     .exact(o.aY (pO.aC ((aB.refl [] wr).drewN z) (λn c=>⟨c.2,by simp⟩))).mono (λn c=>c)
     rw[p];exact u
    have j:dQ (r.length+1) x r=match DJ l' with | none=>none|some (b,r)=>dQ k2 (.rep y b.1 b.2) r:=by rw[s,N];rfl
    go_wp2_with fail
    refine(Oa b t l' iN (wr.drewN z) (f.drewN z)).mono ?_;rintro e v ⟨a,m,ok,L,rfl,P,O,D⟩;have d:aB [b] wr v:=((aB.refl [b] wr).drewN z).trans O;have Z:=((o.aY (pO.aC d (λn c=>⟨c.2,by simp;omega⟩))).mono (B:=λn=>w.heap.size<=n/\n<v.heap.size) (λn c=>⟨c.1,a0t c.2 d.size⟩));have B3:=(u.aC d (by simp;omega));have F3:=F1.aC d;have z3:=d.size;clear O d;cases I:DJ l' with
    | none=>rw[I]at D j;obtain rfl:ok=false:=D;go_wp2;go_ret;rw[E,j];exact⟨rfl,⟨_,_,P⟩,F3⟩
    | some br =>
      obtain⟨⟨lo,hi⟩,U⟩:=br;have hlen:=(E9 I).1;have V:=vU lo hi;rw[I]at D j;obtain⟨rfl,rfl,rfl,rfl⟩:a=lo/\m=Yt hi/\ok=true/\L=U:=D;simp only at hlen;go_wp2;go_roundg (gk-1)
      .have g:=(aB.refl [] v).alloc (.cells #[zI 3,.int .u64 0,.int .u64 0,.int .u64 0,.int .u64 0,zN,zP q,zI lo,zI (Yt hi)] 221);refine⟨v.heap.size,.rep y lo hi,L,k2,by omega,by omega,rfl,?_,p,P.aC g (by simp),B3.aC g (by simp),F3.alloc _,j.symm⟩;simp only[XR];refine⟨⟨by omega,by simp⟩,q,XW.new rfl,?_⟩;exact(Z.aY (pO.aC g (λn c=>⟨c.2,by simp⟩))).mono (λn c=>⟨c.1,by simp;omega⟩)
      omega
def asn:(Tryz.prog.info? 204).map (λi=>(i.zero,i.size,i.bytes))=some (some (.pointer none),1,8):=by kernel_rfl
def LX(base:Nat)(w:World)(v:Value)(ps:LN):Prop:=w.ownsRow base 204 1 v ps.length (pv ps)
def aaZ {o:Oper} {Q:Exit->Act->World->Prop}(e:o.guard=none){s:Operand}
 (ho:o.op=.call { callee:=.builtin .append,args:=#[s,x],argTypes:=#[219,219] })
 (base:Nat) (v:Value) (ps:LN) (p b1:Nat) (i:a.eval s=v) (y:LX base w v ps) (b:a.eval x=zS b1 1 1)
 (k:zC w b1 0 (zP p)) (hlen:ps.length<=1048576) (d:base<=w.heap.size)
 (h:∀g cap w',LX base w' (zS g (ps.length+1) cap) (ps++[p])->w.grownBy w' v.ownBlock->(v.ownBlock=some g\/g=w.heap.size)->g<w'.heap.size->wpList Tryz.prog ops Q rest (a.put o.dst (zS g (ps.length+1) cap)) w') :
 wpList Tryz.prog ops Q (o::rest) a w:=by
 obtain⟨f,hi,gT,t,r⟩:=info_parts asn;refine wpList_append_lies w e s x 219 ho base 204 f (.pointer none) 1 8 Tryz.underlying219 hi gT t r rfl (by decide) v ps.length (pv ps) i y (zA b1) 1 1 [zP p] b rfl ?_ (λx b=>by simp at b;subst b;rfl) (by decide) (by unfold maxLen;omega) (by omega) d w.heap.size rfl ?_
 .intro j u c
  have:j=0:=by
   cases j with
   | zero=>rfl
   | succ j=>simp at c
  subst this;rw[add0];simp at c;rw[<-c];exact k
 intro g cap w' q n m l;exact h g cap w' (by unfold LX pv;simpa[pv] using q) n m l
def j6{t:TypeId}(h:w.heap.size=n):zC (w.alloc (.cells #[v] t)) n 0 v:=by subst h;simp
theorem anc:MZ l=tQ l:=by unfold MZ tQ;rw[jw,jw]
theorem ane{k nest:Nat}:jF (k+1) nest acc l=if tQ l then some (.seq acc,l) else match mE k nest l with | none=>none|some (y,r2)=>jF k nest (acc++[y]) r2:=by
 conv=>lhs;unfold jF
 unfold mE
 split
 .rfl
 cases ik k nest l with
 | none=>rfl
 | some x=>obtain⟨x,r⟩:=x;rfl
def Yw {k nest:Nat}{r:LB}(h:mE k nest l=some (y,r)):(dB y).length+r.length<=l.length/\r.length+1<=l.length:=by
 unfold mE at h
 split at h
 .simp at h
 rename_i x b a
 have c:=Kj a;have e2:=xJ h;rw[e2.1];omega
def XN.c5(h:XN w eb k v):zC w eb 5 v:=by unfold XN at h;simp[World.cell?,h]
theorem XN.fz(h:XN w eb k v)(o:Nat):w.frozen? (zB eb o)=false:=by unfold XN at h;simp[World.frozen?,h]
theorem XN.lt(h:XN w eb k v):eb<w.heap.size:=(a0c.1 h).1
def XN.awm(h:XN w eb k v){a:Value}:XN (w.setCell (zB eb 5) a) eb k a:=by unfold XN at h |-;simp[World.setCell,h,a0v]
def XN.new(h:eb=w.heap.size):XN (w.alloc (.cells #[zI k,.int .u64 0,.int .u64 0,.int .u64 0,.int .u64 0,zN,.pointer none,zI 0,zI 0] 221)) eb k zN:=by subst h;exact bD w _
theorem XN.aC(h:XN w eb k v)(f:aB S w w')(a:eb∉S):XN w' eb k v:=(f.block eb h.lt a).trans h
def XN.fp{base:Nat}(h:XN w eb k v)(f:FP base b w w')(hb:eb≠b):XN w' eb k v:=by refine(f.block eb h.lt hb (.inr ?_)).trans h;intro cur fz e;rw[h]at e;simp at e
def LX.fp{base base':Nat}(h:LX base' w v ps)(f:FP base b w w')(hb:b<base'):LX base' w' v ps:=by
 refine⟨h.1,?_⟩;rcases h.2 with d|⟨g,cap,cur,rfl,i,a,rest⟩
 .exact .inl d
 refine .inr ⟨g,cap,cur,rfl,i,(f.block g (a0c.1 a).1 (by omega) (.inr ?_)).trans a,rest⟩;intro c fz e;rw[a]at e;simp at e
structure GX(base b eb:Nat)(kd:Int)(t:LB)(S:LN)(w wr:World)(acc:List RX)(l':LB)(v iN:Value)(ps:LN):Prop where
 nd:XN wr eb kd v
 row:LX (eb+1) wr v ps
 kids:mD (λn=>eb<n/\n<wr.heap.size/\v.ownBlock≠some n) wr ps acc
 pa:PA wr b t l' iN
 bl:BL base wr iN (S++eT acc)
 fp:FP base b w wr
 eb:w.heap.size<=eb
 len:S.length+(eT acc).length+l'.length<=100
 few:acc.length+l'.length<=101
def GX.xv{base:Nat} {kd:Int}{wr:World}(h:GX base b eb kd t S w wr acc l' v iN ps) :
 (w.heap.size<=eb/\eb<wr.heap.size)/\XV (λk=>w.heap.size<=k/\k<wr.heap.size) wr v ps/\mD (λk=>w.heap.size<=k/\k<wr.heap.size) wr ps acc:=by
 refine⟨⟨h.eb,h.nd.lt⟩,⟨wQ h.row (a1G _),?_,?_⟩,h.kids.mono ?_⟩
 .intro k c;have:=h.row.lt k c;have:=h.eb;omega
 .have:=h.kids.len;have:=h.few;omega
 intro n a;have:=h.eb;exact⟨by omega,a.2.1⟩
theorem GX.drewN{base:Nat} {kd:Int}{wr:World}(n:Nat)(h:GX base b eb kd t S w wr acc l' v iN ps):GX base b eb kd t S w (wr.drewN n) acc l' v iN ps :=
 ⟨h.nd,h.row,(h.kids.aY (pO.aC ((aB.refl [] wr).drewN n) (λk a=>⟨a.2.1,by simp⟩))),h.pa.drewN n,h.bl,h.fp.drewN n,h.eb,h.len,h.few⟩
def GX.took{base:Nat} {kd:Int}{wr c:World}{l2:LB}(h:GX base b eb kd t S w wr acc l' v iN ps)(hb:b<base)(i:base<=w.heap.size)(f:aB [b] wr c)(e:PA c b t l2 iN)(g:l2.length<=l'.length):GX base b eb kd t S w c acc l2 v iN ps:=by have d:=h.eb;have hz:=f.size;refine⟨h.nd.aC f (by simp;omega),fG h.row f (by simp;omega),?_,e,h.bl.aC f (by simp;omega),h.fp.aC f,d,by have:=h.len;omega,by have:=h.few;omega⟩;exact(h.kids.aY (pO.aC f (λn a=>⟨a.2.1,by simp;omega⟩))).mono (λn a=>⟨a.1,by omega,a.2.2⟩)
def GX.step{base:Nat} {kd:Int}{wr c j:World}{C:LB}{i:Value}{g:Nat} {o:Obj}
 (h:GX base b eb kd t S w wr acc l' v iN ps) (hb:b<base) (ZU:base<=w.heap.size) (O:XR (λn=>wr.heap.size<=n/\n<c.heap.size) c q y) (J:PA c b t C i) (M:BL base c i (S++eT acc++dB y)) (m:FP base b wr c)
 (X:(dB y).length+C.length<=l'.length) (Y:acc.length+1+C.length<=101)
 (N:LX (eb+1) j (zS g (ps.length+1) cap) (ps++[q])) (B:(c.alloc o).grownBy j v.ownBlock) (F:v.ownBlock=some g\/g=(c.alloc o).heap.size) :
 GX base b eb kd t S w (j.setCell (zB eb 5) (zS g (ps.length+1) cap)) (acc++[y]) C (zS g (ps.length+1) cap) i (ps++[q]):=by
 have u:=h.eb;have Z:=h.nd.lt;have W:=m.size;have V:=B.size;have s:∀k,v.ownBlock=some k->eb+1<=k/\k<wr.heap.size:=λk d=>h.row.lt k d
 have I:(c.alloc o).heap.size=c.heap.size+1:=by simp
 rw[I]at V F;have F3:=(aB.refl [] c).alloc o;have F5:aB v.ownBlock.toList (c.alloc o) j:=aB.fo B;have D:=(aB.refl [eb] j).setCell (p:=(zB eb 5)) (.inl (by simp)) (zS g (ps.length+1) cap);have H:(j.setCell (zB eb 5) (zS g (ps.length+1) cap)).heap.size=j.heap.size:=by simp
 have x:∀k,k∈v.ownBlock.toList->v.ownBlock=some k:=λk d=>by rw[a0H]at d;exact d
 have n1:eb∉v.ownBlock.toList:=λl=>by have:=s _ (x _ l);omega
 have L:b∉v.ownBlock.toList:=λl=>by have:=s _ (x _ l);omega
 have aY:∀(A:Nat->Prop),(∀k,A k->k<c.heap.size/\eb<k/\v.ownBlock≠some k)->pO A c (j.setCell (zB eb 5) (zS g (ps.length+1) cap)):=by intro A R k d _;obtain⟨U,a2,T⟩:=R k d;rw[D.block k (by omega) (by simp;omega),F5.block k (by rw[I];omega) (λl=>T (x _ l)),F3.block k U (by simp)]
 have z:Value.ownBlock (zS g (ps.length+1) cap)=some g:=rfl;refine⟨?_,?_,?_,?_,?_,?_,u,?_,?_⟩
 .exact XN.awm (((h.nd.fp m (by omega)).aC F3 (by simp)).aC F5 n1)
 .have:=ownsRow_setCell_below N (a:=(zB eb 5)) (by simp) (zS g (ps.length+1) cap)
  exact this
 .refine mD.snoc ?_ ?_
  .have k1:=h.kids.aY (pO.fp m (λn f=>⟨f.2.1,by omega⟩))
   refine(k1.aY (aY _ (λn f=>⟨by omega,f.1,f.2.2⟩))).mono ?_;intro n f;refine⟨f.1,by rw[H];omega,?_⟩;rw[z];intro e;simp only[Option.some.injEq]at e;subst e;rcases F with e|e
   .exact f.2.2 e
   omega
  refine(O.aY (aY _ (λn f=>⟨f.2,by omega,λe=>by have:=s _ e;omega⟩))).mono ?_;intro n f;refine⟨by omega,by rw[H];omega,?_⟩;rw[z];intro e;simp only[Option.some.injEq]at e;subst e;rcases F with e|e
  .have:=s _ e;omega
  omega
 .exact((J.aC F3 (by simp)).aC F5 L).aC D (by simp;omega)
 .have b1:BL base c i (S++eT (acc++[y])):=by rw[yK,Ce,<-a0M];exact M
  refine jJ (jJ (b1.aC F3 (by simp)) F5 ?_) D ?_
  .intro k d
   have G:=x k d;obtain⟨cur,fz,e⟩:=Ip (h.row.fp m (by omega)) k G;refine .inr ⟨cur,204,fz,?_,by decide⟩;rw[F3.block k (by have:=s _ G;omega) (by simp)];exact e
  intro k d;simp at d;subst d;have:=((h.nd.fp m (by omega)).aC F3 (by simp)).aC F5 n1;exact .inr ⟨_,221,_,this,by decide⟩
 .refine FP.fresh ?_ D u
  have r:=(h.fp.trans m).aC (F3.mono (by simp));refine⟨B.os.trans r.os,B.tape.trans r.tape,B.output.trans r.output,a0h r.size F5.size,?_⟩;intro k d E P;rw[F5.block k (by have:=r.size;omega) (λl=>by have:=s _ (x _ l);omega)];exact r.block k d E P
 .rw[yK,Ce,a0p];have:=h.len;omega
 simp;omega
def Tn {K:Nat}(hA:∀k,k<K->ati k):alB K:=by
 intro base b nest t l vs S w H L hb hz hS X Z;have jE:b<w.heap.size:=by omega
 delta zF;go_in
 go_wp2_with fail
 go_loopg [] K (λk wr=>∃(acc:List RX) (l':LB) (v iN:Value) (ps:LN),GX base b w.heap.size 1 t S w wr acc l' v iN ps/\4*l'.length+3<=k/\k<=K/\jF k nest acc l'=jF K nest [] l)
 case atStart =>
  have h:=(aB.refl [] w).alloc (.cells #[zI 1,.int .u64 0,.int .u64 0,.int .u64 0,.int .u64 0,zN,.pointer none,zI 0,zI 0] 221);refine⟨[],l,zN,vs,[],⟨XN.new rfl,World.ownsRow_nil _ _ _ _,?_,H.aC h (by simp),?_,(FP.refl _ _ _).alloc _,a0b _,?_,?_⟩,Z,a0b _,rfl⟩
  .simp only[mD]
  .simpa[eT] using L.aC h (by simp)
  .simpa[eT] using hS
  simp;omega
 case round =>
  clear H L;obtain⟨acc,l',v,iN,ps,G,Y,JG,A⟩:=hrel;obtain⟨k2,rfl⟩:∃k2,gk=k2+1:=⟨gk-1,by omega⟩;have I:jF K nest [] l=if tQ l' then some (.seq acc,l') else match mE k2 nest l' with | none=>none|some (y,g)=>jF k2 nest (acc++[y]) g:=by rw[<-A,ane]
  clear A;go_wp2_with fail
  refine(Qs b t l' iN wr G.pa).mono ?_;rintro e T ⟨rfl,j,rfl⟩;rw[anc];cases J:tQ l'
  case true =>
   have d:jF K nest [] l=some (.seq acc,l'):=by rw[I,J];rfl
   go_wp2;go_ret;rw[d];have c:=G.drewN j;refine⟨w.heap.size,iN,rfl,?_,c.pa,c.bl,c.fp⟩;have:=c.xv;simp only[XR];exact⟨this.1,v,ps,c.nd,this.2.1,this.2.2⟩
  case false =>
   have d:jF K nest [] l=match mE k2 nest l' with | none=>none|some (y,g)=>jF k2 nest (acc++[y]) g:=by rw[I,J];rfl
   have c:=G.drewN j;clear G;have W:=c.fp.size;have R:=(hA k2 (by omega) base b nest t l' iN (S++eT acc) (wr.drewN j) c.pa c.bl hb (by omega) (by rw[a0p];exact c.len) X (by omega));generalize wr.drewN j=T at *;go_wp2_with fail
   refine R.mono ?_;intro e f m;cases s:mE k2 nest l' with
   | none=>rw[s]at m d;obtain⟨rfl,⟨l3,r,x⟩,C⟩:=m;have F3:=c.fp.trans C;clear C;obtain⟨B,N⟩:∃B:Option Addr,B=none:=⟨_,rfl⟩;rw[<-N];go_wp2;go_ret;rw[d];exact⟨by first | rfl|(subst N;rfl),⟨_,_,x⟩,F3⟩
   | some P =>
     obtain⟨y,g⟩:=P;have U:=Yw s;rw[s]at m d;obtain⟨q,r,rfl,X3,x,B3,F3⟩:=m;have i:=c.nd.fp F3 (by omega);have c5:=i.c5;have O:=i.fz 5;have M:=i.lt;have z:=c.row.fp F3 (by omega);obtain⟨a,cap,rfl⟩:=aW z;have xg:=F3.size;have SS:=c.few;have lV:ps.length<=101:=by have:=c.kids.len;omega
     have u:acc.length+1+g.length<=101:=by omega
     have E:Value.ownBlock (.slice a ps.length cap)≠some w.heap.size:=λe=>by have:=z.lt _ e;omega
     have gc:∀o:Obj,zC (f.alloc o) w.heap.size 5 (.slice a ps.length cap):=λo=>(((aB.refl [] f).alloc o).cell (p:=(zB w.heap.size 5)) M (by simp)).trans c5
     have gf:∀o:Obj,(f.alloc o).frozen? (zB w.heap.size 5)=false:=λo=>(((aB.refl [] f).alloc o).frozen (p:=(zB w.heap.size 5)) M (by simp)).trans O
     clear i;go_wp2_with (first | (at_builtin;refine aaZ rfl rfl (w.heap.size+1) (.slice a ps.length cap) ps q f.heap.size rfl (z.alloc _) rfl (j6 rfl) (by omega) (by simp;omega) ?_;intro gg aU w5 F n D V;have c6:=(n.cell_far (zB w.heap.size 5) (by simp;omega) (Ne.symm E)).trans (gc _);have z6:=(n.frozen_far (zB w.heap.size 5) (by simp;omega) (Ne.symm E)).trans (gf _);have G5:=c.step hb hz X3 x B3 F3 U.1 u F n D;clear F n D V))
     go_roundg k2;exact⟨_,_,_,_,_,G5,by omega,by omega,d.symm⟩;omega
def Qt(k nest:Nat)(acc:List RX)(l:LB):Option (RX × LB) :=
 if acc.isEmpty then iQ k nest [] l else if bA 124 l then iQ k nest acc l.tail else some (.alt acc,l)
def aa1(k nest:Nat)(acc:List RX)(l:LB):iQ (k+1) nest acc l=match jF k nest [] l with | none=>none|some (x,r)=>Qt k nest (acc++[x]) r:=by
 conv=>lhs;unfold iQ
 cases jF k nest [] l with
 | none=>rfl
 | some x =>
   obtain⟨x,r⟩:=x;have:(acc++[x]).isEmpty=false:=by cases acc<;>rfl
   simp only[Qt,this]
   rfl
def Yy {K:Nat}(hA:∀k,k<K->alB k):alA K:=by
 intro base b nest t l vs S w H HS hb hz hS hn hk;have jE:b<w.heap.size:=by omega
 delta zF;go_in
 go_wp2_with fail
 go_loopg [] K (λk wr=>∃(acc:List RX) (l':LB) (v iN:Value) (ps:LN),GX base b w.heap.size 2 t S w wr acc l' v iN ps/\(acc=[]->4*l'.length+4<=k)/\4*l'.length<=k/\k<=K/\Qt k nest acc l'=iQ K nest [] l)
 case atStart =>
  have F:=(aB.refl [] w).alloc (.cells #[zI 2,.int .u64 0,.int .u64 0,.int .u64 0,.int .u64 0,zN,.pointer none,zI 0,zI 0] 221);refine⟨[],l,zN,vs,[],⟨XN.new rfl,World.ownsRow_nil _ _ _ _,?_,H.aC F (by simp),?_,(FP.refl _ _ _).alloc _,a0b _,?_,?_⟩,λ_=>hk,by omega,a0b _,rfl⟩
  .simp only[mD]
  .simpa[eT] using HS.aC F (by simp)
  .simpa[eT] using hS
  simp;omega
 case round =>
  clear H HS;obtain⟨acc,l',v,iN,ps,G0,E,JG,Vo,U⟩:=hrel;have iG:=G0.row;obtain⟨a,cap,rfl⟩:=aW iG;have c5:=G0.nd.c5;have z:=G0.kids.len;have SS:=G0.few;cases acc with
  | nil =>
    have D:ps.length=0:=by simpa using z
    have kM:((ps.length:Int)==0)=true:=by rw[D];rfl
    have hk4:=E rfl;obtain⟨k2,rfl⟩:∃k2,gk=k2+1:=⟨gk-1,by omega⟩;have h:iQ K nest [] l=match jF k2 nest [] l' with | none=>none|some (x,r)=>Qt k2 nest ([]++[x]) r:=by rw[<-U];unfold Qt;simp only[List.isEmpty_nil,a0G];exact aa1 k2 nest [] l'
    have hzr:=G0.fp.size;have hlen:=G0.len;simp only[eT,a1e]at hlen;have axQ:l'.length<=100:=by omega
    have Q:=(hA k2 (by omega) base b nest t l' iN (S++eT []) wr G0.pa G0.bl hb (by omega) (by simp[eT];omega) hn (by omega));clear U iG z D hlen;go_wp2_with fail
    refine Q.mono ?_;intro e c f;cases m:jF k2 nest [] l' with
    | none=>rw[m]at f h;obtain⟨rfl,⟨l3,j,u⟩,I⟩:=f;have F3:=G0.fp.trans I;clear I;obtain⟨C,T⟩:∃C:Option Addr,C=none:=⟨_,rfl⟩;rw[<-T];go_wp2;go_ret;rw[h];exact⟨by first | rfl|(subst T;rfl),⟨_,_,u⟩,F3⟩
    | some X =>
      obtain⟨y,Y⟩:=X;have B:=yL m;simp only[eT,a1e,a1n]at B;rw[m]at f h;obtain⟨q,j,rfl,X3,u,B3,F3⟩:=f;have d:=G0.nd.fp F3 (by omega);have c5:=d.c5;have W:=d.fz 5;have P:=d.lt;have O:=G0.row.fp F3 (by omega);have xg:=F3.size;have z:ps.length<=101:=by have:=G0.kids.len;have:=G0.few;omega
      have s:(([]:List RX)).length+1+Y.length<=101:=by simp;omega
      have L:Value.ownBlock (.slice a ps.length cap)≠some w.heap.size:=λe=>by have:=O.lt _ e;omega
      have gc:∀o:Obj,zC (c.alloc o) w.heap.size 5 (.slice a ps.length cap):=λo=>(((aB.refl [] c).alloc o).cell (p:=(zB w.heap.size 5)) P (by simp)).trans c5
      have gf:∀o:Obj,(c.alloc o).frozen? (zB w.heap.size 5)=false:=λo=>(((aB.refl [] c).alloc o).frozen (p:=(zB w.heap.size 5)) P (by simp)).trans W
      clear d;go_wp2_with (first | (at_builtin;refine aaZ rfl rfl (w.heap.size+1) (.slice a ps.length cap) ps q c.heap.size rfl (O.alloc _) rfl (j6 rfl) (by omega) (by simp;omega) ?_;intro gg aU w5 N g J Z;have c6:=(g.cell_far (zB w.heap.size 5) (by simp;omega) (Ne.symm L)).trans (gc _);have z6:=(g.frozen_far (zB w.heap.size 5) (by simp;omega) (Ne.symm L)).trans (gf _);have G5:=G0.step hb hz X3 u B3 F3 B.1 s N g J;clear N g J Z))
      go_roundg k2;exact⟨_,_,_,_,_,G5,λe=>by simp at e,by omega,by omega,h.symm⟩;omega
  | cons x0 awn =>
    have bJ:¬ ps.length=0:=by rw[z];simp
    have kM:((ps.length:Int)==0)=false:=a0j.2 (by omega);generalize M:x0::awn=acc at *;have hae:acc.isEmpty=false:=by rw[<-M];rfl
    have n:iQ K nest [] l=if bA 124 l' then iQ gk nest acc l'.tail else some (.alt acc,l'):=by rw[<-U];unfold Qt;rw[hae];rfl
    clear U E z M;go_wp2_with fail
    refine(jI b t l' iN 124 wr G0.pa).mono ?_;rintro e w2 ⟨rfl,A,V⟩;cases k2:tk 124 l'
    case false =>
     rw[wU k2]at A;have R:=G0.took hb hz V A (a0b _);rw[jw]at k2;have Hr:iQ K nest [] l=some (.alt acc,l'):=by rw[n,k2];rfl
     clear A V;go_wp2;go_ret;rw[Hr];refine⟨w.heap.size,iN,rfl,?_,R.pa,R.bl,R.fp⟩;have:=R.xv;simp only[XR];exact⟨this.1,_,ps,R.nd,this.2.1,this.2.2⟩
    case true =>
     rw[vE k2]at A;have Bh:=jg (by rw[<-jw];exact k2);have G:=G0.took hb hz V A (by omega);rw[jw]at k2;have axR:acc.length+1+l'.tail.length<=101:=by omega
     obtain⟨i,rfl⟩:∃i,gk=i+1:=⟨gk-1,by omega⟩;have h:iQ K nest [] l=match jF i nest [] l'.tail with | none=>none|some (x,r)=>Qt i nest (acc++[x]) r:=by rw[n,k2];exact aa1 i nest acc l'.tail
     have hzr:=G.fp.size;have hlen:=G.len;have Q:=(hA i (by omega) base b nest t l'.tail iN (S++eT acc) w2 G.pa G.bl hb (by omega) (by rw[a0p];exact hlen) hn (by omega));clear A V G0 n hlen c5;go_wp2_with fail
     refine Q.mono ?_;intro e c f;cases m:jF i nest [] l'.tail with
     | none=>rw[m]at f h;obtain⟨rfl,⟨l3,j,u⟩,I⟩:=f;have F3:=G.fp.trans I;clear I;obtain⟨C,T⟩:∃C:Option Addr,C=none:=⟨_,rfl⟩;rw[<-T];go_wp2;go_ret;rw[h];exact⟨by first | rfl|(subst T;rfl),⟨_,_,u⟩,F3⟩
     | some X =>
       obtain⟨y,Y⟩:=X;have B:=yL m;simp only[eT,a1e,a1n]at B;rw[m]at f h;obtain⟨q,j,rfl,X3,u,B3,F3⟩:=f;have d:=G.nd.fp F3 (by omega);have c5:=d.c5;have W:=d.fz 5;have P:=d.lt;have O:=G.row.fp F3 (by omega);have xg:=F3.size;have z:ps.length<=101:=by have:=G.kids.len;have:=G.few;omega
       have s:(acc).length+1+Y.length<=101:=by omega
       have L:Value.ownBlock (.slice a ps.length cap)≠some w.heap.size:=λe=>by have:=O.lt _ e;omega
       have gc:∀o:Obj,zC (c.alloc o) w.heap.size 5 (.slice a ps.length cap):=λo=>(((aB.refl [] c).alloc o).cell (p:=(zB w.heap.size 5)) P (by simp)).trans c5
       have gf:∀o:Obj,(c.alloc o).frozen? (zB w.heap.size 5)=false:=λo=>(((aB.refl [] c).alloc o).frozen (p:=(zB w.heap.size 5)) P (by simp)).trans W
       clear d;go_wp2_with (first | (at_builtin;refine aaZ rfl rfl (w.heap.size+1) (.slice a ps.length cap) ps q c.heap.size rfl (O.alloc _) rfl (j6 rfl) (by omega) (by simp;omega) ?_;intro gg aU w5 N g J Z;have c6:=(g.cell_far (zB w.heap.size 5) (by simp;omega) (Ne.symm L)).trans (gc _);have z6:=(g.frozen_far (zB w.heap.size 5) (by simp;omega) (Ne.symm L)).trans (gf _);have G5:=G.step hb hz X3 u B3 F3 B.1 s N g J;clear N g J Z))
       go_roundg i;exact⟨_,_,_,_,_,G5,λe=>by simp at e,by omega,by omega,h.symm⟩;omega
def ahv:∀K,alA K/\alB K/\(∀k,k+1=K->afl K):=by
 intro K
 induction K using Nat.strongRecOn with
 | _ K c =>
   have e:∀k,k<K->afl k:=by
    intro k a;cases k with
    | zero=>intro base b nest t l vs S w _ _ _ _ _ _ f;omega
    | succ k=>exact Oy (c k (by omega)).1
   have d:alB K:=Tn (λk a=>Tm (e k a));refine⟨Yy (λk a=>(c k a).2.1),d,?_⟩;rintro k rfl;exact Oy (c k (by omega)).1
def PlC(x:RX):Prop:=∀(A:Nat->Prop) (w:World) (p:Nat),XR A w p x->uO x->jX x<=100 ->
 zF 113 #[zP p] w λe w'=>e=zR (zI (dI x))/\w=w'
theorem XB.c0(h:XB w eb s):zC w eb 0 (zI 0):=by unfold XB at h;simp[World.cell?,h]
theorem XN.c0(h:XN w eb k v):zC w eb 0 (zI k):=by unfold XN at h;simp[World.cell?,h]
theorem XW.c0{lo:Int}(h:XW w eb q lo hi):zC w eb 0 (zI 3):=by unfold XW at h;simp[World.cell?,h]
def XW.c6{lo:Int}(h:XW w eb q lo hi):zC w eb 6 (zP q):=by unfold XW at h;simp[World.cell?,h]
theorem XW.c7{lo:Int}(h:XW w eb q lo hi):zC w eb 7 (zI lo):=by unfold XW at h;simp[World.cell?,h]
theorem XW.c8{lo:Int}(h:XW w eb q lo hi):zC w eb 8 (zI hi):=by unfold XW at h;simp[World.cell?,h]
def mD.get {A:Nat->Prop}:∀{ps:LN} {l:List RX},mD A w ps l->∀(j:Nat) (a:j<l.length),∃p,ps[j]?=some p/\XR A w p l[j]
 | [],[],_,j,a=>by simp at a
 | p::ps,x::l,h,j,a=>by
   simp only[mD]at h;cases j with
   | zero=>exact⟨p,rfl,h.1⟩
   | succ j=>obtain⟨q,c,b⟩:=mD.get h.2 j (by simpa using a);exact⟨q,by simpa using c,by simpa using b⟩
 | [],_::_,h,_,_=>by simp only[mD]at h
 | _::_,[],h,_,_=>by simp only[mD]at h
theorem XV.cell {A:Nat->Prop}{g:Nat}(h:XV A w (zS g n cap) ps){p:Nat}(b:ps[j]?=some p):zC w g j (zP p):=by have a:=World.ownsRow.cells h.1 (g:=g) rfl j (zP p) (by simp[pv,b]);rw[add0]at a;exact a
def ahw(l:List RX)(j:Nat)(d:j<l.length):bV (l.take (j+1))=bV (l.take j)+dI l[j]:=by
 have app:∀(a b:List RX),bV (a++b)=bV a+bV b:=by
  intro a b
  induction a with
  | nil=>simp[bV]
  | cons x a c=>simp only[a0L,bV,c];omega
 rw[a0F d,app];simp[bV]
def M3:∀{l:List RX} {e:RX},mZ l->e∈l->uO e
 | x::r,e,h,he=>by
   rcases a0l.1 he with a|a
   .rw[a];exact h.1
   exact M3 h.2 a
def aa2(l:List RX)(hd:mZ l)(ht:gu l<=100)(j:Nat):bV (l.take j)<=40000:=by
 have b:∀(l:List RX) (j:Nat),bV (l.take j)<=bV l:=by
  intro l
  induction l with
  | nil=>intro j;simp[bV]
  | cons x r a =>
    intro j;cases j with
    | zero=>simp[bV]
    | succ j=>have:=a j;simp only[a2J,bV];omega
 have d:=MJ hd;have c:=b l j;omega
def ahx(s:Nat):PlC (.one s):=by
 intro A w p h hd ht;simp only[XR]at h;have c0:=h.2.c0;delta zF;go_in
 go_wp2;go_ret;exact⟨rfl,rfl⟩
def Oz(A:Nat->Prop)(w:World)(p:Nat)(kd:Int)(v:Value)(ps:LN)(l:List RX)(o:kd=1\/kd=2)(i:XN w p kd v)(b:XV A w v ps)(s:mD A w ps l)(hd:mZ l)(ht:gu l<=100)(E:∀y∈l,PlC y) :
 zF 113 #[zP p] w λe w'=>e=zR (zI (bV l))/\w=w':=by
 obtain⟨a,cap,rfl⟩:=aW b.1;have c0:=i.c0;have c5:=i.c5;have x:=s.len;have G:=ht;have k0:(kd==0)=false:=a0j.2 (by omega);have L:(kd==3)=false:=a0j.2 (by omega);have u:∀j,bV (l.take j)<=40000:=λj=>aa2 l hd ht j
 have I:ps.length<=1048576:=by have:=b.2.2;omega
 clear ht i o;delta zF;go_in
 go_wp2_with fail
 go_loopg [3,21] ps.length (λk B C wr=>∃(j:Nat),j+k=ps.length/\C=zI j/\B=zI (bV (l.take j))/\wr=w)
 exact⟨0,by omega,rfl,rfl,rfl⟩
 .obtain⟨j,M,rfl,rfl,F⟩:=hrel;subst F
  by_cases O:j<ps.length
  .have f:j<l.length:=by have:=x;omega
   obtain⟨q,hq,r⟩:=s.get j f;obtain⟨g,rfl⟩:∃g,a=some (zA g):=by
    rcases b.1.2 with⟨e,h⟩|⟨g,c,cur,e,_⟩
    .simp at e;omega
    simp at e;exact⟨g,e.1⟩
   have N:=b.cell hq;have d:=a0u f;have t:=ahw l j f;have J:=u j;have D:=u (j+1);rw[t]at D;have z:jX l[j]<=100:=by have:=(Bu d).2;have:=G;omega
   have PR:=E _ d _ _ _ r (M3 hd d) z;generalize dI l[j]=m at *;generalize bV (l.take j)=n at *;clear r d z hq;go_wp2_with fail
   refine PR.mono ?_;rintro e H ⟨rfl,rfl⟩;go_wp2;go_roundg (gk-1);exact⟨j+1,by omega,by go_num,by rw[t];go_num,rfl⟩;omega
  have ht:l.take j=l:=a0C (by have:=x;omega);rw[ht];go_wp2;go_ret;exact⟨rfl,rfl⟩
def ahy(x:RX)(lo:Nat)(hi:Option Nat)(i:PlC x):PlC (.rep x lo hi):=by
 intro A w p h hd ht;simp only[XR]at h;obtain⟨v,q,b,j⟩:=h;have c0:=b.c0;have c6:=b.c6;have c7:=b.c7;have c8:=b.c8;have l:=vU lo hi;simp only[jX]at ht;have PR:=i A w q j hd.1 (by omega);have s:=ZN hd.1;have u:=hd.2.1;have k:=hd.2.2;have c:dI (.rep x lo hi)=if 40<dI x then dI x else dI x*times lo hi:=rfl;clear b j hd i;have t:zF 124 #[zP p] w λe w'=>e=zR (zI (dI (.rep x lo hi)))/\w=w':=by
  generalize dI x=n at *
  by_cases g:40<n
  .have a:dI (.rep x lo hi)=n:=by rw[c,a0m g]
   delta zF;go_in
   go_wp2_with fail
   refine PR.mono ?_;rintro e d ⟨rfl,rfl⟩;go_wp2;go_ret;rw[a];exact⟨rfl,rfl⟩
  cases hi with
  | none =>
    have a:dI (.rep x lo none)=n*(lo+1):=by rw[c,a0n g];rfl
    have r:n*(lo+1)<=40*10:=a0D (by omega) (by omega);delta zF;go_in
    go_wp2_with fail
    refine PR.mono ?_;rintro e d ⟨rfl,rfl⟩;simp only[Yt]at c8;have f:(n:Int)*((lo:Int)+1)=((n*(lo+1):Nat):Int):=by simp
    generalize n*(lo+1)=z at *;go_wp2;go_ret;rw[a];exact⟨by first | rfl|(rw[<-f];rfl),rfl⟩
  | some m =>
    have o:=k m rfl;have a:dI (.rep x lo (some m))=n*m:=by rw[c,a0n g];rfl
    have r:n*m<=40*9:=a0D (by omega) (by omega);have y:((m:Int) == -1)=false:=a0j.2 (by omega);delta zF;go_in
    go_wp2_with fail
    refine PR.mono ?_;rintro e d ⟨rfl,rfl⟩;simp only[Yt]at c8;have f:(n:Int)*(m:Int)=((n*m:Nat):Int):=by simp
    generalize n*m=z at *;go_wp2;go_ret;rw[a];exact⟨by first | rfl|(rw[<-f];rfl),rfl⟩
 clear c;delta zF;go_in
 go_wp2_with fail
 refine t.mono ?_;rintro e d ⟨rfl,rfl⟩;go_wp2;go_ret;exact⟨rfl,rfl⟩
def ahz(l:List RX)(a:∀y∈l,PlC y):PlC (.seq l):=by intro A w p h hd ht;simp only[XR]at h;obtain⟨e,v,ps,d,c,b⟩:=h;exact Oz A w p 1 v ps l (.inl rfl) d c b hd ht a
def ahA(l:List RX)(a:∀y∈l,PlC y):PlC (.alt l):=by intro A w p h hd ht;simp only[XR]at h;obtain⟨e,v,ps,d,c,b⟩:=h;simp only[jX]at ht;exact Oz A w p 2 v ps l (.inr rfl) d c b hd (by omega) a
mutual
theorem Lb:∀(x:RX),PlC x
 | .one s=>ahx s
 | .seq l=>ahz l (Iz l)
 | .alt l=>ahA l (Iz l)
 | .rep x lo hi=>ahy x lo hi (Lb x)
theorem Iz:∀(l:List RX),∀y∈l,PlC y
 | [],y,a=>by simp at a
 | x::r,y,a=>by
   rcases a0l.1 a with h|h
   .rw[h];exact Lb x
   exact Iz r y h
end
def WP(base b:Nat)(t:LB)(w:World)(p:Option RX)(e:Ending)(w':World):Prop :=
 match p with
 | some x=>∃(eb:Nat) (iN:Value),e=zR (zP eb)/\XR (λk=>w.heap.size<=k/\k<w'.heap.size) w' eb x/\PA w' b t [] iN/\BL base w' iN (dB x)/\FP base b w w'
 | none=>e=zR (.pointer none)/\FP base b w w'
def aj6(base b:Nat)(t:LB)(w:World)(h:PA w b t t zN)(hb:b<base)(hz:base<=w.heap.size)(ht:t.length<=100) :
 zF 112 #[zP b] w λe w'=>WP base b t w (fF t) e w':=by
 have a:fF t=match iQ (4*t.length+4) 0 [] t with | some (x,[])=>some x|_=>none:=rfl;have:=bL t;delta zF;go_in
 go_wp2_with fail
 refine ((ahv (4*t.length+4)).1 base b 0 t t zN [] w h (BL.nil _ _) hb hz (by simp;exact ht) (by omega) (a0b _)).mono ?_;intro e m f;cases o:iQ (4*t.length+4) 0 [] t with
 | none =>
   rw[o]at f a;obtain⟨rfl,⟨_,iN,i,d,s⟩,F⟩:=f;have c0:=d.c0;have c1:=d.c1;have hi:=d.2.1
   by_cases g:i<t.length
   .go_wp2_with fail
    go_quiet (fail)
    go_wp2;go_ret;rw[a];exact⟨rfl,F.drewN _⟩
   go_wp2_with fail
   go_quiet (fail)
   go_wp2;go_ret;rw[a];exact⟨rfl,F.drewN _⟩
 | some p =>
   obtain⟨x,r⟩:=p;rw[o]at f a;obtain⟨eb,iN,rfl,X,⟨i,P,D⟩,B,F⟩:=f;have:=P.c0;have:=P.c1;have:=P.2.1
   by_cases g:i<t.length
   .obtain⟨_,c⟩:=(drop_cons D).1 g;have l:fF t=none:=by rw[a,c]
    go_wp2_with fail
    go_quiet (fail)
    go_wp2;go_ret;rw[l];exact⟨rfl,F.drewN _⟩
   have l:fF t=some x:=by rw[a,(drop_cons D).2 g]
   go_wp2_with fail
   go_quiet (fail)
   go_wp2;go_ret;rw[l];refine⟨eb,iN,rfl,?_,⟨i,P.drewN _,?_⟩,?_,F.drewN _⟩
   .exact(X.aY (pO.aC ((aB.refl [] m).drewN _) (λn j=>⟨j.2,by simp⟩))).mono (λn j=>j)
   .exact(drop_cons D).2 g ▸ D
   have b2:BL base m iN (dB x):=by simpa using B
   exact b2
def afn(w0 w1 w2 w3:Nat)(q r:Nat)(w:World)(hq:q<4)(hr:r<64)(h0:w0<18446744073709551616)(h1:w1<18446744073709551616)(h2:w2<18446744073709551616)(h3:w3<18446744073709551616) :
 zF 154 #[.agg #[.int .u64 w0,.int .u64 w1,.int .u64 w2,.int .u64 w3],.int .u8 (64*q+r:Nat)] w λe w'=>e=zR (.bool ((if q=0 then w0 else if q=1 then w1 else if q=2 then w2 else w3).testBit r))/\w'=w.alloc (.cells #[.int .u64 w0,.int .u64 w1,.int .u64 w2,.int .u64 w3] 218):=by
 have hd:((64*q+r:Nat):Int).tdiv 64=q:=by rw[a2z (by omega)];omega
 have hm:((64*q+r:Nat):Int).tmod 64=r:=by rw[a2f (by omega)];omega
 have aL:64*q+r<256:=by omega
 generalize 64*q+r=c at *;rcases(by omega:q=0\/q=1\/q=2\/q=3) with rfl|rfl|rfl|rfl
 ·delta zF;go_in
  go_wp2;go_ret;exact⟨by rw[<-zZ h0];rfl,rfl⟩
 ·delta zF;go_in
  go_wp2;go_ret;exact⟨by rw[<-zZ h1];rfl,rfl⟩
 ·delta zF;go_in
  go_wp2;go_ret;exact⟨by rw[<-zZ h2];rfl,rfl⟩
 delta zF;go_in
 go_wp2;go_ret;exact⟨by rw[<-zZ h3];rfl,rfl⟩
def aso(s:Nat)(c:Nat)(w:World)(a:c<256) :
 zF 154 #[.agg #[.int .u64 (wd s 0),.int .u64 (wd s 1),.int .u64 (wd s 2),.int .u64 (wd s 3)],.int .u8 c] w λe w'=>e=zR (.bool (s.testBit c))/\w'=w.alloc (.cells #[.int .u64 (wd s 0),.int .u64 (wd s 1),.int .u64 (wd s 2),.int .u64 (wd s 3)] 218):=by
 have h:=afn (wd s 0) (wd s 1) (wd s 2) (wd s 3) (c / 64) (c % 64) w (by omega) (a3i _ (by decide)) (jv _ _) (jv _ _) (jv _ _) (jv _ _);rw[show 64*(c / 64)+c % 64=c by omega]at h;have e:(if c / 64=0 then wd s 0 else if c / 64=1 then wd s 1 else if c / 64=2 then wd s 2 else wd s 3).testBit (c % 64)=s.testBit c:=by
  have b:c / 64<4:=by omega
  have key:(wd s (c / 64)).testBit (c % 64)=s.testBit c:=by rw[zk (a3i _ (by decide)),show 64*(c / 64)+c % 64=c by omega]
  rw[<-key];rcases(by omega:c / 64=0\/c / 64=1\/c / 64=2\/c / 64=3) with h|h|h|h<;>simp[h]
 rw[e]at h;exact h
def apart(S:LN)(a b:Nat):Bool:=S.any λs=>s.testBit a != s.testBit b
theorem BL.cell {base:Nat}{g:Nat}(h:BL base w (zS g n cap) S)(d:S[j]?=some s)(k:Nat)(b:k<4):w.cell? (zB g (j*4+k))=(Ea s)[k]?:=by have c:=flat_get Ea 4 (λa=>rfl) S j k s d b;have e:=World.ownsRow.cells h (g:=g) rfl (j*4+k);have f:k<(Ea s).length:=b;rw[a0a f]at c |-;have:=e _ c;rw[add0]at this;exact this
def aa3(base:Nat)(vs:Value)(S:LN)(a b:Nat)(w:World)(q:BL base w vs S)(J:a<256)(hb:b<256)(L:S.length<=1000) :
 zF 144 #[vs,.int .u8 a,.int .u8 b] w λe w'=>e=zR (.bool (apart S a b))/\aB [] w w':=by
 obtain⟨r,cap,rfl⟩:=aW q;delta zF;go_in
 go_wp2_with fail
 go_loopg [11] S.length (λk v wr=>∃(j:Nat),j+k=S.length/\v=zI j/\apart (S.drop j) a b=apart S a b/\aB [] w wr)
 exact⟨0,by omega,rfl,rfl,zK⟩
 .obtain⟨j,I,rfl,p,F⟩:=hrel
  by_cases t:j<S.length
  .have o:BL base wr (.slice r S.length cap) S:=q.aC F (by simp)
   obtain⟨g,rfl⟩:∃g,r=some (zA g):=by
    rcases o.2 with⟨e,h⟩|⟨g,c,cur,e,_⟩
    .omega
    simp at e;exact⟨g,e.1⟩
   have i:S[j]?=some S[j]:=a0a t;have f:=λk x=>o.cell i k x
   have u:S.drop j=S[j]::S.drop (j+1):=a0k t;generalize S[j]=s at *;have H:zC wr g (j*4) (.int .u64 (wd s 0)):=f 0 (by omega);have G:zC wr g (j*4+1) (.int .u64 (wd s 1)):=f 1 (by omega);have E:zC wr g (j*4+2) (.int .u64 (wd s 2)):=f 2 (by omega);have D:zC wr g (j*4+3) (.int .u64 (wd s 3)):=f 3 (by omega);have n:apart S a b=((s.testBit a != s.testBit b)||apart (S.drop (j+1)) a b):=by rw[<-p,u];rfl
   have z:=(λ(c:Nat) (f:c<256) (w:World)=>aso s c w f);generalize s.testBit=fb at *;clear f o i p u;generalize wd s 0=C at *;generalize wd s 1=s1 at *;generalize wd s 2=s2 at *;generalize wd s 3=B at *;go_wp2_with fail
   go_region_with (go_at_call 154;refine(z _ (by assumption) _).mono ?_;rintro e A ⟨rfl,rfl⟩)
   all_goals
    cases m:fb a
    .cases l:fb b
     .have d:apart (S.drop (j+1)) a b=apart S a b:=by rw[n,m,l];rfl
      go_wp2;go_roundg (gk-1);exact⟨j+1,by omega,by go_num,d,((((F.alloc _).alloc _).alloc _).drew)⟩;omega
     have d:apart S a b=true:=by rw[n,m,l];rfl
     go_wp2;go_ret;rw[d];exact⟨rfl,((((F.alloc _).alloc _).alloc _).drew)⟩
    cases l:fb b
    .have d:apart S a b=true:=by rw[n,m,l];rfl
     go_wp2;go_ret;rw[d];exact⟨rfl,((((F.alloc _).alloc _).alloc _).drew)⟩
    have d:apart (S.drop (j+1)) a b=apart S a b:=by rw[n,m,l];rfl
    go_wp2;go_roundg (gk-1);exact⟨j+1,by omega,by go_num,d,((((F.alloc _).alloc _).alloc _).drew)⟩;omega
  have y:apart S a b=false:=by rw[<-p,a0i (by omega)];rfl
  go_wp2;go_ret;rw[y];exact⟨rfl,F⟩
def NL(k:IntKind)(w:World)(v:Value)(L:LN):Prop :=
 ∃a cap,v=.slice a L.length cap/\∀(j:Nat) (h:j<L.length),∃g off,a=some (zB g off)/\g<w.heap.size/\w.cell? (zB g (off+j))=some (.int k L[j])
theorem NL.aC {k:IntKind}(h:NL k w v L)(f:aB S w w')(e:∀a n c,v=.slice (some a) n c->a.block∉S):NL k w' v L:=by obtain⟨a,cap,rfl,l⟩:=h;refine⟨a,cap,rfl,?_⟩;intro j d;obtain⟨g,off,rfl,b,i⟩:=l j d;exact⟨g,off,rfl,a0t b f.size,(f.cell (p:=(zB g (off+j))) b (e (zB g off) _ _ rfl)).trans i⟩
def aj7(v:Value)(L:LN)(n:Nat)(w:World)(l:NL .i64 w v L)(s:L.length<=1048576) :
 zF 129 #[v,zI n] w λe w'=>e=zR (zI (L.findIdx (·==n)))/\w=w':=by
 obtain⟨a,cap,rfl,p⟩:=l;delta zF;go_in
 go_wp2_with fail
 go_loopg [9] L.length (λk h wr=>∃(j:Nat),j+k=L.length/\h=zI j/\wr=w/\j+(L.drop j).findIdx (·==n)=L.findIdx (·==n))
 exact⟨0,by omega,rfl,rfl,by simp⟩
 .obtain⟨j,q,rfl,i,c⟩:=hrel;subst i
  by_cases f:j<L.length
  .obtain⟨g,off,rfl,_,r⟩:=p j f
   have hd:L.drop j=L[j]::L.drop (j+1):=a0k f;rw[hd,List.findIdx_cons]at c;generalize L[j]=m at *;cases b:(m==n)
   .have hb:((m:Int)==(n:Int))=false:=by rw[a0j];intro e;simp at b;omega
    rw[b]at c;have d:Z_ ((j+1)+(L.drop (j+1)).findIdx (·==n)=L.findIdx (·==n)):=by show _=_;simp at c;omega
    clear c hd;go_wp2;go_roundg (gk-1);exact⟨j+1,by omega,by go_num,rfl,d⟩;omega
   have hb:((m:Int)==(n:Int))=true:=by rw[a0W];simp at b;omega
   rw[b]at c;have d:Z_ (L.findIdx (·==n)=j):=by show _=_;simp at c;omega
   clear c hd;go_wp2;go_ret;rw[d.o];exact⟨rfl,rfl⟩
  have d:Z_ (L.findIdx (·==n)=L.length):=by show _=_;rw[<-c,a0i (by omega)];simp;omega
  clear c;go_wp2;go_ret;rw[d.o];exact⟨rfl,rfl⟩
def kU(S F:LN)(c:Nat):Nat:=F.findIdx λf=>!(apart S f c)
def afo(base:Nat)(vs v:Value)(S F:LN)(c:Nat)(w:World)(s:BL base w vs S)(z:NL .u8 w v F)(C:S.length<=1000)(hF:F.length<=1000)(y:∀f∈F,f<256)(B:c<256) :
 zF 134 #[vs,v,.int .u8 c] w λe w'=>e=zR (zI (kU S F c))/\aB [] w w':=by
 obtain⟨a,cap,rfl,D⟩:=z;obtain⟨o,q,rfl⟩:=aW s;delta zF;go_in
 go_wp2_with fail
 go_loopg [11] F.length (λk x wr=>∃(j:Nat),j+k=F.length/\x=zI j/\aB [] w wr/\j+kU S (F.drop j) c=kU S F c)
 exact⟨0,by omega,rfl,zK,by simp⟩
 .obtain⟨j,G,rfl,i,b⟩:=hrel
  by_cases r:j<F.length
  .obtain⟨g,off,rfl,A,t⟩:=D j r
   have E:=(i.cell (p:=(zB g (off+j))) A (by simp)).trans t;have n:=y _ (a0u r);have hd:F.drop j=F[j]::F.drop (j+1):=a0k r;rw[hd]at b;unfold kU at b;rw[List.findIdx_cons]at b;generalize F[j]=m at *;have T:=aa3 base (.slice o S.length q) S m c wr (s.aC i (by simp)) n B C;clear t hd;cases l:apart S m c
   .rw[l]at b
    have h:kU S F c=j:=by unfold kU;simp at b;omega
    clear b;rw[l]at T;go_wp2_with fail
    refine T.mono ?_;rintro e u ⟨rfl,d⟩;have F2:=i.trans d;clear d;go_wp2;go_ret;rw[h];exact⟨rfl,F2⟩
   rw[l]at b;have h:(j+1)+kU S (F.drop (j+1)) c=kU S F c:=by unfold kU;simp at b;omega
   clear b;rw[l]at T;go_wp2_with fail
   refine T.mono ?_;rintro e u ⟨rfl,d⟩;have F2:=i.trans d;clear d;go_wp2;go_roundg (gk-1);exact⟨j+1,by omega,by go_num,F2,h⟩;omega
  have h:kU S F c=F.length:=by rw[<-b,a0i (by omega)];unfold kU;simp;omega
  clear b;go_wp2;go_ret;rw[h];exact⟨rfl,i⟩
def UL(base:Nat)(w:World)(v:Value)(L:LN):Prop:=w.ownsRow base 5 1 v L.length (nv .u8 L)
def IL(base:Nat)(w:World)(v:Value)(L:LN):Prop:=w.ownsRow base 3 1 v L.length (nv .i64 L)
def xV {k:IntKind} {base:Nat}(h:w.ownsRow base e 1 v L.length (nv k L)):NL k w v L:=by
 obtain⟨a,cap,rfl⟩:=aW h;refine⟨a,cap,rfl,?_⟩;intro j i;rcases h.2 with⟨b,m⟩|⟨g,c,cur,b,l,f,_⟩
 .omega
 simp at b;obtain⟨rfl,rfl⟩:=b;have d:=World.ownsRow.cells h (g:=g) rfl j (.int k L[j]) (by simp[nv,i]);rw[add0]at d;exact⟨g,0,rfl,(a0c.1 f).1,by simpa using d⟩
theorem apQ {o:Oper} {Q:Exit->Act->World->Prop}(d:o.guard=none){s:Operand}
 (ho:o.op=.call { callee:=.builtin .append,args:=#[s,x],argTypes:=#[210,210] })
 (base:Nat) (v:Value) (L:LN) (n b1:Nat) (f:a.eval s=v) (k:UL base w v L) (b:a.eval x=zS b1 1 1)
 (l:zC w b1 0 (.int .u8 n)) (hlen:L.length<=1048576) (c:base<=w.heap.size)
 (h:∀g cap w',UL base w' (zS g (L.length+1) cap) (L++[n])->w.grownBy w' v.ownBlock->(v.ownBlock=some g\/g=w.heap.size)->g<w'.heap.size->wpList Tryz.prog ops Q rest (a.put o.dst (zS g (L.length+1) cap)) w') :
 wpList Tryz.prog ops Q (o::rest) a w:=by
 obtain⟨e,hi,gT,j,i⟩:=info_parts ak6;refine wpList_append_lies w d s x 210 ho base 5 e (.int .u8 0) 1 1 Tryz.underlying210 hi gT j i rfl (by decide) v L.length (nv .u8 L) f k (zA b1) 1 1 [.int .u8 n] b rfl ?_ (λx b=>by simp at b;subst b;rfl) (by decide) (by unfold maxLen;omega) (by omega) c w.heap.size rfl ?_
 .grind [add0]
 grind [UL,nv]
theorem vG {o:Oper} {Q:Exit->Act->World->Prop}(d:o.guard=none){s:Operand}
 (ho:o.op=.call { callee:=.builtin .append,args:=#[s,x],argTypes:=#[117,117] })
 (base:Nat) (v:Value) (L:LN) (n b1:Nat) (f:a.eval s=v) (k:IL base w v L) (b:a.eval x=zS b1 1 1)
 (l:zC w b1 0 (zI n)) (hlen:L.length<=10000000000000) (c:base<=w.heap.size)
 (h:∀g cap w',IL base w' (zS g (L.length+1) cap) (L++[n])->w.grownBy w' v.ownBlock->(v.ownBlock=some g\/g=w.heap.size)->g<w'.heap.size->wpList Tryz.prog ops Q rest (a.put o.dst (zS g (L.length+1) cap)) w') :
 wpList Tryz.prog ops Q (o::rest) a w:=by
 obtain⟨e,hi,gT,j,i⟩:=info_parts ZB;refine wpList_append_lies w d s x 117 ho base 3 e (zI 0) 1 8 Tryz.underlying117 hi gT j i rfl (by decide) v L.length (nv .i64 L) f k (zA b1) 1 1 [zI n] b rfl ?_ (λx b=>by simp at b;subst b;rfl) (by decide) (by unfold maxLen;omega) (by omega) c w.heap.size rfl ?_
 .grind [add0]
 grind [IL,nv]
def gP(S:LN):Nat->LN
 | 0=>[]
 | c+1=>if kU S (gP S c) c==(gP S c).length then gP S c++[c] else gP S c
def Xa(S:LN)(c:Nat):LN:=(List.range c).map λi=>kU S (gP S i) i
theorem xW(S:LN):∀c,(gP S c).length<=c/\∀f∈gP S c,f<c
 | 0=>by simp[gP]
 | c+1=>by
   have h:=xW S c;simp only[gP]
   split
   .grind
   grind
def adD(S F:LN)(c:Nat):kU S F c<=F.length:=a2U
def tu(S:LN)(c:Nat):LB:=S.map λs=>if s.testBit c then 49 else 48
def alD:∀(S:LN) (a b:Nat),(tu S a==tu S b)=!(apart S a b)
 | [],a,b=>rfl
 | s::S,a,b=>by
   have c:=alD S a b;have e:(tu (s::S) a==tu (s::S) b)=(((if s.testBit a then (49:UInt8) else 48)==(if s.testBit b then 49 else 48))&&(tu S a==tu S b)):=by simp[tu,List.cons_beq_cons]
   rw[e,c];simp only[apart,a3m];cases s.testBit a<;>cases s.testBit b<;>simp<;>decide
def anf(S F:LN)(c:Nat):(oI (F.map (tu S)) (tu S c)<0/\(kU S F c==F.length)=true)\/(0<=oI (F.map (tu S)) (tu S c)/\(kU S F c==F.length)=false):=by
 unfold oI kU;have h:∀f,(tu S f==tu S c)=!(apart S f c):=λf=>alD S f c
 rw[List.findIdx?_map];cases a:List.findIdx? ((λx=>x==tu S c) ∘ tu S) F with
 | none =>
   left
   refine⟨by simp,?_⟩;rw[a2C]at a;have:F.findIdx (λf=>!(apart S f c))=F.length:=by rw[List.findIdx_eq_length];intro x d;have:=a x d;simp only[Function.comp]at this;rw[<-h x];exact this
   rw[this];simp
 | some i =>
   right
   refine⟨by simp,?_⟩;rw[a2e]at a;obtain⟨hi,b,_⟩:=a;have e:F.findIdx (λf=>!(apart S f c))<F.length:=by rw[List.findIdx_lt_length];refine⟨F[i],a0u hi,?_⟩;simp only[Function.comp]at b;rw[<-h];exact b
   simp only[a0j];omega
def OV.other{b:TypeId} {base:Nat}{c:Value}{UK:List Value}(i:OV b base w c UK)(h:OV e2 base w v2 xs2)(j:b≠e2)(f:w.grownBy w' c.ownBlock):OV e2 base w' v2 xs2:=by
 refine jJ h (aB.fo f) ?_;intro k a
 right
 rcases i.2 with⟨e,l⟩|⟨g,cap,cur,e,hb,d,rest⟩
 .rw[e]at a;simp[Value.ownBlock]at a
 rw[e]at a;simp[Value.ownBlock]at a;subst a;exact⟨cur,b,_,d,j⟩
def OV.sl {base:Nat} {L:List LB}(h:OV 9 base w v (sv L)):SL base w v L:=by unfold OV at h;rw[arJ]at h;exact h
def ang(S:LN)(c i s:Nat)(h:S[i]?=some s):(tu S c).take (i+1)=(tu S c).take i++[if s.testBit c then 49 else 48]:=by
 rw[a1c]
 congr 1
 simp[tu,h]
def afp(w:World)(p:Nat)(t:TR)(h:RN w p t)(hl:(kP t).length<=1000) :
 zF 82 #[zP p] w λe w'=>∃v,e=zR v/\OV 3 w.heap.size w' v (nv .i64 (gP (kP t) 256))/\aB [] w w':=by
 have A:=(yO t w w p zN [] h zK (OV.nil _ _ _) (by simp;omega));clear h;obtain⟨S,HS⟩:∃S,kP t=S:=⟨_,rfl⟩;rw[HS]at hl |-;delta zF;go_in
 go_wp2_with fail
 refine A.mono ?_;rintro e w1 ⟨v1,qs,rfl,D,F1,X⟩;rw[HS]at X;obtain⟨al,E,cl,rfl,l⟩:=D.open;have Kv:qs.length=S.length:=X.len;have V:E=S.length:=by rw[l];simp;exact Kv
 clear l A;subst V;simp only[a0V]at D;go_wp2_with fail
 go_loopg [4,5,6] 256 (λk v4 v5 v6 wr=>∃(c:Nat) (F:LN),c+k=256/\v6=zI c/\F=gP S c/\OV 9 w.heap.size wr v4 (sv (F.map (tu S)))/\OV 3 w.heap.size wr v5 (nv .i64 F)/\OV 106 w.heap.size wr (.slice al S.length cl) (qs.map aM)/\aB [] w wr)
 exact⟨0,[],rfl,rfl,rfl,OV.nil _ _ _,OV.nil _ _ _,D,F1⟩
 .clear D F1;obtain⟨c,F,hck,rfl,HF,d,C,Y,Fr⟩:=hrel;have gT:=Fr.size;have r:F.length<=c/\∀f∈F,f<c:=by rw[HF];exact xW S c
  obtain⟨W,m,c4,rfl,n⟩:=d.open;obtain⟨a5,G,c5,rfl,NV⟩:=C.open;have Hn4:Z_ (m=F.length):=by show _=_;rw[n];simp[sv]
  have Hn5:Z_ (G=F.length):=by show _=_;rw[NV];simp[nv]
  have ax5:=r.1;have ax6:=Kv;clear n NV r;obtain⟨b,Vg⟩:∃b,b=wr:=⟨_,rfl⟩;subst Vg;obtain⟨go,iD⟩:∃go,go=gk:=⟨_,rfl⟩;subst iD
  by_cases aL:c<256
  .go_wp2_with fail
   go_loopg [7,8] S.length (λk v7 v8 wr=>∃(i:Nat),i+k=S.length/\v8=zI i/\v7=zT ((tu S c).take i)/\b=wr)
   exact⟨0,by omega,rfl,rfl,rfl⟩
   .obtain⟨i,Ku,rfl,rfl,rfl⟩:=hrel;have l:(tu S c).length=S.length:=by simp[tu]
    have Bh:((tu S c).take i).length=i:=by rw[a1k,l];omega
    have eG:=bL ((tu S c).take i);rw[Bh]at eG
    by_cases hi:i<S.length
    .obtain⟨s,J⟩:∃s,S[i]?=some s:=⟨S[i],a0a hi⟩
     obtain⟨q,hq,uT⟩:=X.get i s J;obtain⟨g3,rfl,_,_,JK⟩:=Y.cell (j:=i) (u:=aM q) (by rw[a0Q,hq];rfl);unfold aM at JK;have z:RN b q (.one s):=RN.aY (dX.of Fr) uT;have kG:=RK.cin z c (s.testBit c) (Ib s c aL);have Ht:=ang S c i s J;have Z:=mf ((tu S c).take i);have x:bs [49]=⟨#[49]⟩:=rfl;have y:bs [48]=⟨#[48]⟩:=rfl;have U:=Z [49];have T:=Z [48];rw[x]at U;rw[y]at T;clear uT z hq J Z x y;cases Rw:s.testBit c
     all_goals
      rw[Rw]at kG Ht;simp only[a0A,a0I,a0G]at Ht;go_wp2;go_roundg (gk-1);exact⟨i+1,by omega,by go_num,by rw[Ht],rfl⟩;omega
    have M:i=S.length:=by omega
    subst M;have I:(tu S c).take S.length=tu S c:=a0C (by rw[l];exact a0b _);rw[I]at eG |-;clear Bh;have RSn:RS 0 b (.slice W m c4) (F.map (tu S)):=(d.sl.rs (by rw[a0y];omega)).base (a1G _);have NF:=wh (.slice W m c4) (F.map (tu S)) (tu S c) b RSn;clear RSn;go_wp2_with fail
    refine NF.mono ?_;rintro e w2 ⟨rfl,rfl⟩;have g:Z_ (gP S (c+1)=if kU S F c==F.length then F++[c] else F):=by show _=_;rw[HF];rfl
    rcases anf S F c with⟨P,O⟩|⟨P,O⟩
    .rw[O]at g
     simp only[a0G]at g;generalize oI (F.map (tu S)) (tu S c)=fi at P |-;go_wp2_with (first | (at_builtin;refine DL rfl 48 9 16 uY Tryz.underlying48 rfl rfl w.heap.size (.slice W m c4) (sv (F.map (tu S))) (m+1) b.heap.size (zT (tu S c)) (by rw[Hn4.o];simp[sv]) rfl (d.aC zG (by simp)) rfl (mi rfl) rfl (by simp[sv];omega) (by simp[sv];omega) (by simp;omega) ?_;intro g7 atm w7 O7 a R H;have B:=OV.other (d.aC zG (by simp)) (C.aC zG (by simp)) (by decide) a;have P3:=OV.other (d.aC zG (by simp)) (Y.aC zG (by simp)) (by decide) a;have F7:=(Fr.alloc _).grown a (λk L=>.inr (d.base k L));have z7:=a.size;clear a R H)|(at_builtin;refine DL rfl 117 3 8 ZB Tryz.underlying117 rfl rfl w.heap.size (.slice a5 G c5) (nv .i64 F) (G+1) w7.heap.size (zI c) (by rw[Hn5.o];simp[nv]) rfl (B.aC zG (by simp)) rfl (mi rfl) rfl (by simp[nv];omega) (by simp[nv];omega) (by simp at z7 |-;omega) ?_;intro g8 ax7 w8 O8 a R H;have Q4:=OV.other (B.aC zG (by simp)) (O7.aC zG (by simp)) (by decide) a;have Q3:=OV.other (B.aC zG (by simp)) (P3.aC zG (by simp)) (by decide) a;have F8:=(F7.alloc _).grown a (λk L=>.inr (B.base k L));clear a R H))
     go_roundg (go-1)
     .refine⟨c+1,F++[c],by omega,by go_num,g.o.symm,?_,?_,Q3,F8⟩
      .have:=Q4
       simpa[sv] using this
      have:=O8;simpa[nv] using this
     omega
    rw[O]at g;simp only[a0A,a0I]at g;generalize oI (F.map (tu S)) (tu S c)=fi at P |-;go_wp2;go_roundg (go-1);exact⟨c+1,F,by omega,by go_num,g.o.symm,d,C,Y,Fr⟩;omega
  have N:c=256:=by omega
  subst N;go_wp2;go_ret;refine⟨_,rfl,?_,Fr⟩;rw[<-HF];exact C
def OZ(e:TypeId)(z:Value)(base:Nat)(w:World)(v:Value)(xs:List Value):Prop:=∃g m,v=zS g xs.length (xs.length+m)/\base<=g/\xs.length+m<=maxLen /\
 w.heap[g]?=some (.cells (xs++List.replicate m z).toArray e (0,0))
def OZ.ov {z:Value} {base:Nat}(h:OZ e z base w v xs):OV e base w v xs:=by obtain⟨g,m,rfl,hb,a,b⟩:=h;refine⟨by simp,.inr ⟨g,xs.length+m,_,by simp,hb,b,by simp,a,by simp,?_⟩⟩;simp
theorem OZ.aC {z:Value} {base:Nat}(h:OZ e z base w v xs)(f:aB S w w')(d:∀k,k∈S->k<base):OZ e z base w' v xs:=by obtain⟨g,m,rfl,hb,b,a⟩:=h;exact⟨g,m,rfl,hb,b,(f.block g (a0c.1 a).1 (λc=>by have:=d g c;omega)).trans a⟩
def OZ.other {z:Value} {base:Nat}(h:OZ e z base w v xs)(j:OV e2 base w v2 xs2)(k:e2≠e)(i:w.grownBy w' v2.ownBlock):OZ e z base w' v xs:=by
 obtain⟨g,m,rfl,hb,f,b⟩:=h;refine⟨g,m,rfl,hb,f,(i.block g (a0c.1 b).1 ?_).trans b⟩;intro a;rcases j.2 with⟨d,l⟩|⟨n,cap,cur,d,hb,c,rest⟩
 .rw[d]at a;simp[Value.ownBlock]at a
 rw[d]at a;simp[Value.ownBlock]at a;subst a;rw[b]at c;simp at c;exact k c.2.symm
def OZ.lit {z:Value} {base:Nat}(w:World)(u:Value)(hb:base<=w.heap.size):OZ e z base (w.alloc (.cells #[u] e)) (zS w.heap.size 1 1) [u] :=
 ⟨w.heap.size,0,by simp,hb,by unfold maxLen;simp,heap_alloc_new w _⟩
theorem aj8(z:Value)(hz:z.cells=#[z]){k:Nat}:Builtin.zeroCells z.cells k=(List.replicate k z).toArray:=by
 rw[hz];apply Array.ext
 .simp[Builtin.zeroCells]
 intro i b a;simp[Builtin.zeroCells,Nat.mod_one]
theorem KT.row {z:Value} {g m:Nat} {u:Value}(he:e≠173)(hz:∀q,z≠.pointer (some q))(c:w.heap[g]?=some (.cells (xs++List.replicate (m+1) z).toArray e (0,0))) :
 KT w (w.setRow g (xs++[u]++List.replicate m z).toArray):=by
 refine⟨λk cur fz b=>setRow_other w g k _ ?_,λk j q b=>?_⟩
 .grind
 by_cases a:k=g
 .subst a
  rw[cell_setRow_same w k j _ _ _ _ c];rw[cell_of_row w k j _ _ _ c]at b;simp only[List.getElem?_toArray]at b |-
  by_cases d:j<xs.length
  .grind
  grind
 have:=setRow_other w g k (xs++[u]++List.replicate m z).toArray a;unfold World.cell? at b |-;simp only[this];exact b
theorem afq {o:Oper} {Q:Exit->Act->World->Prop}(L:o.guard=none){s:Operand}(t e:TypeId)(z:Value)(E:Nat)
 (V:(Tryz.prog.info? e).map (λi=>(i.zero,i.size,i.bytes))=some (some z,1,E)) (ht:Tryz.prog.underlying t=some (.slice e)) (U:z.cells=#[z]) (he:e≠173) (p:∀q,z≠.pointer (some q)) (I:E<=1000)
 (ho:o.op=.call { callee:=.builtin .append,args:=#[s,x],argTypes:=#[t,t] })
 (base:Nat) (v:Value) (xs:List Value) (N b1:Nat) (u:Value) (R:N=xs.length+1) (G:a.eval s=v) (T:OZ e z base w v xs) (F:a.eval x=zS b1 1 1)
 (Y:zC w b1 0 u) (M:u.oneCell'=true) (hlen:xs.length<=1000) (J:base<=w.heap.size)
 (h:∀g cap w',OZ e z base w' (zS g N cap) (xs++[u])->w.grownBy w' v.ownBlock->KT w w'->wpList Tryz.prog ops Q rest (a.put o.dst (zS g N cap)) w') :
 wpList Tryz.prog ops Q (o::rest) a w:=by
 subst R;obtain⟨f,hi,gT,n,S⟩:=info_parts V;obtain⟨g,m,rfl,hb,X,l⟩:=T;have d:∀j y,[u][j]?=some y->w.cell? (((zA b1):Addr).add j)=some y:=by grind [add0]
 have W:(xs.length+1)*E<=1001*1000:=a0D (by omega) I;refine wpList_plain L λ_ H=>?_
 by_cases D:m=0
 .subst D
  have c:=run_append_grow (P:=Tryz.prog) w t o.type e f z ht hi gT (zA g) xs.length (xs.length+0) xs (by simp[n]) (by intro j y O;rw[show((zA g):Addr).add j=(zB g j) by rw[Addr.add_mid];simp,cell_of_row w g j _ _ _ l];simpa using O) (zA b1) 1 1 [u] (by simp[n]) d (by omega) (by omega) (by rw[S];exact growslice_fits (by omega) (by omega))
  have A:=grownCap_ge w (xs.length+1) (xs.length+0) e;have C:grownCap w (xs.length+1) (xs.length+0) e<=maxLen:=grownCap_le_maxLen w (xs.length+1) _ _ (by unfold maxLen;omega);rw[aj8 z U]at c;generalize grownCap w (xs.length+1) (xs.length+0) e=gc at c A C;have he:xs.toArray++[u].toArray++(List.replicate (gc-(xs.length+1)) z).toArray=(xs++[u]++List.replicate (gc-(xs.length+1)) z).toArray:=by simp
  rw[he]at c;unfold Oper.wp execOp;simp only[ho,resolve,invoke,builtin,Sem.run_bind,Sem.run_pure,Result.andThen_ok,List.map_toArray,a0E,a1V,G,F,c];refine H _ _ (h _ _ _ ?_ ?_ ?_)
  .refine⟨w.heap.size,gc-(xs.length+1),?_,J,?_,?_⟩
   .simp;omega
   .simp;omega
   exact heap_alloc_new w.drew _
  .exact⟨rfl,rfl,rfl,by simp,λk r _=>heap_alloc_old w.drew _ r⟩
  exact KT.aC (((aB.refl [] w).drew).alloc _)
 obtain⟨b,rfl⟩:∃b,m=b+1:=⟨m-1,by omega⟩;have c:=run_append_room (P:=Tryz.prog) w t o.type e f ht hi g xs.length (xs.length+(b+1)) _ l (zA b1) 1 1 [u] (by simp[n]) d (by simpa using M) (by omega) (by simp[n]);have B:((xs++List.replicate (b+1) z).toArray.toList.take (xs.length*f.size)++[u]++(xs++List.replicate (b+1) z).toArray.toList.drop (xs.length*f.size + [u].length)).toArray=(xs++[u]++List.replicate b z).toArray:=by simp_all
 rw[B]at c;unfold Oper.wp execOp;simp only[ho,resolve,invoke,builtin,Sem.run_bind,Sem.run_pure,Result.andThen_ok,List.map_toArray,a0E,a1V,G,F,c];refine H _ _ (h _ _ _ ?_ ?_ ?_)
 .refine⟨g,b,?_,hb,?_,setRow_heap w g _ _ _ _ l⟩
  .simp;omega
  simp;omega
 .exact⟨rfl,rfl,rfl,by simp,λk _ r=>setRow_other w g k _ (λe=>r (by simp[Value.ownBlock,e]))⟩
 exact KT.row he p l
end
section
variable {B S Z:LN} {w w' w1 x:World} {e:Ending} {a ak b cap fb i j k n s t vb xb:Nat} {v va vp:Value} {xs:List Value} {D R U:List NF} {d y:NF}
def anh {base:Nat} {e:TypeId}{size:Nat}(h:w.ownsRow base e size v n xs)(f:aB S w w')(c:∀k,v.ownBlock=some k->k∉S):w'.ownsRow base e size v n xs:=by
 refine⟨h.1,?_⟩;rcases h.2 with b|⟨g,cap,cur,rfl,hb,a,rest⟩
 .exact .inl b
 refine .inr ⟨g,cap,cur,rfl,hb,?_,rest⟩;rw[f.block g (a0c.1 a).1 (c g rfl)];exact a
def Xb(S:LN)(c:Nat):LN:=Xa S c++List.replicate (256-c) 0
def aj9(S:LN)(c:Nat)(b:c<256):(Xb S c).set c (kU S (gP S c) c)=Xb S (c+1):=by
 unfold Xb Xa;rw[a1v _ _ (by simp)];simp only[a0y,List.length_range,a2v];rw[List.range_succ,a0P,a0M]
 congr 1
 obtain⟨k,a⟩:∃k,256-c=k+1:=⟨255-c,by omega⟩;rw[a,show 256-(c+1)=k by omega,List.replicate_succ]
 rfl
def aa6(base b:Nat)(vs:Value)(S F1 CL:LN)(va y:Value)(w:World)(B:gP S 256=F1)(i:Xa S 256=CL)(V:BL base w vs S)(I:AB w b 0 (List.replicate 256 0) va y)(hS:S.length<=1000)(Y:vs.ownBlock≠some b) :
 zF 125 #[zP b,vs] w λe w'=>∃v,e=zR v/\UL w.heap.size w' v F1/\AB w' b F1.length CL va y/\aB [b] w w':=by
 obtain⟨j,l,rfl⟩:=aW V;have N:Value.ownBlock (.slice j S.length l)≠some b:=Y;clear Y;have aL:=I.lt;delta zF;go_in
 go_wp2_with fail
 go_loopg [5,6] 256 (λk Z vc wr=>∃(c:Nat),c+k=256/\vc=zI c/\UL w.heap.size wr Z (gP S c)/\AB wr b 0 (Xb S c) va y/\aB [b] w wr)
 case atStart=>refine⟨0,by omega,rfl,World.ownsRow_lit _ #[] 0 (a0b _) (by unfold maxLen;omega) (by simp),?_,zJ⟩;exact I.aC zG (by simp)
 case round =>
  clear I;obtain⟨c,hc,rfl,U,A,F⟩:=hrel;obtain⟨t,g,rfl⟩:=aW U;have d:=xW S c;have z:=F.size
  by_cases E:c<256
  .clear B i
   have T:BL base wr (.slice j S.length l) S:=anh V F (λk G=>by simp;rintro rfl;exact N G);have C:=(afo base (.slice j S.length l) (.slice t (gP S c).length g) S (gP S c) c wr T (xV U) hS (by omega) (λf hf=>by have:=d.2 f hf;omega) E);have s:gP S (c+1)=if kU S (gP S c) c==(gP S c).length then gP S c++[c] else gP S c:=rfl;have n:=aj9 S c E;have Ez:=adD S (gP S c) c;have qR:=d.1;generalize kU S (gP S c) c=m at *;generalize gP S c=F0 at *;clear T d;have u:c<256:=E;go_wp2_with fail
   refine C.mono ?_;rintro e P ⟨rfl,q⟩;have F2:=F.trans (q.mono (by simp));have x:=fG U q (by simp);have r:=A.aC q (by simp);have z2:=q.size;clear q
   by_cases X:m=F0.length
   .subst X
    have D:gP S (c+1)=F0++[c]:=by rw[s];simp
    have L:(Xb S c).set c F0.length=Xb S (c+1):=n;have H:Value.ownBlock (.slice t F0.length g)≠some b:=λe=>by have:=x.lt _ e;omega
    have Gb:=r.lt;clear s n C;go_wp2_with (first | (at_builtin;refine apQ rfl rfl w.heap.size (.slice t F0.length g) F0 c P.heap.size rfl (x.alloc _) rfl (j6 rfl) (by omega) (by simp;omega) ?_;intro gg aU w5 U6 M bq iE;have F5:=aB.fo M;have O:=((λo=>r.aC (S:=[]) (w':=P.alloc o) zJ (by simp)) _).aC F5 (by simpa[a0H] using λe=>H e);have q1:=O.cell c u;have R:=O.fz (1+c);have F6:=(F2.alloc _).grown M (λk G=>Or.inr (x.lt _ G).1);clear M bq iE F5))
    go_roundg (gk-1)
    .refine⟨c+1,by omega,by go_num,?_,?_,F6.setCell (.inl (by simp)) _⟩
     .rw[D]
      have:=ownsRow_setCell_below U6 (a:=(zB b (1+c))) (by simp;omega) (.int .u8 F0.length);exact this
     rw[<-L];exact O.set c F0.length u
    omega
   have hb:((m:Int)==(F0.length:Int))=false:=a0j.2 (by omega);have D:gP S (c+1)=F0:=by rw[s,a0n];simpa using X
   have q1:=r.cell c u;have R:=r.fz (1+c);clear s C;go_wp2;go_roundg (gk-1)
   .refine⟨c+1,by omega,by go_num,?_,?_,F2.setCell (.inl (by simp)) _⟩
    .rw[D]
     exact ownsRow_setCell_below x (a:=(zB b (1+c))) (by simp;omega) (.int .u8 m)
    rw[<-n];exact r.set c m u
   omega
  have h:c=256:=by omega
  have q0:=A.c0;have R:=A.fz 0;have W:Xb S c=CL:=by rw[h,<-i];unfold Xb;rw[a2v,List.replicate_zero,a0R]
  have J:gP S c=F1:=by rw[h];exact B
  rw[W]at A;rw[J]at U d;rw[J];clear W J B i h;go_wp2;go_ret;exact⟨.slice t F1.length g,rfl,(ownsRow_setCell_below U (a:=(zA b)) (by simp;omega) (zI F1.length)),A.set0 F1.length,F.setCell (p:=(zA b)) (.inl (by simp)) (zI F1.length)⟩
def Xc(h x:Int):Int:=IntKind.u32.wrap (Go.bits BinOp.xor IntKind.u32 h x*16777619)
def aka(h x:Int)(w:World) :
 zF 169 #[.int .u32 h,.int .u32 x] w λe w'=>e=zR (.int .u32 (Xc h x))/\w=w':=by
 have a:Xc h x=IntKind.u32.wrap (Go.bits BinOp.xor IntKind.u32 h x*16777619):=rfl;delta zF;go_in
 go_wp2;go_ret;rw[a];exact⟨rfl,rfl⟩
def acu(v u:Value)(L M:LN)(w:World)(E:NL .i64 w v L)(F:NL .i64 w u M)(R:L.length<=10000000000000)(P:M.length<=10000000000000) :
 zF 170 #[v,u] w λe w'=>e=zR (.bool (decide (L=M)))/\∃n,w'=w.drewN n:=by
 obtain⟨a,cap,rfl,z⟩:=E;obtain⟨b,S,rfl,t⟩:=F;have I:=aj z;have H:=aj t;clear z t
 by_cases p:L.length=M.length
 .have hb:((L.length:Int) != (M.length:Int))=false:=by rw[a1X];omega
  have h:=aj p;clear p;delta zF;go_in
  go_wp2_with fail
  go_loopg [13] L.length (λk C wr=>∃(j n:Nat),j+k=L.length/\C=zI j/\wr=w.drewN n/\decide (L.drop j=M.drop j)=decide (L=M))
  case atStart=>exact⟨0,0,by omega,rfl,rfl,rfl⟩
  case round =>
   obtain⟨j,n,O,rfl,c,hd⟩:=hrel;have m:=aj hd;clear hd
   by_cases A:j<L.length
   .have f:j<M.length:=by have:=h.o;omega
    obtain⟨g,off,rfl,_,s⟩:=I.o j A;obtain⟨G,q,rfl,_,r⟩:=H.o j f;have N:zC wr g (off+j) (zI L[j]):=by rw[c];exact s
    have J:zC wr G (q+j) (zI M[j]):=by rw[c];exact r
    have d:Z_ (decide (L=M)=(decide (L[j]=M[j])&&decide (L.drop (j+1)=M.drop (j+1)))):=by
     show _=_;rw[<-m.o,a0k A,a0k f];rw[a0T];simp only[a0U,a0O,List.cons.injEq]
    have l:=aj c;clear s r c m;generalize L[j]=x at *;generalize M[j]=y at *
    by_cases B:x=y
    .have D:((x:Int) != (y:Int))=false:=by rw[a1X];omega
     have i:Z_ (decide (L.drop (j+1)=M.drop (j+1))=decide (L=M)):=by show _=_;rw[d.o];simp[B]
     clear d;go_wp2_with fail
     go_quiet (fail)
     go_wp2;go_roundg (gk-1)
     case measure=>omega
     case rel=>exact⟨j+1,n+_,by omega,by go_num,by rw[l.o,yD],i⟩
    have D:((x:Int) != (y:Int))=true:=by rw[a1M];omega
    have i:Z_ (decide (L=M)=false):=by show _=_;rw[d.o];simp[B]
    clear d;go_wp2_with fail
    go_quiet (fail)
    go_wp2;go_ret;rw[i.o,l.o];exact⟨rfl,_,yD⟩
   have i:Z_ (decide (L=M)=true):=by
    show _=_;rw[<-m.o,a0i (by omega),a0i (by have:=h.o;omega)];rfl
   have l:=aj c;clear c m;go_wp2;go_ret;rw[i.o];exact⟨rfl,_,l⟩
 have hb:((L.length:Int) != (M.length:Int))=true:=by rw[a1M];omega
 have d:Z_ (decide (L=M)=false):=by show _=_;rw[a0f];intro e;exact p (by rw[e])
 delta zF;go_in
 go_wp2;go_ret;rw[d.o];exact⟨rfl,0,rfl⟩
structure FV where
 kd:Nat
 s:Nat
 fi:Nat
 se:Nat
 vp:Value
 te:Bool
 lk:Nat
 ak:Nat
 lf:Nat
def FV.cells(f:FV):Array Value:=#[zI f.kd,.int .u64 (wd f.s 0),.int .u64 (wd f.s 1),.int .u64 (wd f.s 2),.int .u64 (wd f.s 3),zI f.fi,zI f.se,f.vp,.bool f.te,zI f.lk,zI f.ak,zI f.lf]
def auS(h:Int)(x:Nat):Int:=Xc (Xc h ((x:Int) % 4294967296)) ((x:Int) / 4294967296)
def Qu(h:Int)(L:LN):Int:=L.foldl (λ(h:Int) (n:Nat)=>Xc h ((n:Int) % 4294967296)) h
def aa8(kd fi se:Nat)(W:LN):Int:=W.foldl auS (Xc (Xc ((kd:Int) % 4294967296) ((fi:Int) % 4294967296)) ((se:Int) % 4294967296))
def ws(s:Nat):LN:=[wd s 0,wd s 1,wd s 2,wd s 3]
def Qv(kd s fi se:Nat)(L:LN):Int:=Qu (aa8 kd fi se (ws s)) L
def awt(a b c d:Int)(w:World):(Instr.index 218 (.agg #[.int .u64 a,.int .u64 b,.int .u64 c,.int .u64 d]) (zI 0)).run Tryz.prog w=.ok (.int .u64 a) w:=by simp[Instr.index,go_sem,Tryz.underlying218]
def awu(a b c d:Int)(w:World):(Instr.index 218 (.agg #[.int .u64 a,.int .u64 b,.int .u64 c,.int .u64 d]) (zI 1)).run Tryz.prog w=.ok (.int .u64 b) w:=by simp[Instr.index,go_sem,Tryz.underlying218]
def awv(a b c d:Int)(w:World):(Instr.index 218 (.agg #[.int .u64 a,.int .u64 b,.int .u64 c,.int .u64 d]) (zI 2)).run Tryz.prog w=.ok (.int .u64 c) w:=by simp[Instr.index,go_sem,Tryz.underlying218]
def aww(a b c d:Int)(w:World):(Instr.index 218 (.agg #[.int .u64 a,.int .u64 b,.int .u64 c,.int .u64 d]) (zI 3)).run Tryz.prog w=.ok (.int .u64 d) w:=by simp[Instr.index,go_sem,Tryz.underlying218]
theorem ani(f:FV)(L:LN)(w:World)(B:NL .i64 w f.vp L)(S:L.length<=10000000000000) :
 Calls Tryz.prog 155 #[.agg f.cells] w λe w'=>e=.returned (.int .u32 (Go.bits BinOp.xor IntKind.u32 (Qv f.kd f.s f.fi f.se L) (Qv f.kd f.s f.fi f.se L / 2 ^ 16)))/\aB [] w w':=by
 obtain⟨kd,s,fi,se,vp,te,lk,ak,lf⟩:=f;simp only at B |-;obtain⟨a,cap,rfl,D⟩:=B;have n:FV.cells ⟨kd,s,fi,se,.slice a L.length cap,te,lk,ak,lf⟩=#[.int .i64 kd,.int .u64 (wd s 0),.int .u64 (wd s 1),.int .u64 (wd s 2),.int .u64 (wd s 3),.int .i64 fi,.int .i64 se,.slice a L.length cap,.bool te,.int .i64 lk,.int .i64 ak,.int .i64 lf]:=rfl;rw[n];clear n;have M:=aj D;have l:=aj aka;have F:Z_ (Qv kd s fi se L=Qu (aa8 kd fi se [wd s 0,wd s 1,wd s 2,wd s 3]) L):=rfl;have U:=jv s 0;have b1:=jv s 1;have b2:=jv s 2;have T:=jv s 3;clear D;generalize wd s 0=d at *;generalize wd s 1=w1 at *;generalize wd s 2=c at *;generalize wd s 3=b at *;go_in
 go_wp2_with (go_at_call 169;refine(l.o _ _ _).mono ?_;rintro e w' ⟨rfl,rfl⟩)
 go_loopg [3,22] 4 (λk u t wr=>∃i:Nat,i+k=4/\t=.int .i64 i/\u=.int .u32 (aa8 kd fi se ([d,w1,c,b].take i))/\wr=w.alloc (.cells #[.int .i64 kd,.int .u64 d,.int .u64 w1,.int .u64 c,.int .u64 b,.int .i64 fi,.int .i64 se,.slice a L.length cap,.bool te,.int .i64 lk,.int .i64 ak,.int .i64 lf] 229))
 case atStart=>exact⟨0,by omega,rfl,rfl,rfl⟩
 case round =>
  obtain⟨i,R,rfl,rfl,q⟩:=hrel;have N:wr.cell? ⟨w.heap.size,7,none⟩=some (.slice a L.length cap):=by rw[q];have:=bD w (.cells #[.int .i64 kd,.int .u64 d,.int .u64 w1,.int .u64 c,.int .u64 b,.int .i64 fi,.int .i64 se,.slice a L.length cap,.bool te,.int .i64 lk,.int .i64 ak,.int .i64 lf] 229);simp only[World.cell?,this];rfl
  have G:Z_ (aB [] w wr):=by show aB [] w wr;rw[q];exact(aB.refl _ _).alloc _
  have r:=aj q;clear q;rcases(by omega:i=0\/i=1\/i=2\/i=3\/i=4) with rfl|rfl|rfl|rfl|rfl
  .have h:=awt (d:Int) w1 c b
   go_wp2_with (go_at_call 169;refine(l.o _ _ _).mono ?_;rintro e w' ⟨rfl,rfl⟩)
   go_roundg 3
   case measure=>omega
   case rel=>exact⟨1,by omega,by go_num,rfl,r⟩
  .have h:=awu (d:Int) w1 c b
   go_wp2_with (go_at_call 169;refine(l.o _ _ _).mono ?_;rintro e w' ⟨rfl,rfl⟩)
   go_roundg 2
   case measure=>omega
   case rel=>exact⟨2,by omega,by go_num,rfl,r⟩
  .have h:=awv (d:Int) w1 c b
   go_wp2_with (go_at_call 169;refine(l.o _ _ _).mono ?_;rintro e w' ⟨rfl,rfl⟩)
   go_roundg 1
   case measure=>omega
   case rel=>exact⟨3,by omega,by go_num,rfl,r⟩
  .have h:=aww (d:Int) w1 c b
   go_wp2_with (go_at_call 169;refine(l.o _ _ _).mono ?_;rintro e w' ⟨rfl,rfl⟩)
   go_roundg 0
   case measure=>omega
   case rel=>exact⟨4,by omega,by go_num,rfl,r⟩
  have I:Z_ (Qv kd s fi se L=Qu (aa8 kd fi se (List.take 4 [d,w1,c,b])) L):=F.o;generalize aa8 kd fi se (List.take 4 [d,w1,c,b])=y at *;clear F;go_wp2_with fail
  go_loopg [3,38] L.length (λk u t H=>∃(j:Nat) (x:Int),j+k=L.length/\t=.int .i64 j/\u=.int .u32 x/\Qu x (L.drop j)=Qu y L/\H=wr)
  case atStart=>exact⟨0,y,by omega,rfl,rfl,rfl,rfl⟩
  case round =>
   obtain⟨j,x,P,rfl,rfl,h,v⟩:=hrel;subst v;have A:=aj h;clear h
   by_cases E:j<L.length
   .obtain⟨g,off,rfl,J,C⟩:=M.o j E
    have O:=(G.o.cell (p:=⟨g,off+j,none⟩) J (by simp)).trans C;have z:Z_ (Qu (Xc x ((L[j]:Int) % 4294967296)) (L.drop (j+1))=Qu y L):=by
     show _=_;rw[<-A.o,a0k E];rfl
    clear C A;generalize L[j]=m at *;go_wp2_with (go_at_call 169;refine(l.o _ _ _).mono ?_;rintro e w' ⟨rfl,rfl⟩)
    go_roundg (gk-1)
    case measure=>omega
    case rel=>exact⟨j+1,_,by omega,by go_num,rfl,z,rfl⟩
   have z:Z_ (Qv kd s fi se L=x):=by
    show _=_;rw[I.o,<-A.o,a0i (by omega)];rfl
   go_wp2;go_ret;rw[z.o];exact⟨rfl,G⟩
def asq(b:s<2 ^ 256)(ht:t<2 ^ 256)(g:wd s 0=wd t 0)(f:wd s 1=wd t 1)(d:wd s 2=wd t 2)(c:wd s 3=wd t 3):s=t:=by
 apply a1D;intro i
 by_cases j:i<256
 .have e:∀x,x.testBit i=(wd x (i / 64)).testBit (i % 64):=λx=>by rw[zk (a3i _ (by decide)),show 64*(i / 64)+i % 64=i by omega]
  rw[e s,e t];rcases(by omega:i / 64=0\/i / 64=1\/i / 64=2\/i / 64=3) with h|h|h|h<;>rw[h]
  .rw[g]
  .rw[f]
  .rw[d]
  rw[c]
 have a:(2:Nat) ^ 256<=2 ^ i:=a1r (by omega) (by omega);rw[a1z (a0t b a),a1z (a0t ht a)]
theorem awx{a b c d x y z u:Int}:(Op.equalIn 10000 218 (.agg #[.int .u64 a,.int .u64 b,.int .u64 c,.int .u64 d]) (.agg #[.int .u64 x,.int .u64 y,.int .u64 z,.int .u64 u])).run Tryz.prog w=.ok (a==x&&(b==y&&(c==z&&d==u))) w:=by
 have u3:=Tryz.underlying216;have j:=Tryz.isAgg216;have i:=Tryz.sizeOf216;rw[show(10000:Nat)=9999+1 from rfl,Op.equalIn];simp only[Sem.run_bind,run_underlying Tryz.underlying218,Result.andThen_ok];simp only[Std.Legacy.Range.forIn_eq_forIn_range',Std.Legacy.Range.size,Nat.sub_zero,Nat.add_sub_cancel,Nat.div_one,List.range'_succ,List.range'_zero,List.forIn_cons,List.forIn_nil];go_simp
 by_cases h:a=x<;>by_cases g:b=y<;>by_cases f:c=z<;>by_cases e:d=u<;>simp[h,g,f,e]
def apS(a:s<2 ^ 256)(ht:t<2 ^ 256)(w:World):(Op.equalIn 10000 218 (.agg #[.int .u64 (wd s 0),.int .u64 (wd s 1),.int .u64 (wd s 2),.int .u64 (wd s 3)]) (.agg #[.int .u64 (wd t 0),.int .u64 (wd t 1),.int .u64 (wd t 2),.int .u64 (wd t 3)])).run Tryz.prog w=.ok (decide (s=t)) w:=by
 rw[awx]
 congr 1
 rw[a0T];simp only[a0O,a0W,a0U,a2N]
 constructor
 .rintro⟨e,d,c,b⟩
  exact asq a ht (by omega) (by omega) (by omega) (by omega)
 rintro rfl;exact⟨rfl,rfl,rfl,rfl⟩
def anj(f g:FV)(L M:LN)(w:World)(y:NL .i64 w f.vp L)(z:NL .i64 w g.vp M)(I:L.length<=10000000000000)(H:M.length<=10000000000000)(A:f.s<2 ^ 256)(ht:g.s<2 ^ 256) :
 zF 156 #[.agg f.cells,.agg g.cells] w λe w'=>e=zR (.bool (decide (f.kd=g.kd/\f.fi=g.fi/\f.se=g.se/\f.s=g.s/\L=M)))/\aB [] w w':=by
 obtain⟨kd,s,fi,se,vp,te,lk,ak,lf⟩:=f;obtain⟨d,s2,h,c,D,j,k,p,l⟩:=g;simp only at y z A ht |-;obtain⟨a,cap,rfl,C⟩:=y;obtain⟨b,q,rfl,B⟩:=z;have SL:=(λ(o E:Obj)=>acu (.slice a L.length cap) (.slice b M.length q) L M ((w.alloc o).alloc E) (NL.aC (S:=[]) ⟨a,cap,rfl,C⟩ (zJ.alloc _) (by simp)) (NL.aC (S:=[]) ⟨b,q,rfl,B⟩ (zJ.alloc _) (by simp)) I H);have u1:FV.cells ⟨kd,s,fi,se,.slice a L.length cap,te,lk,ak,lf⟩=#[zI kd,.int .u64 (wd s 0),.int .u64 (wd s 1),.int .u64 (wd s 2),.int .u64 (wd s 3),zI fi,zI se,.slice a L.length cap,.bool te,zI lk,zI ak,zI lf]:=rfl;have u2:FV.cells ⟨d,s2,h,c,.slice b M.length q,j,k,p,l⟩=#[zI d,.int .u64 (wd s2 0),.int .u64 (wd s2 1),.int .u64 (wd s2 2),.int .u64 (wd s2 3),zI h,zI c,.slice b M.length q,.bool j,zI k,zI p,zI l]:=rfl;rw[u1,u2];clear u1 u2 C B
 by_cases t:kd=d
 case neg =>
  have n1:((kd:Int) != (d:Int))=true:=by rw[a1M];omega
  have i:decide (kd=d/\fi=h/\se=c/\s=s2/\L=M)=false:=by simp[t]
  delta zF;go_in
  go_wp2;go_ret;rw[i];exact⟨rfl,zJ.alloc _⟩
 have n1:((kd:Int) != (d:Int))=false:=by rw[a1X];omega
 by_cases u:fi=h
 case neg =>
  have G:((fi:Int) != (h:Int))=true:=by rw[a1M];omega
  have i:decide (kd=d/\fi=h/\se=c/\s=s2/\L=M)=false:=by simp[u]
  delta zF;go_in
  go_wp2;go_ret;rw[i];exact⟨rfl,zJ.alloc _⟩
 have G:((fi:Int) != (h:Int))=false:=by rw[a1X];omega
 by_cases he:se=c
 case neg =>
  have F:((se:Int) != (c:Int))=true:=by rw[a1M];omega
  have i:decide (kd=d/\fi=h/\se=c/\s=s2/\L=M)=false:=by simp[he]
  delta zF;go_in
  go_wp2;go_ret;rw[i];exact⟨rfl,zJ.alloc _⟩
 have F:((se:Int) != (c:Int))=false:=by rw[a1X];omega
 have i:decide (kd=d/\fi=h/\se=c/\s=s2/\L=M)=decide (s=s2/\L=M):=by simp[t,u,he]
 clear t u he;have r:=apS A ht
 by_cases m:s=s2
 case neg =>
  have v:decide (s=s2/\L=M)=false:=by simp[m]
  have x:∀w,_:=λw=>(r w).trans (by rw[a0f m])
  clear r;delta zF;go_in
  go_wp2;go_ret;rw[i,v];exact⟨rfl,zJ.alloc _⟩
 have v:decide (s=s2/\L=M)=decide (L=M):=by simp[m]
 have x:∀w,_:=λw=>(r w).trans (by rw[a0g m])
 clear r m;delta zF;go_in
 go_wp2_with (go_at_call 170;refine(SL _ _).mono ?_;rintro e w' ⟨rfl,n,rfl⟩)
 go_ret;rw[i,v];exact⟨rfl,aB.drewN n (zJ.alloc _)⟩
def FT(w:World)(fb:Nat)(va:Value)(B:LN)(ak:Nat):Prop :=
 w.heap[fb]?=some (.cells (va::(nv .i64 B++[zI ak])).toArray 233 (0,0))/\B.length=1024
theorem FT.lt(h:FT w fb va B ak):fb<w.heap.size:=(a0c.1 h.1).1
theorem FT.fz(h:FT w fb va B ak)(o:Nat):w.frozen? (zB fb o)=false:=by simp[World.frozen?,h.1]
theorem FT.aC(h:FT w fb va B ak)(f:aB S w w')(a:fb∉S):FT w' fb va B ak:=⟨(f.block fb h.lt a).trans h.1,h.2⟩
theorem FT.c0(h:FT w fb va B ak):zC w fb 0 va:=by simp[World.cell?,h.1]
theorem FT.cell(h:FT w fb va B ak)(c:Nat)(a:c<1024):zC w fb (1+c) (zI (B.getD c 0)):=by
 have b:c<B.length:=by rw[h.2];exact a
 have e:(va::(nv .i64 B++[zI ak]))[1+c]?=some (zI (B.getD c 0)):=by grind [nv]
 simp[World.cell?,h.1];simpa using e
theorem FT.awy(h:FT w fb va B ak):w.cell? ⟨fb,1025,none⟩=some (.int .i64 ak):=by
 have e:(va::(nv .i64 B++[.int .i64 ak]))[1025]?=some (.int .i64 ak):=by rw[a1m,a0K (by simp[nv,h.2])];simp[nv,h.2]
 simp only[World.cell?,h.1];simpa using e
theorem FT.apT(h:FT w fb va B ak)(c m:Nat)(a:c<1024):FT (w.setCell (zB fb (1+c)) (zI m)) fb va (B.set c m) ak:=by
 refine⟨?_,by rw[a3p];exact h.2⟩;have d:c<B.length:=by rw[h.2];exact a
 have e:(va::(nv .i64 B++[zI ak])).set (1+c) (zI m)=va::(nv .i64 (B.set c m)++[zI ak]):=by grind [nv,Nat.add_comm,List.set_append_left,List.map_set]
 have b:=h.1;simp only[World.setCell,a0v,b,a0G,a1x];rw[<-e];simp
def FT.set0(h:FT w fb va B ak)(m:Value):FT (w.setCell (zA fb) m) fb m B ak:=by refine⟨?_,h.2⟩;have a:=h.1;simp only[World.setCell,a0v,a,a0G,a1x];simp
def FT.agr(h:FT w fb va B ak)(m:Nat):FT (w.setCell (zB fb 1025) (zI m)) fb va B m:=by
 refine⟨?_,h.2⟩;have e:(va::(nv .i64 B++[zI ak])).set 1025 (zI m)=va::(nv .i64 B++[zI m]):=by rw[a1S,a1v _ _ (by simp[nv,h.2])];simp[nv,h.2]
 have a:=h.1;simp only[World.setCell,a0v,a,a0G,a1x];rw[<-e];simp
def fv(L:List FV):List Value:=L.flatMap λf=>f.cells.toList
def adF:Value:=.agg #[zI 0,.int .u64 0,.int .u64 0,.int .u64 0,.int .u64 0,zI 0,zI 0,zN,.bool false,zI 0,zI 0,zI 0]
def adG:(Tryz.prog.info? 229).map (λi=>(i.zero,i.size,i.bytes))=some (some adF,12,112):=by kernel_rfl
def asr(L:List FV)(j k:Nat)(d:k<12)(f:FV)(a:L[j]?=some f):(fv L)[j*12+k]?=f.cells.toList[k]?:=by
 induction L generalizing j with
 | nil=>simp at a
 | cons g L b =>
   have c:g.cells.toList.length=12:=by simp[FV.cells]
   cases j with
   | zero=>simp at a;subst a;simp only[fv,a1i];rw[a0s (by omega)];simp
   | succ j=>simp only[fv,a1i];rw[a0K (by omega),show(j+1)*12+k-g.cells.toList.length=j*12+k by omega];exact b j (by simpa using a)
def FL(base:Nat)(w:World)(v:Value)(L:List FV):Prop:=w.ownsRow base 229 12 v L.length (fv L)
theorem ahC {ops:Array Oper} {rest:List Oper} {o:Oper} {a:Act} {Q:Exit->Act->World->Prop}(d:o.guard=none){s x:Operand}
 (ho:o.op=.call { callee:=.builtin .append,args:=#[s,x],argTypes:=#[230,230] })
 (base:Nat) (v:Value) (L:List FV) (f:FV) (b1:Nat) (l:a.eval s=v) (t:FL base w v L) (i:a.eval x=zS b1 1 1)
 (p:w.heap[b1]?=some (.cells f.cells 229 (0,0))) (k:f.vp.oneCell'=true) (hlen:L.length<=1000000000000) (c:base<=w.heap.size)
 (h:∀g cap w',FL base w' (zS g (L.length+1) cap) (L++[f])->w.grownBy w' v.ownBlock->(v.ownBlock=some g\/g=w.heap.size)->g<w'.heap.size->wpList Tryz.prog ops Q rest (a.put o.dst (zS g (L.length+1) cap)) w') :
 wpList Tryz.prog ops Q (o::rest) a w:=by
 obtain⟨e,n,gT,r,q⟩:=info_parts adG;refine wpList_append_lies w d s x 230 ho base 229 e adF 12 112 Tryz.underlying230 n gT r q rfl (by decide) v L.length (fv L) l t (zA b1) 1 1 f.cells.toList i (by simp[FV.cells]) ?_ ?_ (by decide) (by unfold maxLen;omega) (by omega) c w.heap.size rfl ?_
 .intro j u m
  rw[add0];simp only[World.cell?,p];simpa using m
 .intro u b
  simp only[FV.cells,a0l,a1U,a2V]at b;rcases b with rfl|rfl|rfl|rfl|rfl|rfl|rfl|rfl|rfl|rfl|rfl|rfl<;>first | exact k|rfl
 grind [FL,fv]
def alE{a:Obj}(h:n=w.heap.size):(w.alloc a).heap[n]?=some a:=by subst h;exact bD w a
theorem aa9:Tryz.zeroCells233=(Value.slice none 0 0::(nv .i64 (List.replicate 1024 0)++[zI 0])).toArray:=by kernel_rfl
def FT.new(w:World):FT (w.alloc (Obj.cells Tryz.zeroCells233 233)) w.heap.size zN (List.replicate 1024 0) 0:=by refine⟨?_,List.length_replicate⟩;rw[aa9];exact bD _ _
def fv0:FV:=⟨0,0,0,0,zN,false,0,0,0⟩
def fv1:FV:=⟨1,0,0,0,zN,true,0,0,0⟩
theorem awz:fv0.cells=#[zI 0,.int .u64 0,.int .u64 0,.int .u64 0,.int .u64 0,zI 0,zI 0,zN,.bool false,zI 0,zI 0,zI 0]:=by kernel_rfl
theorem awC:fv1.cells=#[zI 1,.int .u64 0,.int .u64 0,.int .u64 0,.int .u64 0,zI 0,zI 0,zN,.bool true,zI 0,zI 0,zI 0]:=by kernel_rfl
def sz2{a b:Obj}:w.heap.size+1<=((w.alloc a).alloc b).heap.size:=by
 have d:(w.alloc a).heap.size=w.heap.size+1:=by simp
 have c:((w.alloc a).alloc b).heap.size=(w.alloc a).heap.size+1:=by simp
 omega
def acv(w:World) :
 zF 126 #[] w λe w'=>∃va,e=zR (zP w.heap.size)/\FT w' w.heap.size va (List.replicate 1024 0) 0/\FL (w.heap.size+1) w' va [fv0,fv1]/\aB [] w w':=by
 have B:∀h,Tryz.zeroCells233[0]'h=zN:=by intro h;simp only[aa9];rfl
 have x:=FT.new w;have v:∀o,aB [] w (w.alloc o):=λo=>zJ
 delta zF;go_in
 go_wp2_with (first | (at_builtin;refine ahC rfl rfl (w.heap.size+1) zN [] fv0 (w.heap.size+1) rfl (World.ownsRow_nil _ _ _ _) rfl (by rw[awz];exact alE (by simp)) rfl (by simp) (sz2) ?_;intro j p D d b l I;have F5:=aB.fo b;have g:=(x.aC zG (by simp)).aC F5 (by simp[Value.ownBlock]);have r:=g.set0 (zS j 1 p);have H:=g.c0;have G:=g.fz 0;have m:=ownsRow_setCell_below d (a:=(zA w.heap.size)) (by simp) (zS j 1 p);have q:=((v _).alloc _).grown b (λk i=>by simp[Value.ownBlock]at i);have A:=a0h (sz2) b.size;clear d b l F5 g)|(at_builtin;refine ahC rfl rfl (w.heap.size+1) (.slice (some ⟨_,0,none⟩) 1 _) [fv0] fv1 _ rfl (m.alloc _) rfl (by rw[awC];exact alE (by simp)) rfl (by simp) (by first | (simp;done)|(simp;omega)) ?_;intro n c C d b l t;have s:w.heap.size+1<=j:=(m.lt _ rfl).1;have f:=(r.aC zG (by simp)).aC (aB.fo b) (by simp[Value.ownBlock];omega);have F:=f.c0;have E:=f.fz 0;have z:=f.set0 (zS n 2 c);have u:=ownsRow_setCell_below d (a:=(zA w.heap.size)) (a3j _) (zS n 2 c);have y:=(((q.setCell (.inr (a0b _)) _).alloc _).grown b (λk i=>Or.inr (by simp[Value.ownBlock]at i;omega)));clear d b l f m r q))
 go_ret;exact⟨_,rfl,z,u,y.setCell (.inr (a0b _)) _⟩
def mO {base:Nat} {e:TypeId}{size:Nat}(h:w.ownsRow base e size v n xs)(f:aB S w w')(c:∀k,v.ownBlock=some k->k∉S):w'.ownsRow base e size v n xs:=by
 refine⟨h.1,?_⟩;rcases h.2 with b|⟨g,cap,cur,rfl,hb,a,rest⟩
 .exact .inl b
 refine .inr ⟨g,cap,cur,rfl,hb,?_,rest⟩;rw[f.block g (a0c.1 a).1 (c g rfl)];exact a
def adH(k:KY):Int:=Go.bits BinOp.xor IntKind.u32 (Qv k.kd k.s k.fi k.se k.L) (Qv k.kd k.s k.fi k.se k.L / 2 ^ 16)
def mV(k:KY):Nat:=(adH k % 1024).toNat
theorem alF(k:KY):mV k<1024:=by unfold mV;omega
def ass(k:KY):adH k % 1024=(mV k:Int):=by unfold mV;omega
def kz(e:FV × LN):KY:=⟨e.1.kd,e.1.s,e.1.fi,e.1.se,e.2⟩
def PL(w:World)(v:Value)(L:LN):Prop :=
 NL .i64 w v L/\(∀a n c,v=.slice (some a) n c->∃cur fz,w.heap[a.block]?=some (.cells cur 3 fz))/\L.length<=10000000000000
def PL.cell1 {L:LN}(h:PL w v L):v.oneCell'=true:=by obtain⟨a,cap,rfl,_⟩:=h.1;rfl
theorem PL.nil(w:World):PL w zN []:=⟨⟨none,0,rfl,λj h=>by simp at h⟩,λa n c e=>by simp at e,by simp⟩
theorem PL.alG {base:Nat} {L:LN}(h:IL base w v L)(d:L.length<=10000000000000):PL w v L:=by
 refine⟨xV h,?_,d⟩;intro a n c e;rcases h.2 with⟨b,_⟩|⟨g,cap,cur,b,_,f,_⟩
 .rw[b]at e;simp at e
 grind
def qV(w:World)(S:LN):Prop:=∀k∈S,∀cur fz,w.heap[k]?≠some (.cells cur 3 fz)
theorem PL.aC {L:LN}(h:PL w v L)(f:aB S w w')(i:qV w S):PL w' v L:=by
 have d:∀a n c,v=.slice (some a) n c->a.block∉S:=λa n c e g=>by obtain⟨cur,fz,b⟩:=h.2.1 a n c e;exact i _ g cur fz b
 refine⟨h.1.aC f d,?_,h.2.2⟩;intro a n c e;obtain⟨cur,fz,b⟩:=h.2.1 a n c e;exact⟨cur,fz,(f.block _ (a0c.1 b).1 (d a n c e)).trans b⟩
theorem qV.nil(w:World):qV w []:=λk a=>by simp at a
structure TE(base:Nat)(w:World)(fb vb:Nat)(E:List (FV × LN))(B:LN)(ak:Nat):Prop where
 row:∃cap,FT w fb (zS vb E.length cap) B ak/\FL base w (zS vb E.length cap) (E.map Prod.fst)
 pl:∀e∈E,PL w e.1.vp e.2
 st:∀e∈E,e.1.s<2 ^ 256
 fb:fb<base
 sz:base<=w.heap.size
theorem TE.vbs {base:Nat} {E:List (FV × LN)}(h:TE base w fb vb E B ak) :
 base<=vb/\vb<w.heap.size/\∃cur,w.heap[vb]?=some (.cells cur 229 (0,0)):=by
 obtain⟨cap,_,b⟩:=h.row;have a:=b.lt vb rfl;refine⟨a.1,a.2,?_⟩;rcases b.2 with⟨d,_⟩|⟨g,c,cur,d,_,e,_⟩
 .simp at d
 grind
def TE.wu {base:Nat} {E:List (FV × LN)}(h:TE base w fb vb E B ak):qV w [fb,vb]:=by
 obtain⟨cap,c,_⟩:=h.row;obtain⟨_,_,cur,b⟩:=h.vbs;intro k a d fz;simp only[a0l,a1U,a2V]at a;rcases a with rfl|rfl
 .rw[c.1];simp
 rw[b];simp
theorem TE.aC {base:Nat} {E:List (FV × LN)}(h:TE base w fb vb E B ak)(f:aB S w w')(g:fb∉S)(d:vb∉S)(c:qV w S):TE base w' fb vb E B ak:=by obtain⟨cap,ht,b⟩:=h.row;exact⟨⟨cap,ht.aC f g,mO b f (λk a=>by simp[Value.ownBlock]at a;subst a;exact d)⟩,λe he=>(h.pl e he).aC f c,h.st,h.fb,a0h h.sz f.size⟩
theorem TE.aY {base:Nat} {E:List (FV × LN)}(h:TE base w fb vb E B ak)(f:aB [] w w'):TE base w' fb vb E B ak :=
 h.aC f (by simp) (by simp) (qV.nil _)
theorem TE.cell {base:Nat} {E:List (FV × LN)}(h:TE base w fb vb E B ak) {e:FV × LN}(d:E[i]?=some e)(k:Nat)(c:k<12) :
 w.cell? (zB vb (i*12+k))=e.1.cells.toList[k]?:=by
 obtain⟨cap,_,b⟩:=h.row;have a:=asr (E.map Prod.fst) i k c e.1 (by simp[d]);have f:=World.ownsRow.cells b (g:=vb) rfl (i*12+k);have j:k<e.1.cells.toList.length:=by simp[FV.cells];omega
 rw[a0a j]at a |-;have:=f _ a;rw[add0]at this;exact this
structure TP(E:List (FV × LN))(B:LN)(D:List NF)(ak c:Nat):Prop where
 tb:Ru (E.map kz) D
 bu:∀b,b<1024->B.getD b 0=lastB mV (E.map kz) b E.length
 lk:∀(i:Nat) (e:FV × LN),2<=i->E[i]?=some e->e.1.lk=lastB mV (E.map kz) (mV (kz e)) i
 te:∀(i:Nat) (e:FV × LN) (d:NF),E[i]?=some e->D[i]?=some d->e.1.te=dK d
 al:∀e∈E,e.1.ak<=ak
 mm:1<=ak->∀(i:Nat) (e:FV × LN) (d:NF),E[i]?=some e->D[i]?=some d->e.1.ak=ak->D[e.1.lf]?=some (left c d)
theorem TP.len {E:List (FV × LN)}{c:Nat}(h:TP E B D ak c):E.length=D.length:=by have:=h.tb.len;simpa using this
def TP.two {E:List (FV × LN)}{c:Nat}(h:TP E B D ak c):2<=E.length:=by rw[h.len];exact h.tb.two
theorem TP.push {E:List (FV × LN)}{c:Nat}(h:TP E B D ak c)(w:B.length=1024) {f:FV} {L:LN}
 (q:Ky D D.length (kz (f,L)) d) (p:WC d) (hd:d∉D) (y:f.te=dK d) (t:f.lk=B.getD (mV (kz (f,L))) 0) (v:f.ak=0) :
 TP (E++[(f,L)]) (B.set (mV (kz (f,L))) E.length) (D++[d]) ak c:=by
 have u:=h.len;have x:=h.two;have j:(E.map kz).length=E.length:=by simp
 refine⟨?_,?_,?_,?_,?_,?_⟩
 .rw[a0P];exact h.tb.push q p hd
 .intro b hb
  rw[a0P,a0p];show _=lastB mV (E.map kz++[kz (f,L)]) b (E.length+1);have e:=ajs mV (E.map kz) (kz (f,L)) b (by omega);rw[j]at e;rw[e]
  by_cases n:mV (kz (f,L))=b
  .grind
  rw[a0n n,<-h.bu b hb];simp[List.getD,List.getElem?_set,n]
 .intro i e r he
  rw[a0P];show _=lastB mV (E.map kz++[kz (f,L)]) _ i;have o:=(a0d.1 he).1;simp at o;rw[Kg _ _ _ _ _ (by omega)]
  by_cases a:i<E.length
  .rw[a0s a]at he
   exact h.lk i e r he
  have:i=E.length:=by omega
  subst this;simp at he;subst he;rw[<-h.bu _ (alF _)];exact t
 .intro i e l he g
  by_cases a:i<E.length
  .rw[a0s a]at he
   rw[a0s (by omega)]at g;exact h.te i e l he g
  grind
 .intro e he
  rcases a0e.1 he with m|m
  .exact h.al e m
  grind
 intro s i e l he g k
 by_cases a:i<E.length
 .rw[a0s a]at he
  rw[a0s (by omega)]at g;have:=h.mm s i e l he g k;have hb:=(a0d.1 this).1;rw[a0s hb];exact this
 grind
def ZZ(w:World)(E:List (FV × LN))(Z:LN):Prop:=(∀k∈Z,k<w.heap.size)/\∀e∈E,∀x n c,e.1.vp=.slice (some x) n c->x.block∉Z
theorem ZZ.mono {E:List (FV × LN)}(h:ZZ w E Z)(a:w.heap.size<=w'.heap.size):ZZ w' E Z:=⟨λk b=>a0t (h.1 k b) a,h.2⟩
def ST(base:Nat)(w:World)(fb vb:Nat)(D:List NF)(ak c:Nat)(U:List NF)(Z:LN):Prop :=
 ∃E B,TE base w fb vb E B ak/\TP E B D ak c/\(∀x∈D,x∈U)/\U.length<=1000000000000/\ZZ w E Z
theorem ST.len {base:Nat}{c:Nat}(h:ST base w fb vb D ak c U Z):D.length<=1000000000000:=by obtain⟨E,B,_,d,b,a,_⟩:=h;exact a0h (qP d.tb.nd b) a
theorem ST.aY {base:Nat}{c:Nat}(h:ST base w fb vb D ak c U Z)(f:aB [] w w'):ST base w' fb vb D ak c U Z:=by obtain⟨E,B,g,e,d,b,a⟩:=h;exact⟨E,B,g.aY f,e,d,b,a.mono f.size⟩
theorem ST.aC {base:Nat}{c:Nat}(h:ST base w fb vb D ak c U Z)(f:aB S w w')(i:fb∉S)(g:vb∉S)(e:qV w S):ST base w' fb vb D ak c U Z:=by obtain⟨E,B,k1,k2,d,b,a⟩:=h;exact⟨E,B,k1.aC f i g e,k2,d,b,a.mono f.size⟩
structure FQ(fb vb jS:Nat)(w w':World):Prop where
 fr:aB [fb,vb] w w'
 mv:jS=vb\/w.heap.size<=jS
theorem FQ.refl(fb vb:Nat)(w:World):FQ fb vb vb w w:=⟨zK,.inl rfl⟩
theorem FQ.trans{c:Nat}{y z:World}(h:FQ fb a b x y)(k:FQ fb b c y z):FQ fb a c x z:=by
 refine⟨⟨k.fr.os.trans h.fr.os,k.fr.tape.trans h.fr.tape,k.fr.output.trans h.fr.output,a0h h.fr.size k.fr.size,λi g f=>?_⟩,?_⟩
 .refine(k.fr.block i (a0t g h.fr.size) ?_).trans (h.fr.block i g f)
  simp only[a0l,a1U,a2V,not_or]at f |-;refine⟨f.1,λe=>?_⟩;rcases h.mv with d|d
  .exact f.2 (e.trans d)
  omega
 have:=h.fr.size;rcases k.mv with e|e
 .rcases h.mv with d|d
  .exact .inl (e.trans d)
  exact .inr (by omega)
 exact .inr (by omega)
def FQ.aba{y z:World}(h:aB [] x y)(k:FQ fb a b y z):FQ fb a b x z :=
 FQ.trans ⟨h.nil,.inl rfl⟩ k
theorem FQ.keepR{y z:World}(h:FQ fb a b x y)(k:aB [] y z):FQ fb a b x z :=
 h.trans ⟨k.nil,.inl rfl⟩
theorem FQ.block{y:World}(h:FQ fb a b x y)(c:k<x.heap.size)(e:k≠fb)(d:k≠a):y.heap[k]?=x.heap[k]?:=h.fr.block k c (by simp[e,d])
def Vq{a b:Int}:0<=Go.bits BinOp.xor IntKind.u32 a b:=by show 0<=IntKind.u32.wrap ((BitVec.ofInt 32 a ^^^ BitVec.ofInt 32 b).toNat:Int);simp[IntKind.wrap,IntKind.bits,IntKind.signed];omega
theorem Tt(k:KY):0<=adH k:=Vq
def ank(k:KY):(adH k).tmod 1024=(mV k:Int):=by rw[a2f (Tt k)];exact ass k
def RQ(base:Nat)(w:World)(fb vb:Nat)(D:List NF)(ak c:Nat)(U:List NF)(Z:LN)(y:NF)(e:Ending)(w':World):Prop :=
 ∃a R r,e=zR (zI (r:Nat))/\ST base w' fb a (D++R) ak c U Z/\(D++R)[r]?=some y/\FQ fb vb a w w'
def TE.apT {base:Nat} {E:List (FV × LN)}(h:TE base w fb vb E B ak)(b n:Nat)(hb:b<1024) :
 TE base (w.setCell (zB fb (1+b)) (zI n)) fb vb E (B.set b n) ak:=by
 obtain⟨cap,ht,c⟩:=h.row;have F:aB [fb] w (w.setCell (zB fb (1+b)) (zI n)):=zK.setCell (.inl (by simp)) _;have f:=h.vbs;have d:=h.fb;refine⟨⟨cap,ht.apT b n hb,mO c F λk a=>by simp[Value.ownBlock]at a;subst a;simp;omega⟩,λe he=>(h.pl e he).aC F ?_,h.st,h.fb,?_⟩
 .intro k a;exact h.wu k (by simp at a;simp[a])
 exact a0h h.sz F.size
def TE.agr {base:Nat} {E:List (FV × LN)}(h:TE base w fb vb E B ak)(n:Nat) :
 TE base (w.setCell (zB fb 1025) (zI n)) fb vb E B n:=by
 obtain⟨cap,ht,b⟩:=h.row;have F:aB [fb] w (w.setCell (zB fb 1025) (zI n)):=zK.setCell (.inl (by simp)) _;have d:=h.vbs;have c:=h.fb;refine⟨⟨cap,ht.agr n,mO b F λk a=>by simp[Value.ownBlock]at a;subst a;simp;omega⟩,λe he=>(h.pl e he).aC F ?_,h.st,h.fb,?_⟩
 .intro k a;exact h.wu k (by simp at a;simp[a])
 exact a0h h.sz F.size
theorem TE.grow {base:Nat}{g:Nat} {E:List (FV × LN)} {f:FV} {L:LN}(h:TE base w fb vb E B ak)(d:PL w f.vp L)(n:f.s<2 ^ 256)
 (i:w.grownBy w' (some vb)) (l:w'.ownsRow base 229 12 (zS g (E.length+1) cap) (E.length+1) (fv (E.map Prod.fst)++f.cells.toList)) :
 TE base (w'.setCell (zA fb) (zS g (E.length+1) cap)) fb g (E++[(f,L)]) B ak:=by
 obtain⟨p,ht,o⟩:=h.row;have m:=h.vbs;have c:=h.fb;have F:aB [vb] w w':=aB.fo i;have F2:aB [fb] w' (w'.setCell (zA fb) (zS g (E.length+1) cap)):=zK.setCell (.inl (by simp)) _;have F3:aB [fb,vb] w (w'.setCell (zA fb) (zS g (E.length+1) cap)):=(F.mono (by intro k _ b;simp at b;simp[b])).trans (F2.mono (by intro k _ b;simp at b;simp[b]));have j:=(ht.aC F (by simp;omega)).set0 (zS g (E.length+1) cap);refine⟨⟨cap,by simpa using j,?_⟩,?_,?_,h.fb,a0h h.sz F3.size⟩
 .have:=ownsRow_setCell_below l (a:=(zA fb)) c (zS g (E.length+1) cap)
  unfold FL;simpa[fv] using this
 .intro e he
  rcases a0e.1 he with he|he
  .exact(h.pl e he).aC F3 h.wu
  simp at he;subst he;exact d.aC F3 h.wu
 intro e he;rcases a0e.1 he with he|he
 .exact h.st e he
 grind
def Vr {base:Nat} {E:List (FV × LN)}(h:TE base w fb vb E B ak) {f:FV} {L:LN}(a:E[i]?=some (f,L)) :
 zC w vb (i*12) (zI f.kd)/\zC w vb (i*12+1) (.int .u64 (wd f.s 0))/\zC w vb (i*12+2) (.int .u64 (wd f.s 1))/\zC w vb (i*12+3) (.int .u64 (wd f.s 2))/\zC w vb (i*12+4) (.int .u64 (wd f.s 3)) /\
 zC w vb (i*12+5) (zI f.fi)/\zC w vb (i*12+6) (zI f.se)/\zC w vb (i*12+7) f.vp/\zC w vb (i*12+8) (.bool f.te)/\zC w vb (i*12+9) (zI f.lk)/\zC w vb (i*12+10) (zI f.ak)/\zC w vb (i*12+11) (zI f.lf) :=
 ⟨h.cell a 0 (by decide),h.cell a 1 (by decide),h.cell a 2 (by decide),h.cell a 3 (by decide),h.cell a 4 (by decide),h.cell a 5 (by decide),h.cell a 6 (by decide),h.cell a 7 (by decide),h.cell a 8 (by decide),h.cell a 9 (by decide),h.cell a 10 (by decide),h.cell a 11 (by decide)⟩
def FX(w:World)(xb:Nat)(f:FV):Prop:=w.heap[xb]?=some (.cells f.cells 229 (0,0))
theorem FX.lt {f:FV}(h:FX w xb f):xb<w.heap.size:=(a0c.1 h).1
theorem FX.aC {f:FV}(h:FX w xb f)(F:aB S w w')(a:xb∉S):FX w' xb f:=(F.block xb h.lt a).trans h
theorem FX.fz {f:FV}(h:FX w xb f)(o:Nat):w.frozen? (zB xb o)=false:=by unfold FX at h;simp[World.frozen?,h]
theorem FX.get {f:FV}(h:FX w xb f) :
 w.cell? ⟨xb,0,none⟩=some (.int .i64 f.kd)/\w.cell? ⟨xb,1,none⟩=some (.int .u64 (wd f.s 0))/\w.cell? ⟨xb,2,none⟩=some (.int .u64 (wd f.s 1))/\w.cell? ⟨xb,3,none⟩=some (.int .u64 (wd f.s 2))/\w.cell? ⟨xb,4,none⟩=some (.int .u64 (wd f.s 3)) /\
 w.cell? ⟨xb,5,none⟩=some (.int .i64 f.fi)/\w.cell? ⟨xb,6,none⟩=some (.int .i64 f.se)/\w.cell? ⟨xb,7,none⟩=some f.vp/\w.cell? ⟨xb,8,none⟩=some (.bool f.te)/\w.cell? ⟨xb,9,none⟩=some (.int .i64 f.lk)/\w.cell? ⟨xb,10,none⟩=some (.int .i64 f.ak)/\w.cell? ⟨xb,11,none⟩=some (.int .i64 f.lf):=by
 unfold FX at h;simp only[World.cell?,h];exact⟨rfl,rfl,rfl,rfl,rfl,rfl,rfl,rfl,rfl,rfl,rfl,rfl⟩
def FX.auT {f:FV}(h:FX w xb f)(n:Nat):FX (w.setCell (zB xb 9) (zI n)) xb { f with lk:=n }:=by
 unfold FX at h |-;simp only[World.setCell,a0v,h,a0G,a1x]
 rfl
theorem FV.one(f:FV)(b:f.vp.oneCell'=true):∀u∈f.cells.toList,u.oneCell'=true:=by intro u a;simp only[FV.cells,a0l,a1U,a2V]at a;rcases a with rfl|rfl|rfl|rfl|rfl|rfl|rfl|rfl|rfl|rfl|rfl|rfl<;>first | exact b|rfl
def Tu(K:List KY)(k:KY)(i:Nat):Prop :=
 (i=0\/(2<=i/\i<K.length/\K[i]?.map mV=some (mV k)))/\∀j,i<j->2<=j->K[j]?≠some k
def Tu.start(K:List KY)(k:KY):Tu K k (lastB mV K (mV k) K.length):=by
 constructor
 .exact zD mV K (mV k) K.length
 intro j d c a;have b:=(a0d.1 a).1;have:=Py mV K (mV k) K.length j b c (by rw[a];rfl);omega
def Tu.next {K:List KY} {k q:KY}(h:Tu K k i)(o:0<i)(hq:K[i]?=some q)(l:q≠k):mV q=mV k/\lastB mV K (mV q) i<i/\Tu K k (lastB mV K (mV q) i):=by
 have hb:mV q=mV k:=by
  rcases h.1 with e|⟨_,_,e⟩
  .omega
  rw[hq]at e;simpa using e
 have m:lastB mV K (mV q) i<i:=by rcases zD mV K (mV q) i with e|⟨_,e,_⟩<;>omega
 refine⟨hb,m,?_,?_⟩
 .rcases zD mV K (mV q) i with e|⟨g,p,f⟩
  .exact .inl e
  rcases h.1 with e|⟨_,e,_⟩
  .omega
  exact .inr ⟨g,by omega,by rw[f,hb]⟩
 intro j n c a
 by_cases b:i<j
 .exact h.2 j b c a
 by_cases d:j=i
 .subst d;rw[hq]at a;simp at a;exact l a
 have:=Py mV K (mV q) i j (by omega) c (by rw[a,hb];rfl);omega
def RE(base:Nat)(w:World)(fb vb:Nat)(E:List (FV × LN))(D:List NF)(ak c:Nat)(U:List NF)(Z:LN)(y:NF)(vp:Value)(L:LN)(e:Ending)(w':World):Prop :=
 ∃b R r a d,e=zR (zI (r:Nat))/\TE base w' fb b a d ak/\TP a d (D++R) ak c/\(∀x∈D++R,x∈U)/\U.length<=1000000000000/\(D++R)[r]?=some y/\FQ fb vb b w w'/\(∀e∈a,e∈E\/(e.1.vp=vp/\e.2=L))/\ZZ w' a Z
def RE.rq {base:Nat} {E:List (FV × LN)}{c:Nat} {L:LN}(h:RE base w fb vb E D ak c U Z y vp L e w'):RQ base w fb vb D ak c U Z y e w':=by obtain⟨a,R,r,m,n,l,k,j,i,g,f,d,_,b⟩:=h;exact⟨a,R,r,l,⟨m,n,k,j,i,g,b⟩,f,d⟩
def adI(base:Nat)(w:World)(fb vb:Nat)(E:List (FV × LN))(B:LN)(D:List NF)(ak c:Nat)(U:List NF)(Z:LN)(f:FV)(L:LN)(d:NF)
 (hE:TE base w fb vb E B ak) (hP:TP E B D ak c) (hU:∀x∈D,x∈U) (Gd:U.length<=1000000000000) (X:PL w f.vp L) (hs:f.s<2 ^ 256) (m:Ky D D.length (kz (f,L)) d) (hw:WC d) (hd:d∈U) (Gc:f.te=dK d) (ha:f.ak=0) (Gf:ZZ w E Z) (Sv:∀x n cc,f.vp=.slice (some x) n cc->x.block∉Z) :
 zF 145 #[zP fb,.agg f.cells] w (RE base w fb vb E D ak c U Z d f.vp L):=by
 have HZZ:=aj Gf;have HFZ:=aj Sv;clear Gf Sv;have hlen:D.length<=1000000000000:=a0h (qP hP.tb.nd hU) Gd;have hEl:E.length=D.length:=hP.len;have HH:Z_ (∀w',aB [] w w'->zF 155 #[.agg f.cells] w' λe v=>e=zR (.int .u32 (adH (kz (f,L))))/\aB [] w' v) :=
  λw' F=>ani f L w' (X.1.aC F (by simp)) X.2.2
 have SM:Z_ (∀(w':World) (g:FV) (M:LN),aB [] w w'->(g,M)∈E->zF 156 #[.agg g.cells,.agg f.cells] w' λe v=>(∃b:Bool,e=zR (.bool b)/\(b=true->kz (g,M)=kz (f,L))/\(b=false->kz (g,M)≠kz (f,L)))/\aB [] w' v):=by
  intro w' g M F hm;refine(anj g f M L w' ((hE.pl _ hm).1.aC F (by simp)) (X.1.aC F (by simp)) (hE.pl _ hm).2.2 X.2.2 (hE.st _ hm) hs).mono ?_;rintro e v ⟨rfl,hf⟩;refine⟨⟨_,rfl,?_,?_⟩,hf⟩
  .intro hb
   rw[a0U]at hb;simp only[kz,KY.mk.injEq];exact⟨hb.1,hb.2.2.2.1,hb.2.1,hb.2.2.1,hb.2.2.2.2⟩
  intro hb e;rw[a1g]at hb;simp only[kz,KY.mk.injEq]at e;exact hb ⟨e.1,e.2.2.1,e.2.2.2.1,e.2.1,e.2.2.2.2⟩
 have q:=alF (kz (f,L));have ax9:=ank (kz (f,L));obtain⟨cap,hT,hF⟩:=hE.row;have hB:B.getD (mV (kz (f,L))) 0=lastB mV (E.map kz) (mV (kz (f,L))) E.length:=hP.bu _ q;have ST0:Z_ (Tu (E.map kz) (kz (f,L)) (B.getD (mV (kz (f,L))) 0)):=by
  show Tu _ _ _;rw[hB];have:=Tu.start (E.map kz) (kz (f,L));simpa using this
 have G:=aj hE;have HP:=aj hP;have HPL:=aj X;have HT:=aj hT;have XB0:Z_ (FX (w.alloc (.cells f.cells 229)) w.heap.size f):=bD w _;have HEL:=aj hEl;have HTE:=aj Gc;have HAK:=aj ha;have C:=aj m;have hlE:E.length<=1000000000000:=by omega
 clear hP hE X hT hF hB hEl Gc ha m;generalize hKK:mV (kz (f,L))=b at *;generalize adH (kz (f,L))=H at *;have HK:=aj hKK;generalize Av:B.getD b 0=a at *;have uh:=aj Av;clear hKK Av;have Be:=G.o.vbs;have hfb:=G.o.fb;have eG:=G.o.sz;have y:f.cells=#[zI f.kd,.int .u64 (wd f.s 0),.int .u64 (wd f.s 1),.int .u64 (wd f.s 2),.int .u64 (wd f.s 3),zI f.fi,zI f.se,f.vp,.bool f.te,zI f.lk,zI f.ak,zI f.lf]:=rfl;rw[y]at HH SM |-;clear y;delta zF;go_in
 go_wp2_with (go_at_call 155;refine(HH.o _ ((aB.refl _ _).alloc _)).mono ?_;rintro e v ⟨rfl,aR⟩;have F2:=aj (((aB.refl [] w).alloc _).trans aR);have X2:=aj (FX.aC XB0.o aR (by simp));have T2:=HT.o.aC F2.o (by simp);have q1:zC v fb (1+b) (zI a):=(by have:=T2.cell b q;rw[uh.o]at this;exact this);clear aR T2)
 go_loopg [6] a (λk vi wr=>vi=zI k/\Z_ (Tu (E.map kz) (kz (f,L)) k)/\FX wr w.heap.size f/\aB [] w wr)
 case atStart=>exact⟨rfl,ST0,X2,F2⟩
 case round =>
  clear X2 F2 q1;obtain⟨rfl,z,r,bH⟩:=hrel;have Y:=aj r;have F3:=aj bH;clear r bH;have T3:=aj (G.o.aY F3);have r0:=(HT.o.aC F3.o (by simp)).c0
  by_cases h0:gk=0
  .subst h0
   have hnD:Z_ (d∉D):=by
    intro hm;obtain⟨i,hi⟩:=a1T hm;have:=HP.o.tb.found C.o hi;exact z.o.2 i (by omega) this.1 this.2
   have A:=HT.o.aC F3.o (by simp);have q1:zC wr fb (1+b) (zI a):=by have:=A.cell b q;rw[uh.o]at this;exact this
   have q2:=A.fz (1+b);have q3:=Y.o.fz 9;obtain⟨W,V,T,h,R,P,O,N,J,I,l,j⟩:=Y.o.get;clear W V T h R P O N J l j;have X4:=aj (Y.o.auT a);have F4:Z_ (aB [] w (wr.setCell (zB w.heap.size 9) (zI a))):=F3.o.setCell (.inr (a0b _)) _;have T4:=aj (G.o.aY F4);have T5:=aj (T4.o.apT b E.length q);have F5:Z_ (aB [fb] w ((wr.setCell (zB w.heap.size 9) (zI a)).setCell (zB fb (1+b)) (zI E.length))):=aB.setCell F4.o.nil (.inl (by simp)) _;have X5:Z_ (FX ((wr.setCell (zB w.heap.size 9) (zI a)).setCell (zB fb (1+b)) (zI E.length)) w.heap.size { f with lk:=a }):=X4.o.aC (S:=[fb]) ((aB.refl _ _).setCell (.inl (by simp)) _) (by simp;omega);clear A Y T3;go_wp2_with fail
   generalize ((wr.setCell (zB w.heap.size 9) (zI a)).setCell (zB fb (1+b)) (zI E.length))=wc at T5 F5 X5 |-;clear q1 q2 q3 I r0 X4 F4 T4;obtain⟨atp,u,T5l⟩:=T5.o.row;have r0:=u.c0;have r1:=u.fz 0;have TT:=aj u;have TL:Z_ (wc.ownsRow base 229 12 (zS vb E.length atp) E.length (fv (E.map Prod.fst))):=by
    have:=T5l;unfold FL at this;rw[a0y]at this;exact this
   clear u T5l;obtain⟨W,V,T,h,R,P,O,N,J,I,l,j⟩:=X5.o.get;simp only at W V T h R P O N J I l j;have z5:=F5.o.size;have awD:=TT.o.lt;have bJ:fb≠vb:=by omega
   have hvp:f.vp.oneCell'=true:=HPL.o.cell1;obtain⟨i9,hi,Qa,Yk,Il⟩:=info_parts adG;have g2:∀o:Obj,(wc.alloc o).drew.frozen? (zA fb)=false:=λo=>((((aB.refl [] wc).alloc o).drew).frozen awD (by simp)).trans r1
   go_region_law ((refine step_append_lies _ (by rfl) _ _ _ (by rfl) base 229 i9 _ 12 112 Tryz.underlying230 hi Qa Yk Il rfl (by omega) (zS vb E.length atp) E.length (fv (E.map Prod.fst)) (by rfl) (by exact TL.o.alloc _) (zA wc.heap.size) 1 1 (FV.cells ⟨f.kd,f.s,f.fi,f.se,f.vp,f.te,a,f.ak,f.lf⟩).toList (by rfl) (by rfl) (World.news_of_block (cs:=FV.cells ⟨f.kd,f.s,f.fi,f.se,f.vp,f.te,a,f.ak,f.lf⟩) (t:=229) (fr:=(0,0)) (by exact bD _ _)) (FV.one _ (by exact hvp)) (by omega) (by unfold maxLen;omega) (by omega) (by simp;omega) (wc.heap.size+1) (by simp) ?_;intro gg aU w4 bT aH bq AO;have c4:=(aH.cell_far (zA fb) (by simp;omega) (by simp[Value.ownBlock];omega));have f4:=(aH.frozen_far (zA fb) (by simp;omega) (by simp[Value.ownBlock];omega))))
   all_goals
    have T6:=T5.o.aY (((aB.refl [] wc).alloc (Obj.cells (FV.cells ⟨f.kd,f.s,f.fi,f.se,f.vp,f.te,a,f.ak,f.lf⟩) 229)).drew);have P5:PL wc f.vp L:=HPL.o.aC F5.o (λk m=>G.o.wu k (by simp at m;simp[m]));have P6:=P5.aC (((aB.refl [] wc).alloc (Obj.cells (FV.cells ⟨f.kd,f.s,f.fi,f.se,f.vp,f.te,a,f.ak,f.lf⟩) 229)).drew) (qV.nil _);have T7:=aj (TE.grow (f:=⟨f.kd,f.s,f.fi,f.se,f.vp,f.te,a,f.ak,f.lf⟩) (L:=L) T6 P6 hs aH bT);have Q7:Z_ (TP (E++[(⟨f.kd,f.s,f.fi,f.se,f.vp,f.te,a,f.ak,f.lf⟩,L)]) (B.set b E.length) (D++[d]) ak c):=by
     have:=HP.o.push HT.o.2 (f:=⟨f.kd,f.s,f.fi,f.se,f.vp,f.te,a,f.ak,f.lf⟩) (L:=L) C.o hw hnD.o HTE.o (by show a=B.getD (mV (kz (f,L))) 0;rw[HK.o];exact uh.o.symm) HAK;rw[show mV (kz ((⟨f.kd,f.s,f.fi,f.se,f.vp,f.te,a,f.ak,f.lf⟩:FV),L))=b from HK.o]at this;exact this
    have F7:Z_ (aB [fb,vb] w w4):=aB.grown ((F5.o.mono (by intro k _ m;simp at m;simp[m])).alloc _).drew aH (λk m=>by simp[Value.ownBlock]at m;subst m;exact .inl (by simp));have M7:Z_ (gg=vb\/w.heap.size<=gg):=by
     rcases bq with e|e
     .simp[Value.ownBlock]at e;exact .inl e.symm
     exact .inr (by omega)
    clear aH bT bq T6 P5 P6 W V T h R P O N J I l j;go_wp2;go_ret;refine⟨gg,[d],E.length,_,_,rfl,T7,Q7,?_,Gd,?_,⟨aB.setCell F7.o (.inl (by simp)) _,M7⟩,λe he=>?_,?_⟩
    .intro x r
     rcases a0e.1 r with r|r
     .exact hU x r
     simp at r;subst r;exact hd
    .rw[HEL.o];simp
    .rcases a0e.1 he with he|he
     .exact .inl he
     simp at he;subst he;exact .inr ⟨rfl,rfl⟩
    have hz:=HZZ.o.mono (w':=w4.setCell (zA fb) (zS gg (E.length+1) aU)) (by have:=F7.o.size;simpa using this);refine⟨hz.1,λe he=>?_⟩;rcases a0e.1 he with he|he
    .exact hz.2 e he
    simp at he;subst he;exact HFZ
  have aL:2<=gk/\gk<E.length:=by
   rcases z.o.1 with e|⟨e1,e2,_⟩
   .exact absurd e h0
   exact⟨e1,by simpa using e2⟩
  obtain⟨⟨g,M⟩,p⟩:∃e,E[gk]?=some e:=⟨E[gk]'aL.2,a0a aL.2⟩;have nJ:(g,M)∈E:=a0B p;have hkE:Z_ ((E.map kz)[gk]?=some (kz (g,M))):=by show _=_;simp[p]
  have HGM:=aj p;obtain⟨c0,c1,c2,c3,c4,c5,c6,c7,c8,c9,c10,c11⟩:=Vr T3.o p;obtain⟨W,V,T,h,R,P,O,N,J,I,l,j⟩:=Y.o.get;have SM2:Z_ (zF 156 #[.agg #[zI g.kd,.int .u64 (wd g.s 0),.int .u64 (wd g.s 1),.int .u64 (wd g.s 2),.int .u64 (wd g.s 3),zI g.fi,zI g.se,g.vp,.bool g.te,zI g.lk,zI g.ak,zI g.lf],.agg #[zI f.kd,.int .u64 (wd f.s 0),.int .u64 (wd f.s 1),.int .u64 (wd f.s 2),.int .u64 (wd f.s 3),zI f.fi,zI f.se,f.vp,.bool f.te,zI f.lk,zI f.ak,zI f.lf]] wr.drew λe v=>(∃b:Bool,e=zR (.bool b)/\(b=true->kz (g,M)=kz (f,L))/\(b=false->kz (g,M)≠kz (f,L)))/\aB [] wr.drew v):=SM.o wr.drew g M F3.o.drew nJ;clear p;have aag:=aL.1;go_wp2_with fail
  go_region_with (go_at_call 156;refine SM2.o.mono ?_;rintro e w4 ⟨⟨bb,rfl,kv,jR⟩,nL⟩;have HB1:=aj kv;have HB2:=aj jR;have F4:=aj nL;clear kv jR nL)
  all_goals
   have F5:=aj (F3.o.drew.trans F4);have T5:=aj (G.o.aY F5);have r5:=(HT.o.aC F5.o (by simp)).c0;have c5':=(Vr T5.o HGM).2.2.2.2.2.2.2.2.2.1;have X5:=aj ((show FX wr.drew w.heap.size f from Y.o).aC F4.o (by simp));clear c0 c1 c2 c3 c4 c5 c6 c7 c8 c9 c10 c11 W V T h R P O N J I l j r0 SM2;cases bb with
   | true =>
     have hD:Z_ (D[gk]?=some d):=HP.o.tb.sameKey C.o aag (by rw[<-HB1.o rfl];exact hkE);go_wp2;go_ret;exact⟨vb,[],gk,E,B,rfl,T5,by simpa using HP.o,by simpa using hU,Gd,by simpa using hD.o,FQ.keepR (FQ.refl _ _ _) F5,λe he=>.inl he,HZZ.o.mono F5.o.size⟩
   | false =>
     have hN:=z.o.next (by omega) hkE.o (HB2.o rfl);have hl:g.lk=lastB mV (E.map kz) (mV (kz (g,M))) gk:=HP.o.lk gk _ aag HGM;rw[<-hl]at hN;have HN:=aj hN;clear hN hl;go_wp2;go_roundg g.lk
     case measure=>exact HN.o.2.1
     case rel=>exact⟨rfl,HN.o.2.2,X5,F5⟩
def Lc(base:Nat)(w:World)(fb vb:Nat)(D:List NF)(ak c:Nat)(U:List NF)(Z:LN)(f:FV)(L:LN)(d:NF)
 (h:ST base w fb vb D ak c U Z) (i:PL w f.vp L) (b:f.s<2 ^ 256) (j:Ky D D.length (kz (f,L)) d) (a:WC d) (hd:d∈U) (r:f.te=dK d) (k:f.ak=0) (o:∀x n cc,f.vp=.slice (some x) n cc->x.block∉Z) :
 zF 145 #[zP fb,.agg f.cells] w (RQ base w fb vb D ak c U Z d):=by
 obtain⟨E,B,hE,m,l,q,p⟩:=h;exact(adI base w fb vb E B D ak c U Z f L d hE m l q i b j a hd r k p o).mono λe w' g=>g.rq
def qW:NF->Nat
 | .zero=>0
 | .one=>1
 | .set _=>2
 | .pair _ _=>3
 | .sum _=>4
 | .star _=>5
structure LK(w:World)(fb vb:Nat)(D:List NF)(ak c i:Nat)(d:NF)(f:FV)(L:LN)(cap:Nat):Prop where
 tab:w.cell? (zA fb)=some (zS vb D.length cap)
 lt:i<D.length
 get:w.cell? (zB vb (i*12))=some (zI f.kd)/\w.cell? (zB vb (i*12+1))=some (.int .u64 (wd f.s 0))/\w.cell? (zB vb (i*12+2))=some (.int .u64 (wd f.s 1))/\w.cell? (zB vb (i*12+3))=some (.int .u64 (wd f.s 2))/\w.cell? (zB vb (i*12+4))=some (.int .u64 (wd f.s 3)) /\
  w.cell? (zB vb (i*12+5))=some (zI f.fi)/\w.cell? (zB vb (i*12+6))=some (zI f.se)/\w.cell? (zB vb (i*12+7))=some f.vp/\w.cell? (zB vb (i*12+8))=some (.bool f.te)/\w.cell? (zB vb (i*12+9))=some (zI f.lk)/\w.cell? (zB vb (i*12+10))=some (zI f.ak)/\w.cell? (zB vb (i*12+11))=some (zI f.lf)
 kd:f.kd=qW d
 te:f.te=dK d
 st:f.s<2 ^ 256
 pl:PL w f.vp L
 pair:∀a b,d=.pair a b->D[f.fi]?=some a/\D[f.se]?=some b
 star:∀a,d=.star a->D[f.fi]?=some a
 set:∀s,d=.set s->f.s=s
 sum:∀l,d=.sum l->(∀j∈L,j<D.length)/\l=gU (L.map λj=>D.getD j .zero)/\L.Pairwise (·<·)
 ale:f.ak<=ak
 mem:1<=ak->f.ak=ak->D[f.lf]?=some (left c d)
theorem ST.look {base:Nat}{c:Nat}(h:ST base w fb vb D ak c U Z)(r:D[i]?=some d):∃f L cap,LK w fb vb D ak c i d f L cap:=by
 obtain⟨E,B,hE,m,_,_,_⟩:=h;have G:=(a0d.1 r).1;have F:=m.len;obtain⟨⟨f,L⟩,he⟩:∃e,E[i]?=some e:=⟨E[i]'(by omega),a0a (by omega)⟩;have C:=a0B he;obtain⟨cap,I,_⟩:=hE.row;have p:(E.map kz)[i]?=some (kz (f,L)):=by simp[he]
 have two:i=0\/i=1\/2<=i:=by omega
 refine⟨f,L,cap,by rw[<-F];exact I.c0,G,Vr hE he,?_,m.te i _ d he r,hE.st _ C,hE.pl _ C,?_,?_,?_,?_,m.al _ C,λJ z=>m.mm J i _ d he r z⟩
 .rcases two with rfl|rfl|z
  .have:=m.tb.k0;rw[p]at this;simp[kz]at this
   have e:=m.tb.d0;rw[r]at e;simp at e;rw[e];exact this.1
  .have:=m.tb.k1;rw[p]at this;simp[kz]at this
   have e:=m.tb.d1;rw[r]at e;simp at e;rw[e];exact this.1
  rcases m.tb.ky i _ d z p r with g|⟨o,v,u,t,q,x,y,n,k,A⟩|⟨o,v,u,t,q,n,k⟩|⟨o,v,u,t,q,x,n,k⟩
  .rw[g.2.2.2.2];exact g.1
  .rw[A];exact o
  .rw[k];exact o
  rw[k];exact o
 .rintro a b rfl
  have z:=m.tb.ge r (by simp) (by simp);rcases m.tb.ky i _ _ z p r with g|⟨o,v,u,t,q,x,y,n,k,A⟩|⟨o,v,u,t,q,n,k⟩|⟨o,v,u,t,q,x,n,k⟩
  .grind
  .simp at A;obtain⟨rfl,rfl⟩:=A;exact⟨n,k⟩
  .simp at k
  simp at k
 .rintro a rfl
  have z:=m.tb.ge r (by simp) (by simp);rcases m.tb.ky i _ _ z p r with g|⟨o,v,u,t,q,x,y,n,k,A⟩|⟨o,v,u,t,q,n,k⟩|⟨o,v,u,t,q,x,n,k⟩
  .grind
  .simp at A
  .simp at k
  simp at k;subst k;exact n
 .rintro s rfl
  have z:=m.tb.ge r (by simp) (by simp);rcases m.tb.ky i _ _ z p r with g|⟨o,v,u,t,q,x,y,n,k,A⟩|⟨o,v,u,t,q,n,k⟩|⟨o,v,u,t,q,x,n,k⟩
  .have:=g.2.2.2.2;simp at this;exact this.symm
  .simp at A
  .simp at k
  simp at k
 rintro l rfl;have z:=m.tb.ge r (by simp) (by simp);rcases m.tb.ky i _ _ z p r with g|⟨o,v,u,t,q,x,y,n,k,A⟩|⟨o,v,u,t,q,n,k⟩|⟨o,v,u,t,q,x,n,k⟩
 .grind
 .simp at A
 .simp at k;exact⟨λj H=>by have:=n j H;omega,k,q⟩
 simp at k
def ST.pP {base:Nat}{c:Nat}(h:ST base w fb vb D ak c U Z):D[0]?=some .zero/\D[1]?=some .one/\D.Nodup/\(∀d∈D,WC d)/\(∀x∈D,x∈U)/\fb<base/\base<=w.heap.size/\base<=vb/\vb<w.heap.size/\qV w [fb,vb]:=by obtain⟨E,B,hE,a,e,_,_⟩:=h;have b:=hE.vbs;exact⟨a.tb.d0,a.tb.d1,a.tb.nd,a.tb.wc,e,hE.fb,hE.sz,b.1,b.2.1,hE.wu⟩
def ST.zs {base:Nat}{c:Nat}(h:ST base w fb vb D ak c U Z):∀k∈Z,k<w.heap.size:=by obtain⟨E,B,_,_,_,_,a⟩:=h;exact a.1
theorem ST.num {base:Nat}{c:Nat}(h:ST base w fb vb D ak c U Z){x:NF}(b:D[i]?=some x)(a:D[j]?=some y):i=j↔x=y:=by
 constructor
 .grind
 rintro rfl;exact yI h.pP.2.2.1 b a
def RQ.here {base:Nat}{c:Nat} {r:Nat}(h:ST base w fb vb D ak c U Z)(f:aB [] w w')(a:D[r]?=some y):RQ base w fb vb D ak c U Z y (zR (zI r)) w' :=
 ⟨vb,[],r,rfl,by simpa using h.aY f,by simpa using a,FQ.keepR (FQ.refl _ _ _) f⟩
def RQ.later {base:Nat}{a:Nat}{c:Nat}(f:FQ fb vb a w w1)(h:RQ base w1 fb a (D++R) ak c U Z y e w'):RQ base w fb vb D ak c U Z y e w':=by obtain⟨b,k,r,j,i,g,d⟩:=h;exact⟨b,R++k,r,j,by simpa using i,by simpa using g,f.trans d⟩
theorem RQ.keepR {base:Nat}{c:Nat}(h:RQ base w fb vb D ak c U Z y e w1)(f:aB [] w1 w'):RQ base w fb vb D ak c U Z y e w':=by obtain⟨a,j,r,i,g,d,b⟩:=h;exact⟨a,j,r,i,g.aY f,d,FQ.keepR b f⟩
theorem rU {x:NF}(h:D[i]?=some x):(D++R)[i]?=some x:=by grind
theorem IL.cell {base:Nat}{g:Nat} {L:LN}(h:IL base w (zS g n cap) L)(j:Nat)(b:j<L.length):zC w g j (zI (L[j]:Nat)):=by have a:=World.ownsRow.cells h (g:=g) rfl j (zI (L[j]:Nat)) (by simp[nv,b]);rw[add0]at a;exact a
theorem IL.fz {base:Nat}{g:Nat} {L:LN}(h:IL base w (zS g n cap) L)(j:Nat):w.frozen? (zB g j)=false:=by obtain⟨a,c,e⟩:=aW h;simp at e;obtain⟨_,rfl,_⟩:=e;exact World.ownsRow.frozenAt h j
theorem IL.set {base:Nat}{g:Nat} {L:LN}(h:IL base w (zS g n cap) L)(j m:Nat):IL base (w.setCell (zB g j) (zI m)) (zS g n cap) (L.set j m):=by obtain⟨a,c,e⟩:=aW h;simp at e;obtain⟨_,rfl,_⟩:=e;have:=(World.ownsRow.stored h j (zI m)).1;unfold IL;simpa[nv,a2d] using this
def BH {base b2:Nat} {e:TypeId} {size:Nat}(h:w.ownsRow base e size v n xs)(hb:b2<=base):w.ownsRow b2 e size v n xs:=by
 refine⟨h.1,?_⟩;rcases h.2 with b|⟨g,cap,cur,a,c,rest⟩
 .exact .inl b
 exact .inr ⟨g,cap,cur,a,a0h hb c,rest⟩
def akb(A:LN)(k y:Nat)(a:k<A.length):(A.take (k+1)++y::A.drop (k+1)).set (k+1) (A[k])=A.take k++A[k]::A.drop k:=by
 have b:A.take (k+1)=A.take k++[A[k]]:=by rw[a1c,a0a a];rfl
 rw[a0k a,b,a0M];rw[a1v _ _ (by simp;omega)];simp only[a1k,a2n (a3t a)];rw[show k+1-k=1 by omega]
 rfl
theorem ahD(A:LN)(k y m:Nat)(a:k<=A.length):(A.take k++y::A.drop k).set k m=A.take k++m::A.drop k:=by
 rw[a1v _ _ (by simp;omega)];simp only[a1k,a2n a,a2v]
 rfl
theorem apU(A:LN)(k y:Nat)(a:k<A.length)(h:k<(A.take (k+1)++y::A.drop (k+1)).length):(A.take (k+1)++y::A.drop (k+1))[k]=A[k]:=by rw[List.getElem_append_left (by simp;omega)];simp
theorem Cy(A:LN)(k y:Nat)(a:k<=A.length):(A.take k++y::A.drop k).length=A.length+1:=by simp;omega
def Vs(A T:LN):Prop:=A.Pairwise (·<=·)/\∀x,x∈A↔x∈T
theorem Vs.put {A L:LN}(h:Vs A (L.take j))(b:j<L.length)(a:k<=A.length)(d:∀x∈A.drop k,L[j]<x)(c:0<k->A.getD (k-1) 0<=L[j]):Vs (A.take k++L[j]::A.drop k) (L.take (j+1)):=by
 refine⟨arQ h.1 a d c,λx=>?_⟩;have e:L.take (j+1)=L.take j++[L[j]]:=by rw[a1c,a0a b];rfl
 rw[amw,h.2 x,e];simp only[a0e,a0w]
def afr(v:Value)(L:LN)(w:World)(hv:NL .i64 w v L)(hL:L.length<=9500000000000) :
 zF 171 #[v] w λe w'=>∃v' R,e=zR v'/\IL w.heap.size w' v' R/\RO R L/\aB [] w w':=by
 obtain⟨a,cap,rfl,V⟩:=hv;delta zF;go_in
 go_wp2_with fail
 go_loopg [3,13] L.length (λk vr D wr=>∃(j:Nat) (A:LN),j+k=L.length/\D=zI j/\IL w.heap.size wr vr A/\j<=A.length/\A.length<=j/\Vs A (L.take j)/\aB [] w wr)
 case atStart=>refine⟨0,[],by omega,rfl,World.ownsRow_lit _ #[] 0 (a0b _) (by unfold maxLen;omega) (by simp),by simp,by simp,⟨by simp,by simp⟩,zJ⟩
 case round =>
  obtain⟨j,A,hj,rfl,U,S9,hA2,RI,F⟩:=hrel;obtain⟨af,aa7,rfl⟩:=aW U;have z:=F.size;obtain⟨i,Vg⟩:∃i,i=wr:=⟨_,rfl⟩;subst Vg;obtain⟨go,iD⟩:∃go,go=gk:=⟨_,rfl⟩;subst iD
  by_cases aL:j<L.length
  .obtain⟨g,off,rfl,hg,H⟩:=V j aL
   have Y:zC i g (off+j) (zI (L[j]:Nat)):=(F.cell (p:=(zB g (off+j))) hg (by simp)).trans H;have P:∀k,k<=A.length->(∀x∈A.drop k,L[j]<x)->(0<k->A.getD (k-1) 0<=L[j])->Vs (A.take k++L[j]::A.drop k) (L.take (j+1)):=λk V h2 h3=>RI.put aL V h2 h3
   clear H;generalize L[j]=m at *;go_wp2_with (first | (at_builtin;refine vG rfl rfl w.heap.size (.slice af A.length aa7) A m i.heap.size rfl (U.alloc _) rfl (j6 rfl) (by omega) (by simp;omega) ?_;intro c u w5 B l I iE;have F5:=(F.alloc _).grown l (λk t=>Or.inr (U.lt _ t).1);clear l I))
   go_loopg [6] A.length (λk D wr=>D=zI k/\k<=A.length/\(∃y,IL w.heap.size wr (zS c (A.length+1) u) (A.take k++y::A.drop k))/\(∀x∈A.drop k,m<x)/\aB [] w wr)
   exact⟨by go_num,by omega,⟨m,by simpa using B⟩,by intro x S;simp at S,F5⟩
   .clear B F5 U F Y;obtain⟨rfl,t,⟨y,d⟩,dZ,X⟩:=hrel;have z6:=X.size;cases gk with
    | zero =>
      have q:=d.fz 0;obtain⟨C,qc⟩:∃C,zC wr c 0 C:=⟨_,d.cell 0 (by rw[Cy A 0 y (by omega)];omega)⟩;have P6:=P 0 (by omega) dZ (by omega);have V6:IL w.heap.size (wr.setCell (zA c) (zI m)) (zS c (A.length+1) u) (A.take 0++m::A.drop 0):=by have:=d.set 0 m;rw[ahD A 0 y m (by omega)]at this;exact this
      have h:=(d.lt _ rfl).1;go_wp2;go_roundg (go-1)
      .refine⟨j+1,_,by omega,by go_num,V6,?_,?_,P6,X.setCell (.inr h) _⟩
       .rw[Cy A 0 m (by omega)];omega
       rw[Cy A 0 m (by omega)];omega
      omega
    | succ k =>
      have f:k<A.length:=by omega
      have h:=(d.lt _ rfl).1;have q:=d.fz (k+1);obtain⟨C,qc⟩:∃C,zC wr c (k+1) C:=⟨_,d.cell (k+1) (by rw[Cy A (k+1) y (by omega)];omega)⟩;have qk:zC wr c k (zI (A[k]:Nat)):=by have:=d.cell k (by rw[Cy A (k+1) y (by omega)];omega);rw[apU A k y f]at this;exact this
      have SH:=akb A k y f;have DR:A.drop k=A[k]::A.drop (k+1):=a0k f;have W:A.getD k 0=A[k]:=by simp[List.getD,f]
      generalize A[k]=p at *
      by_cases T:m<p
      .have V6:IL w.heap.size (wr.setCell (zB c (k+1)) (zI p)) (zS c (A.length+1) u) (A.take k++p::A.drop k):=by have:=d.set (k+1) p;rw[SH]at this;exact this
       have awE:∀x∈A.drop k,m<x:=by
        intro x S;rw[DR]at S;rcases a0l.1 S with e|e
        .omega
        exact dZ x e
       go_wp2;go_roundg k;exact⟨by go_num,by omega,⟨p,V6⟩,awE,X.setCell (.inr h) _⟩;omega
      have P6:=(P (k+1) (by omega) dZ (by intro _;show A.getD k 0<=m;rw[W];omega));have V6:IL w.heap.size (wr.setCell (zB c (k+1)) (zI m)) (zS c (A.length+1) u) (A.take (k+1)++m::A.drop (k+1)):=by have:=d.set (k+1) m;rw[ahD A (k+1) y m (by omega)]at this;exact this
      go_wp2;go_roundg (go-1)
      .refine⟨j+1,_,by omega,by go_num,V6,?_,?_,P6,X.setCell (.inr h) _⟩
       .rw[Cy A (k+1) m (by omega)];omega
       rw[Cy A (k+1) m (by omega)];omega
      omega
  have E:j=L.length:=by omega
  have N:Vs A L:=by have:=RI;rw[E,a2h]at this;exact this
  obtain⟨a',c',e',HN⟩:=xV U;simp only[Value.slice.injEq,a1W]at e';obtain⟨rfl,rfl⟩:=e';clear RI E V;go_wp2_with fail
  go_loopg [7,53] A.length (λk vo D wr=>∃(b:Nat) (O:LN),b+k=A.length/\D=zI b/\IL i.heap.size wr vo O/\O.length<=b/\RO O (A.take b)/\aB [] i wr)
  case atStart=>refine⟨0,[],by omega,rfl,World.ownsRow_lit _ #[] 0 (a0b _) (by unfold maxLen;omega) (by simp),by simp,⟨by simp,by simp⟩,zJ⟩
  case round =>
   obtain⟨b,O,hj2,rfl,n,hO,o,r⟩:=hrel;obtain⟨ao,J,rfl⟩:=aW n;have zo:=r.size;obtain⟨s,Z⟩:∃s,s=wr:=⟨_,rfl⟩;subst Z
   by_cases ng:b<A.length
   .obtain⟨g,off,rfl,hg,H⟩:=HN b ng
    have Y:zC s g (off+b) (zI (A[b]:Nat)):=(r.cell (p:=(zB g (off+b))) hg (by simp)).trans H;have ST:=aoF N.1 ng o;clear H;cases b with
    | zero =>
      have M:=ST.1 (.inl rfl);rw[a1Q]at Y;generalize A[0]=m at *;go_wp2_with (first | (at_builtin;refine vG rfl rfl i.heap.size (.slice ao O.length J) O m s.heap.size rfl (n.alloc _) rfl (j6 rfl) (by omega) (by simp;omega) ?_;intro c u w5 B l I iE;have F5:=(r.alloc _).grown l (λk t=>Or.inr (n.lt _ t).1);clear l I))
      go_roundg (gk-1);exact⟨1,O++[m],by omega,by go_num,by simpa using B,by simp only[a0p,a0r,a1e];omega,M,F5⟩;omega
    | succ k =>
      obtain⟨g2,ato,e2,iM,G⟩:=HN k (by omega);simp only[Option.some.injEq,Addr.mk.injEq,a2u]at e2;obtain⟨rfl,rfl⟩:=e2;have JK:zC s g (off+k) (zI (A[k]'(by omega):Nat)):=(r.cell (p:=(zB g (off+k))) iM (by simp)).trans G;have W:A.getD k 0=A[k]'(by omega):=by simp[List.getD,show k<A.length by omega]
      clear G;generalize A[k]'(by omega)=p at *;generalize A[k+1]=m at *
      by_cases T:p=m
      .have M:=(ST.2 (λe=>e.elim (λe=>by omega) (λe=>e (by show A.getD k 0=m;rw[W,T]))))
       subst T;clear ST;go_wp2;go_roundg (gk-1);exact⟨k+1+1,O,by omega,by go_num,n,by omega,M,r⟩;omega
      have M:=(ST.1 (.inr (by show A.getD k 0≠m;rw[W];exact T)));have hb:((p:Int) != (m:Int))=true:=by rw[a1M];omega
      clear ST;go_wp2_with (first | (at_builtin;refine vG rfl rfl i.heap.size (.slice ao O.length J) O m s.heap.size rfl (n.alloc _) rfl (j6 rfl) (by omega) (by simp;omega) ?_;intro c u w5 B l I iE;have F5:=(r.alloc _).grown l (λk t=>Or.inr (n.lt _ t).1);clear l I))
      go_roundg (gk-1);exact⟨k+1+1,O++[m],by omega,by go_num,by simpa using B,by simp only[a0p,a0r,a1e];omega,M,F5⟩;omega
   have E:b=A.length:=by omega
   have RO2:RO O L:=by have:=o;rw[E,a2h]at this;exact⟨this.1,λx=>(this.2 x).trans (N.2 x)⟩
   clear o E;go_wp2;go_ret;exact⟨_,O,rfl,BH n z,RO2,F.trans r⟩
theorem RQ.first {base:Nat}{c:Nat}(f:aB [] w w1)(h:RQ base w1 fb vb D ak c U Z y e w'):RQ base w fb vb D ak c U Z y e w' :=
 RQ.later (R:=[]) (FQ.keepR (FQ.refl _ _ _) f) (by simpa using h)
def awF(h:a=b):((a:Int)==(b:Int))=true:=by subst h;simp
def atr(h:a≠b):((a:Int)==(b:Int))=false:=by rw[a0j];omega
def abb(h:a≠0):((a:Int)==0)=false:=by rw[a0j];omega
def afs(h:a≠1):((a:Int)==1)=false:=by rw[a0j];omega
def aft(Z:LN):∀x n c,(Value.slice none 0 0)=.slice (some x) n c->x.block∉Z:=by intro x n c e;simp at e
def Ke(s:Nat):NF:=if s=0 then .zero else .set s
def apV(a:s<2 ^ 256)(w:World):(Op.equalIn 10000 218 (.agg #[.int .u64 (wd s 0),.int .u64 (wd s 1),.int .u64 (wd s 2),.int .u64 (wd s 3)]) (.agg #[.int .u64 0,.int .u64 0,.int .u64 0,.int .u64 0])).run Tryz.prog w=.ok (decide (s=0)) w:=by have:=apS a (t:=0) (by decide) w;simpa[wd] using this
theorem afu(kd fi se:Nat){te:Bool}(c b a:Int)(f:(kd:Int)=c)(e:(fi:Int)=b)(d:(se:Int)=a):FV.cells ⟨kd,0,fi,se,vp,te,0,0,0⟩=#[zI c,.int .u64 0,.int .u64 0,.int .u64 0,.int .u64 0,zI b,zI a,vp,.bool te,zI 0,zI 0,zI 0]:=by subst f e d;simp[FV.cells,wd]
theorem asu:FV.cells ⟨2,s,0,0,zN,false,0,0,0⟩=#[zI 2,.int .u64 (wd s 0),.int .u64 (wd s 1),.int .u64 (wd s 2),.int .u64 (wd s 3),zI 0,zI 0,zN,.bool false,zI 0,zI 0,zI 0]:=by simp[FV.cells]
theorem bv0:bv 0=.agg #[.int .u64 0,.int .u64 0,.int .u64 0,.int .u64 0]:=by simp[bv,wd]
def asv(w:World):(Op.equalIn 10000 218 (.agg #[.int .u64 0,.int .u64 0,.int .u64 0,.int .u64 0]) (.agg #[.int .u64 0,.int .u64 0,.int .u64 0,.int .u64 0])).run Tryz.prog w=.ok true w:=by have:=apV (s:=0) (by decide) w;simpa[wd] using this
theorem RE.first {base:Nat} {E:List (FV × LN)}{c:Nat} {L:LN}(f:aB [] w w1)(h:RE base w1 fb vb E D ak c U Z y vp L e w'):RE base w fb vb E D ak c U Z y vp L e w':=by obtain⟨a,R,r,n,o,m,l,k,j,i,g,d,b⟩:=h;exact⟨a,R,r,n,o,m,l,k,j,i,g,FQ.aba f d,b⟩
def apW(base:Nat)(w:World)(fb vb:Nat)(E:List (FV × LN))(B:LN)(D:List NF)(ak c:Nat)(U:List NF)(Z:LN)(s:Nat)(hE:TE base w fb vb E B ak)(g:TP E B D ak c)(a:∀x∈D,x∈U)(j:U.length<=1000000000000)(f:s<2 ^ 256)(l:s≠0->.set s∈U)(i:ZZ w E Z) :
 zF 135 #[zP fb,bv s] w (RE base w fb vb E D ak c U Z (Ke s) zN []):=by
 have m:=g.tb.d0
 by_cases b:s=0
 .subst b
  rw[bv0];have p:=asv;delta zF;go_in
  go_wp2;go_ret;exact⟨vb,[],0,E,B,rfl,hE.aY zJ,by simpa using g,by simpa using a,j,by simpa[Ke] using m,FQ.keepR (FQ.refl _ _ _) zJ,λe he=>.inl he,i.mono (by simp)⟩
 have o:∀w',aB [] w w'->zF 145 #[zP fb,.agg #[zI 2,.int .u64 (wd s 0),.int .u64 (wd s 1),.int .u64 (wd s 2),.int .u64 (wd s 3),zI 0,zI 0,zN,.bool false,zI 0,zI 0,zI 0]] w' (RE base w' fb vb E D ak c U Z (.set s) zN []):=by intro w' F;have:=adI base w' fb vb E B D ak c U Z ⟨2,s,0,0,zN,false,0,0,0⟩ [] (.set s) (hE.aY F) g a j (PL.nil _) f (.inl ⟨rfl,rfl,rfl,rfl,rfl⟩) ⟨⟨a2P b,f⟩,trivial⟩ (l b) rfl rfl (i.mono F.size) (aft Z);rw[asu]at this;exact this
 have p:=apV f;have d:Ke s=.set s:=by simp[Ke,b]
 have k:decide (s=0)=false:=by simp[b]
 rw[d];unfold bv;delta zF;go_in
 go_wp2_with (go_at_call 145;refine(o _ zJ).mono ?_;rintro e q h;have n:=RE.first zJ h;obtain⟨_,_,r,_,_,rfl,_⟩:=h)
 go_ret;exact n
def apX(base:Nat)(w:World)(fb vb:Nat)(D:List NF)(ak c:Nat)(U:List NF)(Z:LN)(s:Nat)(h:ST base w fb vb D ak c U Z)(b:s<2 ^ 256)(f:s≠0->.set s∈U) :
 zF 135 #[zP fb,bv s] w (RQ base w fb vb D ak c U Z (Ke s)):=by
 obtain⟨E,B,hE,g,a,j,i⟩:=h;exact(apW base w fb vb E B D ak c U Z s hE g a j b f i).mono λe w' d=>d.rq
def anl(base:Nat)(w:World)(fb vb:Nat)(D:List NF)(ak c:Nat)(U:List NF)(Z:LN)(a:NF)(i:Nat)(h:ST base w fb vb D ak c U Z)(b:D[i]?=some a)(q:iH a∈U) :
 zF 147 #[zP fb,zI i] w (RQ base w fb vb D ak c U Z (iH a)):=by
 obtain⟨f,L,cap,K⟩:=h.look b;have y:=K.lt;have hlen:=h.len;have t0:=K.tab;have k0:=K.get.1;have E:=h.pP.1;have k:=h.pP.2.1;have d:=h.num b h.pP.1;have n1:=h.num b h.pP.2.1;have kd:=K.kd;rw[kd]at k0;clear kd K
 by_cases m:i=0
 .have:=d.1 m;subst this;subst m
  clear d n1;delta zF;go_in
  go_wp2;go_ret;exact RQ.here (r:=1) h zK k
 by_cases l:i=1
 .have:=n1.1 l;subst this;subst l
  clear d n1;delta zF;go_in
  go_wp2;go_ret;exact RQ.here (r:=1) h zK k
 have C:=abb m;have b1:=afs l;have m0:a≠.zero:=λe=>m (d.2 e)
 have m1:a≠.one:=λe=>l (n1.2 e)
 clear d n1;have o:∀w',aB [] w w'->(∀x,a≠.star x)->zF 145 #[zP fb,.agg #[zI 5,.int .u64 0,.int .u64 0,.int .u64 0,.int .u64 0,zI i,zI 0,zN,.bool true,zI 0,zI 0,zI 0]] w' (RQ base w' fb vb D ak c U Z (iH a)):=by
  intro w' F n;have j:iH a=.star a:=by cases a<;>first | rfl|exact absurd rfl m0|exact absurd rfl m1|exact absurd rfl (n _)
  have v:=h.pP.2.2.2.1 a (a0B b);rw[j]at q |-;have g:=WC.star v;rw[j]at g;have:=Lc base w' fb vb D ak c U Z ⟨5,0,i,0,zN,true,0,0,0⟩ [] (.star a) (h.aY F) (PL.nil _) (a2S 256) (.inr (.inr (.inr ⟨rfl,rfl,rfl,rfl,y,a,b,rfl⟩))) g q rfl rfl (aft Z);rw[afu 5 i 0 5 i 0 rfl rfl rfl]at this;exact this
 have B:(i:Int)<D.length:=by omega
 cases a with
 | star x =>
   clear o;delta zF;go_in
   simp only[qW]at k0;go_wp2;go_ret;exact RQ.here (r:=i) h zK b
 | zero=>exact absurd rfl m0
 | one=>exact absurd rfl m1
 | _ =>
   have A:=(o w zK (by intro x e;simp at e));clear o;simp only[qW]at k0;delta zF;go_in
   go_wp2_with (go_at_call 145;refine A.mono ?_;rintro e t ⟨u,R,r,rfl,s,p,hq⟩;have z:=(show RQ base w fb vb D ak c U Z _ (zR (zI r)) t from ⟨u,R,r,rfl,s,p,hq⟩);clear s p hq)
   go_ret;exact z
end
end Go.Proofs.YtaokcijfoopcoaaGreat
