import Derived.Test.YtedmellodofajaaGreatDoorJ4
import Derived.Great.BuildSlice
import Derived.Test.YtedmellodofajaaGreatDoorJ1
set_option linter.unusedVariables false
set_option linter.unusedSimpArgs false
set_option linter.unnecessarySimpa false
set_option linter.defProp false
set_option maxRecDepth 100000
set_option maxHeartbeats 8000000
namespace Go.Proofs.YtedmellodofajaaGreatDoor
open Go.RowKit
section
variable {l ls t:List NF} {A X Y g x:NF} {w w':World} {a b:Value} {p s:Nat} {hi k:Int} {r:LB} {L:List Bool} {S:LN}
def aju(h:∀p∈l,iU p=true):parts (mkS l)=l:=by
 match l,h with
 | [],_=>rfl
 | [x],h=>exact wJ (h x (by simp))
 | x::y::r,_=>rfl
def amx(a:∀x∈ls,wf x):parts (bQ ls)=gU (bN (ls.flatMap parts)) :=
 aju λp b=>Zo (Zp a) p (kK b)
theorem acW(h:WC x):(parts x).Nodup/\∀p∈parts x,dF p=true->p=.set (bf (parts x)):=by
 have d:bQ [x]=x:=Pv h.1 h.2;have c:∀y ∈ [x],wf y:=by simp;exact h.1
 have a:=amx c;rw[d]at a;simp only[a1i,a2E,a0R]at a;refine⟨by rw[a];exact Cb (xA _),?_⟩;intro p b f;rw[a]at b;rcases jl.1 (kK b) with⟨_,e⟩|⟨_,e⟩
 .grind
 exact e
def PE(h:WC x) {V:List NF}(c:∀p∈parts x,dF p=true\/p=.one\/p∈V):(parts x).length<=V.length+2:=by
 have:=qP (b:=.one::.set (bf (parts x))::V) (acW h).1 (by
  intro p a;rcases c p a with e|e|e
  .grind [acW]
  .rw[e];simp
  simp[e])
 simpa using this
def ajv:∀{b:NF},can b->∀x∈elems b,can x:=by
 intro b;refine NF.ind (P:=λb=>can b->∀x∈elems b,can x) ?_ b;intro b e hb x c;cases b with
 | pair a d =>
   simp only[elems,a0l]at c;rcases c with rfl|c
   .exact hb.1
   exact e d (by simp[NF.size];omega) hb.2 x c
 | zero=>simp[elems]at c;subst c;exact hb
 | one=>simp[elems]at c;subst c;exact hb
 | set s=>simp[elems]at c;subst c;exact hb
 | sum l=>simp[elems]at c;subst c;exact hb
 | star a=>simp[elems]at c;subst c;exact hb
def agt(d:can X)(h:(Y,t)∈bG X):can Y/\∀x∈t,can x:=by
 revert Y t d
 refine NF.ind (P:=λX=>∀{Y:NF} {t:List NF},can X->(Y,t)∈bG X->can Y/\∀x∈t,can x) ?_ X;intro X f Y t d h;rcases tJ h with⟨rfl,rfl⟩|⟨a,b,s,rfl,g,rfl⟩|⟨a,b,rfl,g⟩|⟨l,z,rfl,hz,g⟩|⟨a,s,rfl,g,rfl⟩
 .grind
 .have e:=f a (by simp[NF.size];omega) d.1 g
  refine⟨e.1,?_⟩;intro x c;rcases a0e.1 c with c|c
  .exact e.2 x c
  exact ajv d.2 x c
 .exact f b (by simp[NF.size];omega) d.2 g
 .have e:=dx hz
  exact f z (by simp[NF.size];omega) (wM.1 d.1 z hz) g
 have e:=f a (by simp[NF.size]) d g;refine⟨e.1,?_⟩;intro x c;rcases a0e.1 c with c|c
 .exact e.2 x c
 grind
def ZG:∀{t:List NF},(∀x∈t,can x)->can (chain t)
 | [],_=>trivial
 | [x],h=>h x (by simp)
 | x::y::r,h=>⟨h x (by simp),ZG (t:=y::r) λz hz=>h z (a2l _ hz)⟩
def ala(a:wf X)(b:can X)(w:LN):can (dW X w):=by
 unfold dW
 induction w generalizing X with
 | nil=>exact b
 | cons c w d=>exact d (gI c X a) (acH c X a b)
def aur {h:NF}(hh:WC h)(ht:EV t)(a:∀x∈t,can x)(hd:t≠[]->dP h=true):WC (mk h t):=by
 by_cases e:t=[]
 .subst e;exact hh
 rw[lH e];exact⟨⟨hh.1,EW ht,hd e,fK ht e⟩,hh.2,ZG a⟩
def YP {w:LN}(e:WC X)(h:sV X w g):WC g:=by obtain⟨Z,u,Y,t,v,c,d,j,rfl,hh⟩:=h;have i:=bU e.1 c;have f:=agt e.2 c;have a:=bU i.1 d;have b:=agt f.1 d;exact aur ⟨BR a.1 v,ala a.1 b.1 v⟩ a.2 b.2 hh
theorem ajw:∀{a b:NF},wf a->aP a=true->aP b=true->aG a b∈uZ a b:=by
 intro a b c d hb;cases a with
 | zero=>simp[aP]at d
 | one=>simp[aP]at d
 | set s=>rw[nA rfl hb,aX rfl hb];simp
 | sum l=>rw[nA rfl hb,aX rfl hb];simp
 | star x=>rw[nA rfl hb,aX rfl hb];simp
 | pair x y=>have ht:aP (aG y b)=true:=eP c.2.1 c.2.2.2 hb;rw[dA hb,E5 hb,nA c.2.2.1 ht,aX c.2.2.1 ht];simp
theorem agu {a b:NF}(c:wf a)(d:aP a=true)(hb:aP b=true):parts (aG a b)=[aG a b]:=by
 have:∀{a b:NF},dP a=true->aP b=true->parts (aG a b)=[aG a b]:=λf e=>by rw[aX f e];rfl
 cases a with
 | zero=>simp[aP]at d
 | one=>simp[aP]at d
 | set s=>exact this rfl hb
 | sum l=>exact this rfl hb
 | star x=>exact this rfl hb
 | pair x y=>rw[dA hb];exact this c.2.2.1 (eP c.2.1 c.2.2.2 hb)
def UT{Z:NF}{u:List NF} {v w:LN} {c:Nat}(h:wf X)(f:(Z,u)∈bG X)(g:(Y,t)∈bG Z)(e:v <:+ w) {p:NF}
 (j:p∈parts (aG (left c (dW Y v)) (chain t))):dF p=true\/p=.one\/sV X (w++[c]) p:=by
 have i:=(bU h f).1;have a:=bU i g;have d:v++[c] <:+ w++[c]:=by obtain⟨z,rfl⟩:=e;exact⟨z,by simp⟩
 by_cases ht:t=[]
 .grind [chain,bF,tK,yH,Zr,yF]
 have k:=fK a.2 ht;have b:=gI c _ (BR a.1 v)
 by_cases l:aP (left c (dW Y v))=true
 .grind [agu,Zw,ajw]
 grind [fQ,aG,parts,chain,Zr,Pp]
def amy{p:NF} {w:LN} {c:Nat}(d:wf X)(h:sV X w g)(j:p∈parts (left c g)):dF p=true\/p=.one\/sV X (w++[c]) p:=by
 obtain⟨Z,u,Y,t,v,a,b,i,rfl,hh⟩:=h;have m:=(bU d a).1;have f:=bU m b;rcases Q9 (BR f.1 v) f.2 j with e|e|⟨x,c1,r,l,k⟩
 .exact .inl e
 .exact UT d a b i e
 exact UT (Y:=c1) (v:=[]) d a (uy b l) a2k k
def ae0 {w:LN}(i:WC X)(h:sV X w (.sum l)):l.length<=X.size*(w.length+1)+2:=by
 have j:=YP i h;obtain⟨Z,u,Y,t,v,f,g,m,c,hh⟩:=h;have ht:t=[]:=Decidable.byContradiction λe=>by rw[lH e]at c;simp at c
 subst ht;rw[show mk (dW Y v) []=dW Y v from rfl]at c;have C:=(bU i.1 f).1;have D:=(bU C g).1;have hlen:=PE j (V:=(bG Y).flatMap λo=>(DF v).map λb=>mk (dW o.1 b) o.2) (by
  intro p d;rw[c]at d;rcases yF Y D v p d with e|e|⟨B,s,b,z,y,F,x,E⟩
  .exact .inl e
  .exact .inr (.inl e)
  exact .inr (.inr (a1l.2 ⟨(B,s),z,a0q.2 ⟨b,Mw y,x.symm⟩⟩)))
 rw[show parts (.sum l)=l from rfl]at hlen;have n:((bG Y).flatMap λo=>(DF v).map λb=>mk (dW o.1 b) o.2).length=(bG Y).length*(v.length+1):=by
  rw[xD _ (λ_=>v.length+1) (λo=>by simp[Mx])];generalize bG Y=q
  induction q with
  | nil=>simp
  | cons a r k=>simp only[a0E,a0Y,k,a0r,a0J,a2T];omega
 rw[n,Zy]at hlen;have A:Y.size<=X.size:=a0h (pZ g).1 (pZ f).1;have H:v.length<=w.length:=m.length_le;have G:Y.size*(v.length+1)<=X.size*(w.length+1):=a0D A (by omega);omega
def acX {n:Nat}(h:∀x∈ls,(parts x).length<=n):(ls.flatMap parts).length<=ls.length*n:=by
 induction ls with
 | nil=>simp
 | cons a r b =>
   have e:=h a (by simp);have d:=b λx c=>h x (by simp[c])
   simp only[a1i,a0p,a0r,a0J,a2T];omega
def amz {w:LN} {c:Nat} {U:List NF}(h:WC X)(B:X.size<=3280)(hh:X.size*dZ X<=524800)(J:w.length<=39)(r:∀f,Made X w c f->f∈U)(g:NF):sV X w g->Fg c U g:=by
 have M:(Rj X (w++[c])).length<=21516800:=by rw[acL];have H:=agk X;simp only[a0p,a0r,a1e];have G:ou (bG X)*(w.length+(0+1)+1)<=524800*41:=a0D (by omega) (by omega);omega
 have m:∀g,sV X w g->(parts (left c g)).length<=21516802:=λg d=>by
  have:=PE (WC.left c (YP h d)) (V:=Rj X (w++[c])) λp i=>by
   rcases amy h.1 d i with e|e|e
   .exact .inl e
   .exact .inr (.inl e)
   grind [E6]
  omega
 refine NF.ind (P:=λg=>sV X w g->Fg c U g) ?_ g;intro g q d;cases g with
 | zero=>trivial
 | one=>trivial
 | set s=>trivial
 | star a=>exact⟨q a (by simp[NF.size]) (Zt h.1 d),λf z=>r f (ajl h.1 d f z)⟩
 | pair a b =>
   have k:=YP h d;refine⟨q a (by simp[NF.size];omega) (Zs h.1 d),λf z=>r f (ajk h.1 d f z),λC=>⟨q b (by simp[NF.size];omega) (Pw h.1 d),?_⟩⟩;have y:left c (.pair a b)=bQ [aG (left c a) b,left c b]:=by simp only[left,C,a0G];rfl
   have D:WC a:=⟨k.1.1,k.2.1⟩;have hb:WC b:=⟨k.1.2.1,k.2.2⟩;have o:∀x ∈ [aG (left c a) b,left c b],WC x:=by
    intro x j;simp at j;rcases j with rfl|rfl
    .exact WC.then (WC.left c D) hb
    exact WC.left c hb
   refine⟨λ_=>?_,λ_=>?_,?_,by simp⟩
   .have:=acJ (c:=c) d
    rw[y,UJ λx j=>(o x j).1]at this;exact r _ this
   .grind [Zx]
   have H:(parts (aG (left c a) b)).length<=21516802:=by
    have:=PE (o (aG (left c a) b) (by simp)) (V:=Rj X (w++[c])) λp i=>by
     obtain⟨Z,u,Y,t,v,E,F,ht,A,rfl,_,rfl⟩:=Mv h.1 d;rcases UT h.1 E F A i with e|e|e
     .exact .inl e
     .exact .inr (.inl e)
     grind [E6]
    omega
   have G:=m b (Pw h.1 d);simp only[a1i,a2E,a0p,a1e];omega
 | sum l =>
   have k:=YP h d;have hlen:=ae0 h d;have I:l.length<=131202:=by have:X.size*(w.length+1)<=3280*40:=a0D B (by omega);omega
   have y:left c (.sum l)=bQ (xy c l):=by simp only[left]
   have L:∀p∈l,WC p:=λp i=>⟨kJ.1 k.1.1 p i,wM.1 k.2.1 p i⟩
   have o:∀x∈xy c l,WC x:=by grind [fP,WC.left,WC]
   have hd:∀p∈l,p.size<(NF.sum l).size:=λp i=>by have:=dx i;simp[NF.size];omega
   refine⟨PD.2 λp i=>?_,λ_=>?_,λ_=>?_,?_,?_⟩
   .rcases Zu h.1 d i with e|e|e
    .cases p<;>simp[dF]at e;trivial
    .subst e;trivial
    exact q p (hd p i) e
   .have:=acJ (c:=c) d
    rw[y,UJ λx j=>(o x j).1]at this;exact r _ this
   .grind [Zx]
   .have:=acX (ls:=xy c l) (n:=21516802) (by
     intro x j;rw[fP]at j;obtain⟨p,i,rfl⟩:=a0q.1 j;rcases Zu h.1 d i with e|e|e
     .cases p<;>simp[dF]at e
      simp only[left];split<;>simp[parts]
     .subst e;simp[left,parts]
     exact m p e)
    rw[fP,a0y]at this;rw[fP];have N:l.length*21516802<=131202*21516802:=a0z _ I;omega
   grind [fP]
def Cc(j:wf x)(m:can x):(parts x).Nodup/\∃s,∀p∈parts x,dF p=true->p=.set s:=by
 cases x with
 | zero=>exact⟨by simp[parts],0,by simp[parts]⟩
 | one=>exact⟨by simp[parts],0,by simp[parts,dF]⟩
 | set s=>exact⟨by simp[parts],s,by simp[parts]⟩
 | pair a b=>exact⟨by simp[parts],0,by simp[parts,dF]⟩
 | star a=>exact⟨by simp[parts],0,by simp[parts,dF]⟩
 | sum l =>
   have c:mkS (gU (bN ([NF.sum l].flatMap parts)))=.sum l:=m.2;simp only[a1i,a2E,a0R,parts]at c;have g:∀p∈gU (bN l),iU p=true:=by
    intro p e;rcases wI (kK e) with h|h
    .exact ET h
    exact j.2 p h
   have i:gU (bN l)=l:=by
    generalize n:gU (bN l)=L at *
    match L,c,g with
    | [],c,_=>simp[mkS]at c
    | [y],c,g=>have f:y=.sum l:=c;have d:=g y (by simp);rw[f]at d;simp[iU]at d
    | y::z::r,c,_=>simp only[mkS,NF.sum.injEq]at c;exact c
   simp only[parts];refine⟨by rw[<-i];exact Cb (xA _),bf l,λp e k=>?_⟩;rw[<-i]at e;have f:=kK e;unfold bN at f;rcases a0e.1 f with d|d
   .simp[k]at d
   grind
def amA(z:NF):∀b:NF,ym b=false->b≠.one->ym (aG z b)=false/\aG z b≠.one:=by
 refine NF.ind (P:=λz=>∀b:NF,ym b=false->b≠.one->ym (aG z b)=false/\aG z b≠.one) ?_ z;intro z g b hb f;cases z with
 | zero=>exact⟨rfl,by simp[aG]⟩
 | one=>exact⟨by simpa[aG] using hb,by simpa[aG] using f⟩
 | pair c d =>
   cases b with
   | zero=>exact⟨by simp[aG,ym],by simp[aG]⟩
   | one=>exact absurd rfl f
   | set s=>simp[ym]at hb
   | sum l=>simp[ym]at hb
   | pair x y=>have e:=g d (by simp[NF.size];have:=NF.size_pos c;omega) (.pair x y) rfl (by simp);have h:=g c (by simp[NF.size];have:=NF.size_pos d;omega) _ e.1 e.2;simpa[aG] using h
   | star x=>have e:=g d (by simp[NF.size];have:=NF.size_pos c;omega) (.star x) rfl (by simp);have h:=g c (by simp[NF.size];have:=NF.size_pos d;omega) _ e.1 e.2;simpa[aG] using h
 | set s =>
   cases b with
   | one=>exact absurd rfl f
   | _=>simp[aG,ym]at hb |-
 | sum l =>
   cases b with
   | one=>exact absurd rfl f
   | _=>simp[aG,ym]at hb |-
 | star a =>
   cases b with
   | one=>exact absurd rfl f
   | _=>simp[aG,ym]at hb |-
theorem agv {y:NF}(c:ym y=false):bQ [y]=y:=by
 cases y with
 | set s=>simp[ym]at c
 | sum l=>simp[ym]at c
 | zero=>rfl
 | one=>simp[bQ,parts,bN,dF,bf,bits,gU,put,mkS]
 | pair a b=>simp[bQ,parts,bN,dF,bf,bits,gU,put,mkS]
 | star a=>simp[bQ,parts,bN,dF,bf,bits,gU,put,mkS]
theorem acY(c:Nat):∀l:List NF,(l.map (left c)).flatMap parts=((l.filter (λx=>!vP x)).map (left c)).flatMap parts
 | []=>rfl
 | x::r=>by
   have a:=acY c r;cases b:vP x
   .grind
   grind [vP,left,parts]
theorem Kh(c:Nat)(h:nU x=true):ym (left c x)=false:=by
 cases x with
 | set s=>simp only[left];split<;>rfl
 | star a=>simp only[left];exact(amA _ (.star a) rfl (by simp)).1
 | zero=>simp[nU]at h
 | one=>simp[nU]at h
 | pair a b=>simp[nU]at h
 | sum l=>simp[nU]at h
theorem ajx(c:Nat)(h:JE l=false):ym (left c (.sum l))=false:=by grind [JE,nU,left,bQ,fP,acY,agv,Kh]
def rG:NF->Bool | .pair _ _=>true | .sum l=>JE l|_=>false
def aus(c:Nat)(h:ym (left c Y)=true):rG Y=true:=by
 cases Y with
 | zero=>simp[left,ym]at h
 | one=>simp[left,ym]at h
 | set s=>rw[Kh c rfl]at h;cases h
 | star a=>rw[Kh c rfl]at h;cases h
 | pair a b=>rfl
 | sum l =>
   cases hb:JE l
   .rw[ajx c hb]at h;cases h
   simpa[rG] using hb
def aoG(X:NF):∀(K t:List NF) (Y:NF),(Y,t)∈hsk K X->t≠[]/\∃s,(Y,s)∈bG X/\t=s++K:=by
 refine NF.ind (P:=λX=>∀(K t:List NF) (Y:NF),(Y,t)∈hsk K X->t≠[]/\∃s,(Y,s)∈bG X/\t=s++K) ?_ X;intro X f K t Y h;cases X with
 | zero=>simp[hsk]at h
 | one=>simp[hsk]at h
 | set n=>simp[hsk]at h
 | pair a b =>
   simp only[hsk,a0e]at h;rcases h with h|h
   .grind [NF.size,NF.size_pos,elems,BM]
   grind [NF.size,NF.size_pos,BN]
 | sum l =>
   simp only[hsk,a0e]at h;rcases h with h|h
   .grind [fT]
   rw[MC]at h;obtain⟨x,g,h⟩:=h;obtain⟨e,s,d,c⟩:=f x (by have:=dx g;simp[NF.size];omega) _ t Y h;exact⟨e,s,JV g d,c⟩
 | star a =>
   simp only[hsk,a0e]at h;rcases h with h|h
   .split at h
    .simp at h
    simp at h;obtain⟨rfl,rfl⟩:=h;exact⟨by simp,[.star Y],by have:=wL (fT Y);simpa using this,rfl⟩
   obtain⟨e,s,d,c⟩:=f a (by simp[NF.size]) _ t Y h;exact⟨e,s++[.star a],wL d,by rw[c];simp⟩
def UU(X:NF):∀(Y:NF) (t:List NF),can X->(Y,t)∈bG X->can Y:=by
 refine NF.ind (P:=λX=>∀(Y:NF) (t:List NF),can X->(Y,t)∈bG X->can Y) ?_ X;intro X d Y t c h;cases X with
 | zero=>simp[bG]at h;rw[h.1];exact c
 | one=>simp[bG]at h;rw[h.1];exact c
 | set n=>simp[bG]at h;rw[h.1];exact c
 | pair a b =>
   simp only[bG,a0l,a0e,a0q,Prod.mk.injEq]at h;rcases h with⟨rfl,rfl⟩|⟨⟨f,s'⟩,ho,rfl,rfl⟩|ho
   .exact c
   .exact d a (by simp[NF.size];have:=NF.size_pos b;omega) _ s' c.1 ho
   exact d b (by simp[NF.size];have:=NF.size_pos a;omega) _ t c.2 ho
 | sum l =>
   simp only[bG,a0l,Prod.mk.injEq]at h;rcases h with⟨rfl,rfl⟩|ho
   .exact c
   rw[EZ]at ho;obtain⟨x,e,ho⟩:=ho;exact d x (by have:=dx e;simp[NF.size];omega) _ t (wM.1 c.1 x e) ho
 | star a =>
   simp only[bG,a0l,a0q,Prod.mk.injEq]at h;rcases h with⟨rfl,rfl⟩|⟨⟨f,s'⟩,ho,rfl,rfl⟩
   .exact c
   exact d a (by simp[NF.size]) _ s' c ho
def fO(k:Nat)(o:NF × List NF):Nat:=if dP o.1&&!(jK o.1&&o.2.isEmpty&&k==0) then nl o.1+tn o.2+k+1 else 0
theorem alb(h:t≠[]):3<=tn t:=by
 cases t with
 | nil=>exact absurd rfl h
 | cons x r=>simp[tn];omega
theorem agw(k:Nat)(o:NF × List NF)(t:List NF)(ht:t≠[]):fO k (o.1,o.2++t)=fO (k+tn t) o:=by grind [alb,tn,fO,ak9]
def amB(X:NF):∀k,wf X->((bG X).map (fO k)).sum<=oG X k:=by
 refine NF.ind (P:=λX=>∀k,wf X->((bG X).map (fO k)).sum<=oG X k) ?_ X;intro X d k c;cases X with
 | zero=>simp[bG,fO,dP]
 | one=>simp[bG,fO,dP]
 | set s=>simp[bG,fO,dP,jK,oG,tn]
 | pair a b =>
   have j:=d a (by simp[NF.size];have:=NF.size_pos b;omega) (k+(nl b+3)) c.1;have p:=d b (by simp[NF.size];have:=NF.size_pos a;omega) k c.2.1;simp only[bG,a0E,a0P,a2m,a0Y,a1Y,oG];have e:(bG a).map (fO k ∘ λo=>(o.1,o.2++elems b))=(bG a).map (fO (k+(nl b+3))):=by
    refine a2s λo _=>?_
    rw[Function.comp,agw k o (elems b) (EU b),acU c.2.1]
   rw[e];have f:fO k (NF.pair a b,[])=0:=by simp[fO,dP]
   rw[f,show k+nl b+3=k+(nl b+3) by omega];omega
 | sum l =>
   have n:∀(r:List NF),(∀x∈r,x∈l)->((Dz r).map (fO k)).sum<=XX r k:=by
    intro r
    induction r with
    | nil=>intro _;simp[Dz,XX]
    | cons x r g=>intro i;have j:=d x (by have:=dx (i x (by simp));simp[NF.size];omega) k (kJ.1 c.1 x (i x (by simp)));have p:=g (λy m=>i y (by simp[m]));simp only[Dz,a0P,a1Y,XX];omega
   have j:=n l (λ_ h=>h);simp only[bG,a0E,a0Y,oG];have f:fO k (NF.sum l,[])<=if k=0 then 0 else nl (.sum l)+k+1:=by simp[fO,dP,jK,tn]
   omega
 | star a =>
   have j:=d a (by simp[NF.size]) (k+(nl (.star a)+3)) c.1;simp only[bG,a0E,a2m,a0Y,oG];have e:(bG a).map (fO k ∘ λo=>(o.1,o.2++[.star a]))=(bG a).map (fO (k+(nl (.star a)+3))):=by simp[agw,tn]
   rw[e];have f:fO k (NF.star a,[])=nl (.star a)+k+1:=by simp[fO,dP,jK,tn]
   rw[f,show k+nl (.star a)+3=k+(nl (.star a)+3) by omega];omega
def fH(n:Nat)(o:NF × List NF):Nat:=if rG o.1 then sumTo (λj=>nB o.1 j+tn o.2+1) n else 0
def amC(X:NF):∀(K:List NF) (n:Nat),wf X->((hsk K X).map (fH n)).sum<=hG X (tn K) n:=by
 refine NF.ind (P:=λX=>∀(K:List NF) (n:Nat),wf X->((hsk K X).map (fH n)).sum<=hG X (tn K) n) ?_ X;intro X e K n d;cases X with
 | zero=>simp[hsk]
 | one=>simp[hsk]
 | set s=>simp[hsk]
 | pair a b=>have c:=e a (by simp[NF.size];have:=NF.size_pos b;omega) (elems b++K) n d.1;have q:=e b (by simp[NF.size];have:=NF.size_pos a;omega) K n d.2.1;rw[ak9,acU d.2.1,show nl b+3+tn K=tn K+nl b+3 by omega]at c;simp only[hsk,a0P,a1Y,hG];omega
 | sum l =>
   have p:∀(r:List NF),(∀x∈r,x∈l)->((Ww K r).map (fH n)).sum<=XY r (tn K) n:=by
    intro r
    induction r with
    | nil=>intro _;simp[Ww,XY]
    | cons x r f=>intro g;have c:=e x (by have:=dx (g x (by simp));simp[NF.size];omega) K n (kJ.1 d.1 x (g x (by simp)));have q:=f (λy m=>g y (by simp[m]));simp only[Ww,a0P,a1Y,XY];omega
   have c:=p l (λ_ h=>h);simp only[hsk,a0P,a1Y,hG];refine a2Y ?_ c;cases K with
   | nil=>simp
   | cons x k =>
     have u:=alb (t:=x::k) (by simp);have i:¬ tn (x::k)=0:=by omega
     simp only[a1I,a0A,a0I,a0E,a1V,a0Y,List.sum_nil,a1Q,i];unfold fH
     by_cases hb:JE l=true
     .simp[rG,hb,qJ,nB,oG,hG]
     simp[rG,hb]
 | star a =>
   have c:=e a (by simp[NF.size]) (.star a::K) n d.1;rw[show tn (.star a::K)=tn K+nl (.star a)+3 by simp[tn];omega]at c;simp only[hsk,a0P,a1Y,hG];refine a2Y ?_ c
   split
   .simp
   rename_i o
   simp only[a0E,a1V,a0Y,List.sum_nil,a1Q];unfold fH;have:rG a=gF a:=by cases a<;>simp[rG,gF,jK]at o |-
   by_cases hb:gF a=true
   .rw[a0m (show rG (a,NF.star a::K).1=true from this.trans hb),a0m hb]
    refine qJ λj _ _=>?_
    simp only[nB];rw[show tn (.star a::K)=tn K+nl (.star a)+3 by simp[tn];omega];omega
   grind
def ajy(f g:Nat->Nat):∀m,(∀i,i<m->f i<=g (m-i))->((List.range m).map f).sum<=sumTo g m:=by
 intro m
 induction m generalizing f with
 | zero=>intro _;simp[sumTo]
 | succ m a =>
   intro h;rw[List.range_succ_eq_map,a0E,a2m,a0Y];have c:=a (f ∘ Nat.succ) (λi hi=>by have:=h (i+1) (by omega);rw[show m+1-(i+1)=m-i by omega]at this;exact this)
   have b:=h 0 (by omega);simp only[sumTo];rw[Nat.sub_zero]at b;omega
def ZI {α:Type}(F:α->List NF)(c:α->Nat):∀l:List α,(∀x∈l,sW (F x)<=c x)->sW (l.flatMap F)<=(l.map c).sum
 | [],_=>by simp[sW]
 | x::r,h=>by have d:=h x (by simp);have b:=ZI F c r (λy a=>h y (by simp[a]));rw[a1i,ME];simp only[a0E,a0Y];omega
def auu(X:NF):wf X->can X->∀(w:LN) (n:Nat),w.length<=n->nl (dW X w)<=nB X n:=by
 refine NF.ind (P:=λX=>wf X->can X->∀(w:LN) (n:Nat),w.length<=n->nl (dW X w)<=nB X n) ?_ X;intro X C b u w n E;have a:=BR b w;obtain⟨B,f,j⟩:=Cc a (ala b u w)
 let K1:List NF:=(bG X).flatMap λo=>if dP o.1&&!(jK o.1&&o.2.isEmpty&&(0:Nat)==0) then [mk o.1 o.2] else []
 let K2:List NF:=(hsk [] X).flatMap λo=>if rG o.1 then (List.range w.length).map (λi=>mk (dW o.1 (w.drop i)) o.2) else []
 have I:sW K1<=oG X 0:=by
  refine a0h (ZI _ (fO 0) _ λo _=>?_) (amB X 0 b);unfold fO
  split
  .simp[sW,aoE]
  simp[sW]
 have H:sW K2<=hG X 0 n:=by
  have z:=amC X [] n b;rw[show tn []=0 from rfl]at z;refine a0h (ZI _ (fH n) _ λo ho=>?_) z;obtain⟨Y,t⟩:=o;obtain⟨ht,s,e,q⟩:=aoG X [] t Y ho;rw[a0R]at q;subst q;have J:=(pZ e).2 ht;have G:=bU b e;have l:=UU X Y t u e;unfold fH;simp only
  split
  .refine a0h ?_ (sumTo_le E)
   unfold sW;rw[a2m];refine ajy _ _ w.length λi hi=>?_
   have y:=C Y J G.1 l (w.drop i) (w.length-i) (by simp);simp only[Function.comp,aoE];omega
  simp[sW]
 have A:∀p∈parts (dW X w),p ∈ [NF.set f]++([NF.one]++(K1++K2)):=by
  intro p k;rcases ajr X b w p k with h|h|⟨Y,t,ho,hh,rfl⟩|⟨Y,t,v,ho,F,ht,d,m,hh,rfl,L⟩
  .rw[j p k h];simp
  .subst h;simp
  .refine a1o _ (a1o _ (a1B _ ?_))
   refine a1l.2 ⟨(Y,t),ho,?_⟩;have N:(dP Y&&!(jK Y&&t.isEmpty&&(0:Nat)==0))=true:=by
    rw[hh,a3k,a1j];cases g:jK Y
    .simp
    cases t with
    | nil =>
      have:=mY a k;cases Y<;>simp[jK]at g
      simp[mk,iU]at this
    | cons x r=>simp
   simp only[N,a0G,a0w]
  refine a1o _ (a1o _ (a1o _ ?_));refine a1l.2 ⟨(Y,t),F,?_⟩;have M:rG Y=true:=by
   cases v with
   | nil=>exact absurd rfl d
   | cons c v=>exact aus c (L [c] ⟨v,rfl⟩ (by simp))
  simp only[M,a0G,a0q,a2b];have T:v.length<=w.length:=m.length_le;have D:0<v.length:=a1O.2 d;exact⟨w.length-v.length,by omega,by rw[<-List.suffix_iff_eq_drop.1 m]⟩
 have y:=aeZ B A;rw[ME,ME,ME]at y;have S:sW [NF.set f]<=514:=by have:=YO f;simp[sW];omega
 have R:sW [NF.one]=2:=by simp[sW,nl,name]
 have O:=amu a;unfold nB;omega
def PI(A:NF):∀B:NF,wf A->aP A=true->wf B->aP B=true ->
 nl (aG A B)=nl A+nl B+3/\(∀k,oG (aG A B) k=oG A (k+nl B+3)+oG B k)/\∀k n,hG (aG A B) k n=hG A (k+nl B+3) n+hG B k n:=by
 refine NF.ind (P:=λA=>∀B:NF,wf A->aP A=true->wf B->aP B=true ->
  nl (aG A B)=nl A+nl B+3/\(∀k,oG (aG A B) k=oG A (k+nl B+3)+oG B k)/\∀k n,hG (aG A B) k n=hG A (k+nl B+3) n+hG B k n) ?_ A
 intro A i B q m j e;have head:dP A=true->nl (aG A B)=nl A+nl B+3/\(∀k,oG (aG A B) k=oG A (k+nl B+3)+oG B k)/\∀k n,hG (aG A B) k n=hG A (k+nl B+3) n+hG B k n:=λh=>by grind [aX,Fb,oG,hG]
 cases A with
 | zero=>simp[aP]at m
 | one=>simp[aP]at m
 | set s=>exact head rfl
 | sum l=>exact head rfl
 | star a=>exact head rfl
 | pair c d =>
   obtain⟨o,hd,g,b⟩:=q;obtain⟨d1,t,r⟩:=i d (by simp[NF.size];have:=NF.size_pos c;omega) B hd b j e;have p:=lY hd j;have f:=eP hd b e;obtain⟨c1,c2,c3⟩:=i c (by simp[NF.size];have:=NF.size_pos d;omega) (aG d B) o (head_tail g) p f;rw[dA e];refine⟨by rw[c1,d1,Fb];omega,λk=>?_,λk n=>?_⟩
   .grind [oG,nl]
   grind [hG,nl]
structure zL(X:NF)(t:Nat)(C E e:Nat->Nat):Prop where
 t:nl X<=t
 c:∀n,oG X 0+hG X 0 n<=C n
 e:∀k n,1<=k->oG X k+hG X k n<=E n+e n*k
theorem zL.set(s:Nat):zL (.set s) 513 (λ_=>514) (λ_=>514) (λ_=>1):=by
 have:=YO s;refine⟨this,λn=>?_,λk n _=>?_⟩
 .simp only[oG,hG];omega
 simp only[oG,hG];omega
theorem zL.mono {t a:Nat} {C E e f d b:Nat->Nat}(h:zL X t C E e)(ht:t<=a)(hC:∀n,C n<=f n)(hE:∀n,E n<=d n)(he:∀n,e n<=b n):zL X a f d b :=
 ⟨a0h h.t ht,λn=>a0h (h.c n) (hC n),λk n g=>a0h (h.e k n g) (a2Y (hE n) (a0z k (he n)))⟩
theorem zL.then{B:NF} {tA a:Nat} {u b eA CB j i:Nat->Nat}(f:zL A tA u b eA)(d:zL B a CB j i)(m:wf A)(o:aP A=true)(l:wf B)(tb:aP B=true) :
 zL (aG A B) (tA+a+3) (λn=>b n+eA n*(a+3)+CB n) (λn=>b n+eA n*(a+3)+j n) (λn=>eA n+i n):=by
 obtain⟨w,h,g⟩:=PI A B m o l tb;have x:=f.t;have v:=d.t;refine⟨by omega,λn=>?_,λk n p=>?_⟩
 .have s:=f.e (0+nl B+3) n (by omega)
  have r:=d.c n;have q:eA n*(0+nl B+3)<=eA n*(a+3):=a0o _ (by omega);rw[h,g];show _<=b n+eA n*(a+3)+CB n;omega
 have s:=f.e (k+nl B+3) n (by omega);have r:=d.e k n p;have q:eA n*(k+nl B+3)<=eA n*(a+3)+eA n*k:=by rw[<-a1A];exact a0o _ (by omega)
 rw[h,g];simp only[a0J];omega
theorem yJ(f g:Nat->Nat):∀n,sumTo (λj=>f j+g j) n=sumTo f n+sumTo g n
 | 0=>rfl
 | n+1=>by simp only[sumTo,yJ f g n];omega
theorem oO(a:Nat):∀n,sumTo (λ_=>a) n=n*a
 | 0=>by simp[sumTo]
 | n+1=>by simp only[sumTo,oO a n,a0J];omega
theorem zL.star {t:Nat} {C E e:Nat->Nat}(h:zL A t C E e) :
 zL (.star A) (t+1) (λn=>t+2+E n+e n*(t+4)+(if gF A then sumTo (λj=>C j+(t+523)) n else 0)) (λn=>t+2+E n+e n*(t+4)+(if gF A then sumTo (λj=>C j+(t+523)) n else 0)) (λn=>1+e n+(if gF A then n else 0)):=by
 have ht:=h.t;have d:=ZE A;have key:∀k n,oG (.star A) k+hG (.star A) k n<=t+2+E n+e n*(t+4)+(if gF A then sumTo (λj=>C j+(t+523)) n else 0)+(1+e n+(if gF A then n else 0))*k:=by
  intro k n;have g:=h.e (k+nl (.star A)+3) n (by omega);have f:e n*(k+nl (.star A)+3)<=e n*(t+4)+e n*k:=by rw[<-a1A];exact a0o _ (by omega)
  simp only[oG,hG,a0J]
  by_cases a:gF A=true
  .simp only[a,a0G]
   have b:sumTo (λj=>518+oG A 0+hG A 0 j+(k+nl (.star A)+3)+1) n<=sumTo (λj=>C j+(t+523)+k) n :=
    qJ λj _ _=>by have:=h.c j;omega
   rw[yJ (λj=>C j+(t+523)) (λ_=>k),oO]at b;omega
  grind
 exact⟨by omega,λn=>by have:=key 0 n;simpa using this,λk n _=>key k n⟩
def Rv(x:NF):1<=nl x:=by obtain⟨c,r,h,_⟩:=Ps x;simp[nl,h]
theorem On{t:Nat}(h:∀i,s.testBit i=true->t.testBit i=true):∀k,(setName s k).length<=(setName t k).length
 | 0=>a0b _
 | k+1=>by
   have a:=On h k;simp only[setName,a0p];cases e:s.testBit k
   .simp;omega
   rw[h k e];simp;omega
def agx{t:Nat}(h:∀i,s.testBit i=true->t.testBit i=true):nl (.set s)<=nl (.set t):=by simp_all[On,nl,name]
def ZK {a b:NF}(e:wf a)(hb:wf b)(hz:b≠.zero):nl a<=nl (aG a b):=by
 by_cases d:aP a=true
 .by_cases c:aP b=true
  .have:=(PI a b e d hb c).1;omega
  rcases fQ c with h|h
  .exact absurd h hz
  grind [bF]
 rcases fQ d with h|h
 .rw[h];exact Rv _
 rw[h];exact Rv _
def agy {a b:NF}(e:wf a)(hb:wf b)(hz:a≠.zero):nl b<=nl (aG a b):=by
 by_cases d:aP a=true
 .by_cases c:aP b=true
  .have:=(PI a b e d hb c).1;omega
  rcases fQ c with h|h
  .rw[h];exact Rv _
  rw[h];exact Rv _
 rcases fQ d with h|h
 .exact absurd h hz
 rw[h];exact a0b _
def aoH(f:NF->NF):∀l:List NF,(∀p∈l,nl p<=nl (f p))->sW l<=sW (l.map f)
 | [],_=>a0b _
 | p::r,h=>by have b:=h p (by simp);have a:=aoH f r (λq hq=>h q (by simp[hq]));rw[a0E,Ca,Ca];omega
def ZL {f:NF->NF}:∀{l:List NF},l.Nodup->(∀p∈l,∀q∈l,f p=f q->p=q)->(l.map f).Nodup
 | [],_,_=>List.nodup_nil
 | p::r,h,hi=>by obtain⟨i,g⟩:=a2R.1 h;rw[a0E,a2R];refine⟨λc=>?_,ZL g (λa d b hb=>hi a (by simp[d]) b (by simp[hb]))⟩;obtain⟨q,hq,e⟩:=a0q.1 c;have:=hi q (by simp[hq]) p (by simp) e;subst this;exact i hq
def acZ(d:∀x∈ls,wf x)(a:x∈ls)(k:can x) :
 ∃f:NF->NF,((parts x).map f).Nodup/\(∀p∈parts x,f p∈parts (bQ ls))/\∀p∈parts x,nl p<=nl (f p):=by
 obtain⟨j,s,o⟩:=Cc (d x a) k
 let S:=bf (ls.flatMap parts)
 have q:∀p∈parts x,dF p=true->S≠0/\nl p<=nl (.set S):=by
  intro p e c;cases p with
  | set m =>
    have h:(.set m:NF)∈ls.flatMap parts:=a1l.2 ⟨x,a,e⟩;have g:∀i,m.testBit i=true->S.testBit i=true:=by intro i hi;show(bf _).testBit i=true;rw[mg,a1s];exact⟨_,h,hi⟩
    refine⟨λl=>?_,agx g⟩;have b:=wK (d x a) e;have n:m≠0:=by have:=b.1;omega
    obtain⟨i,hi⟩:=Nat.exists_testBit_of_ne_zero n;have:=g i hi;rw[l]at this;simp at this
  | _=>simp[dF]at c
 refine⟨λp=>if dF p then .set S else p,ZL j ?_,?_,?_⟩
 .grind [dF]
 .grind [rD,jl,dF]
 grind
def MH(c:∀x∈ls,wf x)(a:x∈ls)(e:can x):(parts x).length<=(parts (bQ ls)).length:=by
 obtain⟨f,h,g,i⟩:=acZ c a e;have:=qP h (b:=parts (bQ ls)) (by intro p d;obtain⟨q,hq,rfl⟩:=a0q.1 d;exact g q hq)
 simpa using this
def ZM(h:iU x=true):nl x+1=sW (parts x):=by rw[wJ h];simp[sW]
def or_mono(i:∀x∈ls,wf x)(j:x∈ls)(k:can x):nl x<=nl (bQ ls):=by
 obtain⟨f,B,A,w⟩:=acZ i j k;have o:=aeZ (M:=parts (bQ ls)) B (by intro p t;obtain⟨q,hq,rfl⟩:=a0q.1 t;exact A q hq)
 have u:=a0h (aoH f _ w) o;have m:=MH i j k;have F:=Ms i;generalize bQ ls=y at *;have D:iU y=true->nl y+1=sW (parts y):=ZM
 by_cases g:iU x=true
 .have e:=ZM g
  by_cases d:iU y=true
  .have:=ZM d;omega
  cases y with
  | zero=>have:sW (parts .zero)=0:=rfl;omega
  | sum l=>have:=MF l;have C:sW (parts (.sum l))=sW l:=rfl;omega
  | _=>simp[iU]at d
 cases x with
 | zero=>exact Rv _
 | sum l =>
   have H:=MF l;have C:sW (parts (.sum l))=sW l:=rfl;have s:2<=l.length:=by
    have c:mkS (gU (bN ([NF.sum l].flatMap parts)))=.sum l:=k.2;simp only[a1i,a2E,a0R,parts]at c;generalize v:gU (bN l)=L at c
    match L,c with
    | [],c=>simp[mkS]at c
    | [z],c =>
      have hz:z∈gU (bN l):=by rw[v];simp
      have E:z=.sum l:=c;rcases wI (kK hz) with h|h
      .grind [dF]
      have:=(i _ j).2 z h;rw[E]at this;simp[iU]at this
    | a::b::r,c=>simp only[mkS,NF.sum.injEq]at c;rw[<-c];simp
   have n:2<=(parts y).length:=a0h s m;cases y with
   | sum l2=>have:=MF l2;have G:sW (parts (.sum l2))=sW l2:=rfl;omega
   | _=>simp[parts]at n
 | _=>simp[iU]at g
def agz {c:Nat} {a b:NF}(h:WC (.pair a b)):nl (left c a)<=nl (aG (left c a) b)/\nl (aG (left c a) b)<=nl (left c (.pair a b)):=by
 have f:WC a:=⟨h.1.1,h.2.1⟩;have hb:WC b:=⟨h.1.2.1,h.2.2⟩;have g:aP b=true:=h.1.2.2.2;have d:b≠.zero:=λe=>by rw[e]at g;simp[aP]at g
 refine⟨ZK (f.left c).1 hb.1 d,?_⟩;have ht:WC (aG (left c a) b):=(f.left c).then hb;simp only[left]
 split
 .exact or_mono (by simp;exact⟨ht.1,(hb.left c).1⟩) (by simp) ht.2
 exact a0b _
def agA {c:Nat} {a b:NF}(h:WC (.pair a b))(d:dK a=true):nl (left c b)<=nl (left c (.pair a b)):=by have e:WC a:=⟨h.1.1,h.2.1⟩;have hb:WC b:=⟨h.1.2.1,h.2.2⟩;have ht:WC (aG (left c a) b):=(e.left c).then hb;simp only[left];rw[a0m d];exact or_mono (by simp;exact⟨ht.1,(hb.left c).1⟩) (by simp) (hb.left c).2
theorem agB {c:Nat} {a:NF}(h:WC (.star a)):nl (left c a)<=nl (left c (.star a)):=by have b:WC a:=⟨h.1.1,h.2⟩;simp only[left];exact ZK (b.left c).1 h.1 (λe=>by simp at e)
mutual
def dB:RX->LN
 | .one s=>[s]
 | .seq l=>gB l
 | .alt l=>gB l
 | .rep x _ _=>dB x
def gB:List RX->LN
 | []=>[]
 | x::r=>dB x++gB r
end
theorem yK:∀(a b:List RX),gB (a++b)=gB a++gB b
 | [],b=>by simp[gB]
 | x::a,b=>by simp[gB,yK a b]
theorem Ce(x:RX):gB [x]=dB x:=by simp[gB]
def xJ:∀{k:Nat} {x y:RX} {t r:LB},dQ k x t=some (y,r)->dB y=dB x/\r.length<=t.length
 | 0,x,y,t,r,h=>by simp[dQ]at h
 | k+1,x,y,t,r,h=>by
   simp only[dQ]at h
   split at h
   .split at h
    .simp at h
    rename_i b r' hb
    have c:=E9 hb;have a:=xJ (k:=k) h;simp only[dB]at a;exact⟨a.1,by omega⟩
   simp only[Option.some.injEq,Prod.mk.injEq]at h;obtain⟨rfl,rfl⟩:=h;exact⟨rfl,a0b _⟩
mutual
theorem Kj:∀{k nest:Nat} {t r:LB} {x:RX},ik k nest t=some (x,r)->(dB x).length+r.length<=t.length/\r.length+1<=t.length
 | 0,nest,t,r,x,h=>by simp[ik]at h
 | k+1,nest,[],r,x,h=>by simp[ik]at h
 | k+1,nest,c::q,r,x,h=>by
   simp only[ik]at h
   split at h
   .split at h
    .simp at h
    split at h
    .simp at h
    rename_i g b a
    have e:=PK (acc:=[]) a
    split at h
    .rename_i f
     have j:=jg f;simp at h;obtain⟨rfl,rfl⟩:=h;simp[gB]at e;exact⟨by simp;omega,by simp;omega⟩
    simp at h
   split at h
   .split at h
    .simp at h
    rename_i s b a
    have e:=Kb a;simp at h;obtain⟨rfl,rfl⟩:=h;exact⟨by simp[dB];omega,by simp;omega⟩
   split at h
   .simp at h
    obtain⟨rfl,rfl⟩:=h;exact⟨by simp[dB];omega,by simp⟩
   split at h
   .cases q with
    | nil=>simp at h
    | cons d i=>simp at h;obtain⟨rfl,rfl⟩:=h;exact⟨by simp[dB];omega,by simp⟩
   split at h
   .simp at h
   simp at h;obtain⟨rfl,rfl⟩:=h;exact⟨by simp[dB];omega,by simp⟩
theorem yL:∀{k nest:Nat} {acc:List RX} {t r:LB} {x:RX},jF k nest acc t=some (x,r)->(dB x).length+r.length<=(gB acc).length+t.length/\r.length<=t.length
 | 0,nest,acc,t,r,x,h=>by simp[jF]at h
 | k+1,nest,acc,t,r,x,h=>by
   simp only[jF]at h
   split at h
   .grind [dB]
   split at h
   .simp at h
   rename_i e g b
   have i:=Kj b
   split at h
   .simp at h
   rename_i y f a
   have d:=xJ a;have c:=yL (acc:=acc++[y]) h;rw[yK,Ce,d.1,a0p]at c;exact⟨by omega,by omega⟩
theorem PK:∀{k nest:Nat} {acc:List RX} {t r:LB} {x:RX},iQ k nest acc t=some (x,r)->(dB x).length+r.length<=(gB acc).length+t.length/\r.length<=t.length
 | 0,nest,acc,t,r,x,h=>by simp[iQ]at h
 | k+1,nest,acc,t,r,x,h=>by
   simp only[iQ]at h
   split at h
   .simp at h
   rename_i a f c
   have e:=yL (acc:=[]) c;simp only[gB,a1e]at e
   split at h
   .rename_i b
    have g:=jg b;have d:=PK (acc:=acc++[a]) h;rw[yK,Ce,a0p]at d;exact⟨by omega,by omega⟩
   simp at h;obtain⟨rfl,rfl⟩:=h;simp only[dB,yK,Ce,a0p];exact⟨by omega,by omega⟩
end
mutual
def dI:RX->Nat
 | .one _=>1
 | .seq l=>bV l
 | .alt l=>bV l
 | .rep x lo hi=>if 40<dI x then dI x else dI x*times lo hi
def bV:List RX->Nat
 | []=>0
 | x::r=>dI x+bV r
end
mutual
def uO:RX->Prop
 | .one _=>True
 | .seq l=>mZ l
 | .alt l=>mZ l
 | .rep x lo hi=>uO x/\lo<=9/\(∀n,hi=some n->n<=9)
def mZ:List RX->Prop
 | []=>True
 | x::r=>uO x/\mZ r
end
theorem By:∀{a b:List RX},mZ (a++b)↔mZ a/\mZ b
 | [],b=>by simp[mZ]
 | x::a,b=>by simp[mZ,By (a:=a),and_assoc]
def ac0 {lo:Nat} {hi:Option Nat}(b:lo<=9)(a:∀n,hi=some n->n<=9):times lo hi<=10:=by
 cases hi with
 | none=>simp[times];omega
 | some n=>have:=a n rfl;simp[times];omega
mutual
theorem ZN:∀{e:RX},uO e->dI e<=400*jX e
 | .one _,_=>by simp[dI,jX]
 | .seq l,h=>MJ (show mZ l from h)
 | .alt l,h=>by have:=MJ (show mZ l from h);simp only[dI,jX];omega
 | .rep x lo hi,h=>by
   have c:=ZN (show uO x from h.1);have a:=ac0 h.2.1 h.2.2;have b:=vU lo hi;simp only[dI,jX]
   split
   .omega
   have:dI x*times lo hi<=40*10:=a0D (by omega) a;omega
theorem MJ:∀{l:List RX},mZ l->bV l<=400*gu l
 | [],_=>by simp[bV]
 | x::r,h=>by have b:=ZN h.1;have a:=MJ h.2;simp only[bV,gu];omega
end
mutual
theorem rZ:∀{e:RX},dI e<=40->mh e=dI e
 | .one _,_=>rfl
 | .seq l,h=>Cf (show bV l<=40 from h)
 | .alt l,h=>Cf (show bV l<=40 from h)
 | .rep x lo hi,h=>by
   simp only[dI]at h |-
   by_cases a:40<dI x
   .rw[a0m a]at h;omega
   rw[a0n a];simp only[mh];rw[rZ (e:=x) (by omega)]
theorem Cf:∀{l:List RX},bV l<=40->iO l=bV l
 | [],_=>rfl
 | x::r,h=>by simp only[bV]at h;simp only[iO,bV];rw[rZ (e:=x) (by omega),Cf (l:=r) (by omega)]
end
def ae1{t:LB} {lo:Nat} {hi:Option Nat}(h:dL t=some ((lo,hi),r)):lo<=9/\(∀n,hi=some n->n<=9):=by
 unfold dL at h
 split at h
 .simp at h
 rename_i a r' hd
 have e:=zz hd
 split at h
 .split at h
  .rename_i n c b
   have d:=zz b
   split at h
   .grind
   simp at h
  grind
 grind
def amD{t:LB} {b:Nat × Option Nat}(h:DJ t=some (b,r)):b.1<=9/\(∀n,b.2=some n->n<=9):=by
 cases t with
 | nil=>simp[DJ]at h
 | cons c q =>
   simp only[DJ]at h
   split at h
   .grind
   split at h
   .grind
   split at h
   .grind
   split at h
   .obtain⟨lo,hi⟩:=b
    exact ae1 h
   simp at h
def Wx:∀{k:Nat} {x y:RX} {t r:LB},uO x->dQ k x t=some (y,r)->uO y
 | 0,x,y,t,r,_,h=>by simp[dQ]at h
 | k+1,x,y,t,r,a,h=>by
   simp only[dQ]at h
   split at h
   .split at h
    .simp at h
    rename_i b r' hb
    have c:=amD hb;exact Wx (k:=k) (show uO (.rep x b.1 b.2) from ⟨a,c⟩) h
   simp only[Option.some.injEq,Prod.mk.injEq]at h;obtain⟨rfl,rfl⟩:=h;exact a
mutual
theorem ajz:∀{k nest:Nat} {t r:LB} {x:RX},ik k nest t=some (x,r)->uO x
 | 0,nest,t,r,x,h=>by simp[ik]at h
 | k+1,nest,[],r,x,h=>by simp[ik]at h
 | k+1,nest,c::q,r,x,h=>by
   simp only[ik]at h
   split at h
   .split at h
    .simp at h
    split at h
    .simp at h
    rename_i b f a
    have e:=UW (acc:=[]) trivial a
    split at h
    .simp at h
     obtain⟨rfl,rfl⟩:=h;exact e
    simp at h
   split at h
   .split at h
    .simp at h
    simp at h;obtain⟨rfl,rfl⟩:=h
    trivial
   split at h
   .simp at h
    obtain⟨rfl,rfl⟩:=h
    trivial
   split at h
   .cases q with
    | nil=>simp at h
    | cons d g =>
      simp at h;obtain⟨rfl,rfl⟩:=h
      trivial
   split at h
   .simp at h
   simp at h;obtain⟨rfl,rfl⟩:=h
   trivial
theorem ac1:∀{k nest:Nat} {acc:List RX} {t r:LB} {x:RX},mZ acc->jF k nest acc t=some (x,r)->uO x
 | 0,nest,acc,t,r,x,_,h=>by simp[jF]at h
 | k+1,nest,acc,t,r,x,a,h=>by
   simp only[jF]at h
   split at h
   .simp at h
    obtain⟨rfl,rfl⟩:=h;exact a
   split at h
   .simp at h
   rename_i e g c
   have d:=ajz c
   split at h
   .simp at h
   rename_i y f b
   exact ac1 (acc:=acc++[y]) (By.2 ⟨a,Wx d b,trivial⟩) h
theorem UW:∀{k nest:Nat} {acc:List RX} {t r:LB} {x:RX},mZ acc->iQ k nest acc t=some (x,r)->uO x
 | 0,nest,acc,t,r,x,_,h=>by simp[iQ]at h
 | k+1,nest,acc,t,r,x,a,h=>by
   simp only[iQ]at h
   split at h
   .simp at h
   rename_i c e d
   have b:=ac1 (acc:=[]) trivial d
   split at h
   .exact UW (acc:=acc++[c]) (By.2 ⟨a,b,trivial⟩) h
   simp at h;obtain⟨rfl,rfl⟩:=h;exact By.2 ⟨a,b,trivial⟩
end
theorem zM {t:LB} {x:RX}(h:fF t=some x):uO x:=by
 unfold fF at h
 split at h
 .rename_i y a
  simp at h;subst h;exact UW (acc:=[]) trivial a
 simp at h
inductive TR where
 | nil:TR
 | one:Nat->TR
 | both:TR->TR->TR
 | either:TR->TR->TR
 | often:TR->Nat->Option Nat->TR
mutual
def gW:RX->TR
 | .one s=>.one s
 | .seq l=>Ag .nil l
 | .alt l=>yu l
 | .rep x lo hi=>.often (gW x) lo hi
def Ag(r:TR):List RX->TR
 | []=>r
 | x::l=>Ag (.both r (gW x)) l
def yu:List RX->TR
 | []=>.nil
 | x::l=>Ah (gW x) l
def Ah(r:TR):List RX->TR
 | []=>r
 | x::l=>Ah (.either r (gW x)) l
end
def ac2:∀(l:List RX) (r:TR) (x:RX),Ag r (l++[x])=.both (Ag r l) (gW x)
 | [],r,x=>by simp only[a0V,Ag]
 | y::l,r,x=>by simp only[a0L,Ag];exact ac2 l _ x
def ac3:∀(l:List RX) (r:TR) (x:RX),Ah r (l++[x])=.either (Ah r l) (gW x)
 | [],r,x=>by simp only[a0V,Ah]
 | y::l,r,x=>by simp only[a0L,Ah];exact ac3 l _ x
def ajA {l:List RX}(h:l≠[])(x:RX):yu (l++[x])=.either (yu l) (gW x):=by
 cases l with
 | nil=>exact absurd rfl h
 | cons y l=>simp only[a0L,yu];exact ac3 l _ x
def dJ:TR->NF
 | .nil=>.one
 | .one s=>if s=0 then .zero else .set s
 | .both a b=>aG (dJ a) (dJ b)
 | .either a b=>iw (dJ a) (dJ b)
 | .often a lo hi=>kD (dJ a) lo hi
mutual
theorem Fj:∀(e:RX),tL e->dJ (gW e)=bn e
 | .one s,_=>rfl
 | .seq l,h=>by have:=ald l .nil WC.one h;simp only[gW,bn];rw[this];rfl
 | .alt l,h=>aoI l h.1 h.2
 | .rep x lo hi,h=>by simp only[gW,dJ,bn];rw[Fj x h.1]
theorem ald:∀(l:List RX) (r:TR),WC (dJ r)->jm l->dJ (Ag r l)=aG (dJ r) (sJ l)
 | [],r,_,_=>by simp only[Ag,sJ];rw[bF]
 | x::l,r,c,h=>by have b:=Fj x h.1;have a:WC (bn x):=uC h.1;simp only[Ag,sJ];rw[ald l _ (by simp only[dJ];rw[b];exact c.then a) h.2];simp only[dJ];rw[b,GK _ _ _ c.1 a.1]
theorem aoI:∀(l:List RX),jm l->l≠[]->dJ (yu l)=bQ (iP l)
 | [],_,h=>absurd rfl h
 | x::l,h,_=>by have a:=Fj x h.1;have b:WC (bn x):=uC h.1;simp only[yu,iP];rw[alf l (gW x) (by rw[a];exact b) h.2,a]
theorem alf:∀(l:List RX) (r:TR),WC (dJ r)->jm l->dJ (Ah r l)=bQ (dJ r::iP l)
 | [],r,a,_=>by simp only[Ah,iP];exact(Pv a.1 a.2).symm
 | x::l,r,a,h=>by have c:=Fj x h.1;have b:WC (bn x):=uC h.1;have e:=E8 h.2;simp only[Ah,iP];rw[alf l _ (by simp only[dJ];rw[c];exact a.or b) h.2];simp only[dJ];rw[c];have:=Ri (UK:=[dJ r,bn x]) (bs:=iP l) (by simp;exact⟨a.1,b.1⟩) (λy d=>(e y d).1);exact this
end
def zO:TR->Nat
 | .nil=>0
 | .one _=>1
 | .both a b=>zO a+zO b
 | .either a b=>zO a+zO b
 | .often a lo hi=>if 40<zO a then zO a else zO a*times lo hi
mutual
theorem Rx:∀(e:RX),zO (gW e)=dI e
 | .one s=>rfl
 | .seq l=>by have:=aoJ l .nil;simp only[gW,dI];rw[this];simp[zO]
 | .alt l=>arS l
 | .rep x lo hi=>by simp only[gW,zO,dI];rw[Rx x]
theorem aoJ:∀(l:List RX) (r:TR),zO (Ag r l)=zO r+bV l
 | [],r=>by simp[Ag,bV]
 | x::l,r=>by simp only[Ag,bV];rw[aoJ l,zO,Rx x];omega
theorem arS:∀(l:List RX),zO (yu l)=bV l
 | []=>rfl
 | x::l=>by simp only[yu,bV];rw[aoK l,Rx x]
theorem aoK:∀(l:List RX) (r:TR),zO (Ah r l)=zO r+bV l
 | [],r=>by simp[Ah,bV]
 | x::l,r=>by simp only[Ah,bV];rw[aoK l,zO,Rx x];omega
end
def jQ:TR->Nat × Bool
 | .nil=>(0,true)
 | .one _=>(1,true)
 | .both a b=>if 40<(jQ a).1+(jQ b).1 then (41,false) else ((jQ a).1+(jQ b).1,(jQ a).2&&(jQ b).2)
 | .either a b=>if 40<(jQ a).1+(jQ b).1 then (41,false) else ((jQ a).1+(jQ b).1,(jQ a).2&&(jQ b).2)
 | .often a lo hi=>if 40<(jQ a).1*times lo hi then (41,false) else ((jQ a).1*times lo hi,(jQ a).2)
def qa:∀t:TR,(jQ t).1<=41/\(zO t<=40->jQ t=(zO t,true))/\(40<zO t->(jQ t).2=false)
 | .nil=>by simp[jQ,zO]
 | .one s=>by simp[jQ,zO]
 | .both a b=>by
   obtain⟨e,d,c⟩:=qa a;obtain⟨b1,b2,f⟩:=qa b;simp only[jQ,zO]
   split
   .grind
   grind
 | .either a b=>by
   obtain⟨e,d,c⟩:=qa a;obtain⟨b1,b2,f⟩:=qa b;simp only[jQ,zO]
   split
   .grind
   grind
 | .often a lo hi=>by
   obtain⟨e,d,c⟩:=qa a;simp only[jQ,zO]
   by_cases g:40<zO a
   .grind
   grind
def kP:TR->LN
 | .nil=>[]
 | .one s=>[s]
 | .both a b=>kP a++kP b
 | .either a b=>kP a++kP b
 | .often a _ _=>kP a
mutual
theorem Bz:∀(e:RX),kP (gW e)=dB e
 | .one s=>rfl
 | .seq l=>by have:=agC l .nil;simp only[gW,dB];rw[this];rfl
 | .alt l=>amE l
 | .rep x lo hi=>by simp only[gW,kP,dB];rw[Bz x]
theorem agC:∀(l:List RX) (r:TR),kP (Ag r l)=kP r++gB l
 | [],r=>by simp[Ag,gB]
 | x::l,r=>by simp only[Ag,gB];rw[agC l,kP,Bz x,a0M]
theorem amE:∀(l:List RX),kP (yu l)=gB l
 | []=>rfl
 | x::l=>by simp only[yu,gB];rw[agD l,Bz x]
theorem agD:∀(l:List RX) (r:TR),kP (Ah r l)=kP r++gB l
 | [],r=>by simp[Ah,gB]
 | x::l,r=>by simp only[Ah,gB];rw[agD l,kP,Bz x,a0M]
end
def pq:Option Nat->Value
 | none=>.pointer none
 | some n=>zP n
def JF(k:Int)(L:List Bool)(a b:Value)(lo hi:Int):Array Value:=(zI k::(L.map Value.bool++[a,b,zI lo,zI hi])).toArray
def RK(w:World)(p:Nat)(k:Int)(L:List Bool)(a b:Value)(lo hi:Int):Prop :=
 w.heap[p]?=some (.cells (JF k L a b lo hi) 208 (0,0))/\L.length=256
theorem RK.lt{lo:Int}(h:RK w p k L a b lo hi):p<w.heap.size:=(a0c.1 h.1).1
theorem RK.fz{lo:Int}(h:RK w p k L a b lo hi)(o:Nat):w.frozen? (zB p o)=false:=by simp[World.frozen?,h.1]
theorem RK.aC{lo:Int}(h:RK w p k L a b lo hi)(f:aB S w w')(c:p∉S):RK w' p k L a b lo hi:=⟨(f.block p h.lt c).trans h.1,h.2⟩
theorem RK.at{lo:Int}(h:RK w p k L a b lo hi)(o:Nat)(v:Value)(e:(JF k L a b lo hi).toList[o]?=some v):w.cell? ⟨p,o,none⟩=some v:=by simp only[World.cell?,h.1];simpa using e
theorem RK.c0{lo:Int}(h:RK w p k L a b lo hi):zC w p 0 (zI k):=h.at 0 _ (by simp[JF])
def RK.cin{lo:Int}(h:RK w p k L a b lo hi)(c:Nat)(x:Bool)(d:L[c]?=some x):zC w p (1+c) (.bool x):=by have e:=(a0d.1 d).1;refine h.at (1+c) _ ?_;rw[a2w];simp only[JF,a1m];rw[a0s (by simp;exact e)];simp[d]
def Ry{lo:Int}(h:L.length=256)(j:Nat):(JF k L a b lo hi).toList[257+j]?=[a,b,zI lo,zI hi][j]?:=by grind [JF]
def RK.ends{lo:Int}(h:RK w p k L a b lo hi):zC w p 257 a/\zC w p 258 b/\zC w p 259 (zI lo)/\zC w p 260 (zI hi) :=
 ⟨h.at 257 _ (Ry h.2 0),h.at 258 _ (Ry h.2 1),h.at 259 _ (Ry h.2 2),h.at 260 _ (Ry h.2 3)⟩
theorem RK.put{lo:Int}(h:RK w p k L a b lo hi)(o:Nat)(v:Value)(c:Array Value)(e:(JF k L a b lo hi).toList.set o v=c.toList):(w.setCell (zB p o) v).heap[p]?=some (.cells c 208 (0,0)):=by
 have d:=h.1;simp only[World.setCell,a0v,d,a0G,a1x];have:(JF k L a b lo hi).setIfInBounds o v=c:=by apply Array.ext';simpa using e
 simp[this]
def RK.sin{lo:Int}(h:RK w p k L a b lo hi)(c:Nat)(x:Bool)(d:c<256):RK (w.setCell (zB p (1+c)) (.bool x)) p k (L.set c x) a b lo hi:=by refine⟨h.put (1+c) _ _ ?_,by rw[a3p];exact h.2⟩;rw[a2w];simp only[JF,a1S];rw[List.set_append_left _ _ (by simp[h.2];exact d)];simp[a2d]
def RK.slo{lo:Int}(h:RK w p k L a b lo hi)(m:Int):RK (w.setCell (zB p 259) (zI m)) p k L a b m hi:=by refine⟨h.put 259 _ _ ?_,h.2⟩;simp only[JF,a1S];rw[a1v _ _ (by simp[h.2])];simp[h.2]
def RK.shi{lo:Int}(h:RK w p k L a b lo hi)(m:Int):RK (w.setCell (zB p 260) (zI m)) p k L a b lo m:=by refine⟨h.put 260 _ _ ?_,h.2⟩;simp only[JF,a1S];rw[a1v _ _ (by simp[h.2])];simp[h.2]
def RK.new{lo:Int}(w:World)(c:L.length=256):RK (w.alloc (.cells (JF k L a b lo hi) 208)) w.heap.size k L a b lo hi:=⟨bD _ _,c⟩
def nF:List Bool:=List.replicate 256 false
theorem qQ:nF.length=256:=List.length_replicate
def bl(s:Nat):List Bool:=(List.range 256).map λi=>s.testBit i
theorem MK(s:Nat):(bl s).length=256:=by simp[bl]
theorem Ib(s i:Nat)(h:i<256):(bl s)[i]?=some (s.testBit i):=by simp[bl,h]
theorem Rz:bl 0=nF:=by apply a3g (by rw[MK,qQ]);intro i b a;simp only[bl,nF,List.getElem_map,List.getElem_replicate,Nat.zero_testBit]
theorem alg(s c:Nat)(a:c<256):(bl s).set c true=bl (s ||| 2 ^ c):=by
 apply a3g (by simp[bl]);intro i d b;simp only[bl,List.getElem_set,List.getElem_map,List.getElem_range,a2D,a2I]
 by_cases h:c=i
 .simp[h]
 simp[h]
def hiT:Option Nat->Int
 | none=>-1
 | some n=>n
def RN(w:World):Nat->TR->Prop
 | p,.nil=>RK w p 0 nF (.pointer none) (.pointer none) 0 0
 | p,.one s=>RK w p 1 (bl s) (.pointer none) (.pointer none) 0 0
 | p,.both x y=>∃a b,RK w p 2 nF (pq (some a)) (pq (some b)) 0 0/\RN w a x/\RN w b y
 | p,.either x y=>∃a b,RK w p 3 nF (pq (some a)) (pq (some b)) 0 0/\RN w a x/\RN w b y
 | p,.often x lo hi=>∃a,RK w p 4 nF (pq (some a)) (.pointer none) lo (hiT hi)/\RN w a x
def dX(w w':World):Prop:=∀(k:Nat) (cur:Array Value) (fz:Nat × Nat),w.heap[k]?=some (Obj.cells cur 208 fz)->w'.heap[k]?=w.heap[k]?
theorem RK.aY{lo:Int}(h:RK w p k L a b lo hi)(f:dX w w'):RK w' p k L a b lo hi:=⟨(f p _ _ h.1).trans h.1,h.2⟩
theorem RN.aY(f:dX w w'):∀{t:TR} {p:Nat},RN w p t->RN w' p t
 | .nil,p,h=>RK.aY h f
 | .one s,p,h=>RK.aY h f
 | .both x y,p,⟨a,b,d,c,e⟩=>⟨a,b,d.aY f,RN.aY f c,RN.aY f e⟩
 | .either x y,p,⟨a,b,d,c,e⟩=>⟨a,b,d.aY f,RN.aY f c,RN.aY f e⟩
 | .often x lo hi,p,⟨a,d,c⟩=>⟨a,d.aY f,RN.aY f c⟩
theorem dX.refl(w:World):dX w w:=λ_ _ _ _=>rfl
theorem dX.trans {a b c:World}(h:dX a b)(k:dX b c):dX a c:=λi cur fz e=>by have d:=h i cur fz e;rw[k i cur fz (d.trans e),d]
theorem dX.aC(f:aB S w w')(c:∀b∈S,∀cur fz,w.heap[b]?≠some (.cells cur 208 fz)):dX w w':=λk cur fz e=>f.block k (a0c.1 e).1 (λa=>c k a cur fz e)
theorem QP.keepR {b:Nat} {t:LB} {ok:Bool}(h:QP w b t ok)(f:aB [b] w w'):dX w w' :=
 dX.aC f (λk a cur fz e=>by simp only[a0w]at a;subst a;rw[h.1]at e;simp at e)
def hb:LB->UInt8
 | []=>0
 | c::_=>c
theorem uS(t:LB):gT t=(hb t).toNat:=by cases t<;>rfl
def dgL:LB:=[48,49,50,51,52,53,54,55,56,57]
def amF:bs dgL=⟨#[48,49,50,51,52,53,54,55,56,57]⟩:=rfl
def auw(t:LB):(oM dgL (hb t)&&!t.isEmpty)=(di t).isSome:=by
 cases t with
 | nil=>rfl
 | cons c r =>
   have:∀c:UInt8,(oM dgL c&&true)=(if 48<=c&&c<=57 then (some (0,r):Option (Nat × LB)) else none).isSome:=by intro c;have h:=vO (p:=λc=>(oM dgL c&&true)==(decide (48<=c)&&decide (c<=57))) (by decide +kernel) c;rw[a0W]at h;rw[h];cases (decide (48<=c)&&decide (c<=57))<;>rfl
   have h:=this c;simp only[hb,a1I,a1K];rw[h];simp only[di]
   split<;>rfl
def arU(t:LB)(h:oM dgL (hb t)=true):t.isEmpty=false:=by
 cases t with
 | nil=>revert h;decide
 | cons c r=>rfl
def Wy(b:Nat)(t:LB)(ok:Bool)(w:World)(h:QP w b t ok) :
 zF 145 #[zP b] w λe w'=>e=zR (zI (((hb t).toNat:Int)-48))/\QP w' b t.tail (ok&&(di t).isSome)/\aB [b] w w':=by
 have g:=amF;have k:=(hb t).toNat_lt;delta zF;go_in
 go_wp2_with fail
 refine(jY b t ok w h).mono ?_;rintro e f ⟨rfl,a,F1⟩;have c1:=a.c1;have i:=a.fz 1;rw[uS];have A:=vR (hb t) dgL f (by decide);rw[g]at A;go_wp2_with fail
 refine A.mono ?_;rintro e j ⟨rfl,rfl⟩;have c:=auw t;have l:=arU t;cases d:oM dgL (hb t)
 .have O:=a.off
  rw[d]at c;go_wp2;go_ret;refine⟨rfl,?_,F1.setCell (.inl (by simp)) _⟩;have:=c;rw[<-this];simp only[Bool.false_and,Bool.and_false];exact O
 go_wp2;go_ret;refine⟨rfl,?_,F1⟩;have:=c;rw[d]at this;rw[<-this,a3k];exact a
def nmL:LB:=[93,45,91]
def amG:bs nmL=⟨#[93,45,91]⟩:=rfl
def auy(c:UInt8):oM nmL c=(c==93||c==91||c==45):=by have h:=vO (p:=λc=>oM nmL c==(c==93||c==91||c==45)) (by decide +kernel) c;exact a0W.1 h
def MQ(b:Nat)(t:LB)(w:World)(e:Ending)(w':World):Prop :=
 ∃(n:UInt8) (r:LB) (ok:Bool),e=zR (zI n.toNat)/\QP w' b r ok/\aB [b] w w'/\((ok=true/\lh t=some (n,r))\/(ok=false/\lh t=none))
def AJ(c:UInt8)(n:Nat)(h:n<256):(((c.toNat:Nat):Int)==(n:Int))=(c==UInt8.ofNat n):=by
 by_cases e:c=UInt8.ofNat n
 .subst e
  have:(UInt8.ofNat n).toNat=n:=by simp;omega
  rw[this];simp
 have b:(c==UInt8.ofNat n)=false:=by simpa using e
 rw[b,a0j];intro d;apply e;have a:c.toNat=n:=by omega
 rw[<-a,UInt8.ofNat_toNat]
def RF(b:Nat)(t:LB)(w:World)(h:QP w b t true) :
 zF 162 #[zP b] w (MQ b t w):=by
 have q:=amG;have x:=(hb t).toNat_lt;delta zF;go_in
 go_wp2_with fail
 refine(jY b t true w h).mono ?_;rintro e m ⟨rfl,j,F1⟩;have c1:=j.c1;have v:=j.fz 1;rw[uS];have A:=vR (hb t) nmL m (by decide);rw[q]at A;go_wp2_with fail
 refine A.mono ?_;rintro e o ⟨rfl,rfl⟩;have g:=AJ (hb t) 92 (by decide);have l:=auy (hb t);cases k:oM nmL (hb t)
 .cases a:(hb t==92)
  .have i:(((hb t).toNat:Int)==92)=false:=g.trans a
   clear g;go_wp2;go_ret;refine⟨hb t,t.tail,true&&!t.isEmpty,rfl,j,F1,?_⟩;cases t with
   | nil=>exact .inr ⟨rfl,rfl⟩
   | cons c r=>refine .inl ⟨rfl,?_⟩;have f:=l;rw[k]at f;simp only[hb]at f a;simp only[lh,a,<-f,hb,a1L,a0A,a0I]
  have i:(((hb t).toNat:Int)==92)=true:=g.trans a;clear g;have s:t≠[]:=by intro e;rw[e]at a;revert a;decide
  go_wp2_with fail
  refine(jY b t.tail _ m j).mono ?_;rintro e o ⟨rfl,u,n⟩;have F2:=F1.trans n;clear n;rw[uS];have p:=(hb t.tail).toNat_lt;go_wp2;go_ret;refine⟨hb t.tail,t.tail.tail,_,rfl,u,F2,?_⟩;cases t with
  | nil=>exact absurd rfl s
  | cons c r =>
    simp only[hb]at a;cases r with
    | nil=>exact .inr ⟨rfl,by simp only[lh,a,a0G]⟩
    | cons d r=>exact .inl ⟨rfl,by simp only[lh,a,a0G,hb,a1L]⟩
 have O:=j.off;have a:(hb t==92)=false:=by
  have f:=l;rw[k]at f;cases hh:(hb t==92)
  .rfl
  rw[a0W]at hh;rw[hh]at f;revert f;decide
 have i:(((hb t).toNat:Int)==92)=false:=g.trans a;clear g;go_wp2;go_ret;refine⟨hb t,t.tail,false,rfl,O,F1.setCell (.inl (by simp)) _,.inr ⟨rfl,?_⟩⟩;cases t with
 | nil=>rfl
 | cons c r=>have f:=l;rw[k]at f;simp only[hb]at f a;simp only[lh,a,<-f,a0A,a0I,a0G]
def wN(L:List Bool)(lo:Nat):Nat->List Bool
 | 0=>L
 | j+1=>(wN L lo j).set (lo+j) true
theorem ZQ(s lo:Nat):∀j,lo+j<=256->wN (bl s) lo j=bl (vg s lo j)
 | 0,_=>rfl
 | j+1,h=>by rw[wN,ZQ s lo j (by omega),alg _ _ (by omega)];rfl
def PM(L:List Bool)(j:Nat):List Bool:=(L.take j).map (!·)++L.drop j
theorem Ji(L:List Bool):PM L 0=L:=by simp[PM]
def agE(L:List Bool)(j:Nat)(x:Bool)(h:L[j]?=some x):(PM L j)[j]?=some x:=by have a:=(a0d.1 h).1;unfold PM;rw[a0K (by simp;omega),a0y,a1k,a2n (by omega),a2v,a3u,a1Q,h]
def agF(L:List Bool)(j:Nat)(x:Bool)(h:L[j]?=some x):(PM L j).set j (!x)=PM L (j+1):=by
 have a:=(a0d.1 h).1;have he:=(a0d.1 h).2;unfold PM;rw[a1v _ _ (by simp;omega),a0y,a1k,a2n (by omega),a2v,a0k a,List.set_cons_zero,a0F a,a0P,a0M,he]
 rfl
theorem alh(s:Nat):PM (bl s) 256=bl (s ^^^ fU):=by unfold PM;rw[a0C (by rw[MK];exact a0b _),a0i (by rw[MK];exact a0b _),a0R];unfold bl;rw[a2m];apply a2s;intro i hi;have a:=a2b.1 hi;simp only[Function.comp,a2o,fU,a3c,a,decide_true];cases s.testBit i<;>rfl
def CQ(b p:Nat)(t:LB)(w:World)(e:Ending)(w':World):Prop :=
 ∃(r:LB) (ok:Bool) (L:List Bool),e=zQ #[]/\QP w' b r ok/\RK w' p 1 L (.pointer none) (.pointer none) 0 0/\aB [b,p] w w'/\((ok=true/\∃s,L=bl s/\nT t=some (s,r))\/(ok=false/\nT t=none))
theorem jf(c:UInt8)(a:c≠0)(t:LB):bA c t=(hb t==c):=by
 cases t with
 | nil=>simp[bA,hb];exact λe=>a e.symm
 | cons x r=>rfl
def ajB(t:LB):nT t=match fE (t.length+1) 0 (if bA 94 t then t.tail else t) with | none=>none|some (s,r)=>some (if bA 94 t then s ^^^ fU else s,r):=by
 unfold nT;cases bA 94 t
 .simp only[a0A,a0I]
  cases fE (t.length+1) 0 t with
  | none=>rfl
  | some x=>rfl
 rfl
theorem NY(k s:Nat)(t:LB):fE (k+1) s t=match tN t with | none=>none|some ((a,b),r)=>if bA 93 r then some (addRange s a b,r.tail) else fE k (addRange s a b) r:=rfl
def aB.in1{b:Nat}(h:aB [b] w w'):aB [b,p] w w':=h.mono (λk _ a=>by simp at a |-;exact .inl a)
def ZR {b:Option (Nat × LB)}{k:Nat}{a:LB} {n m:UInt8}(h:fE (k+1) s r=b)(hi:tN r=some ((n,m),a)) :
 n.toNat<=m.toNat->wN (bl s) n.toNat (m.toNat+1-n.toNat)=bl (addRange s n m)/\b=if bA 93 a then some (addRange s n m,a.tail) else fE k (addRange s n m) a:=by
 intro c;have d:=m.toNat_lt;refine⟨ZQ s _ _ (by omega),?_⟩;rw[<-h,NY,hi]
def Ie {a:Option (Nat × LB)}{k:Nat}(h:fE (k+1) s r=a)(hi:tN r=none):a=none:=by rw[<-h,NY,hi]
def ae2(w0:World)(b p:Nat)(t:LB)(w:World)(h:QP w b t true)(hk:RK w p 1 nF (.pointer none) (.pointer none) 0 0)(bJ:b≠p)(hF:aB [b,p] w0 w) :
 zF 144 #[zP b,zP p] w (CQ b p t w0):=by
 have H:=aj h;have K:=aj hk;have F:=aj hF;clear h hk hF;have Hc:=aj (ajB t);have H94:=jf 94 (by decide) t;have e94:=AJ (hb t) 94 (by decide);have Ev:p ∉ [b]:=by simp;exact λe=>bJ e.symm
 have hbp:b ∉ [p]:=by simp;exact bJ
 delta zF;go_in
 go_wp2_with fail
 refine(vV b t true w H).mono ?_;rintro e w1 ⟨rfl,rfl⟩;rw[uS];have hb8:=(hb t).toNat_lt;have f94:(((hb t).toNat:Int)==94)=bA 94 t:=e94.trans H94.symm;clear e94 H94;obtain⟨i,Fq⟩:∃i,fE (t.length+1) 0 (if bA 94 t then t.tail else t)=i:=⟨_,rfl⟩;rw[Fq]at Hc;cases l:bA 94 t
 case' true =>
  rw[l]at f94;have vY:t.isEmpty=false:=by
   cases t with
   | nil=>simp[bA]at l
   | cons x r=>rfl
  go_wp2_with fail
  refine(jY b t true w H).mono ?_;rintro e w ⟨rfl,jb,aZ⟩;rw[vY]at jb;have K:=aj (K.o.aC aZ Ev);have F:=aj (F.o.trans aZ.in1);have H:=aj jb;clear jb aZ vY
 case' false =>
  rw[l]at f94
 all_goals
  rw[l]at Fq;simp only[a1K,a3k,a0A,a0I,a0G]at H Fq
 case' true=>have qR:t.tail.length<=t.length:=by simp
 case' false=>have qR:t.length<=t.length:=a0b _
 case' true=>generalize t.tail=t1 at qR Fq H
 case' false=>obtain⟨t1,iB⟩:∃t1,t1=t:=⟨_,rfl⟩
 case' false=>have H:Z_ (QP w b t1 true):=by rw[iB];exact H
 case' false=>have Fq:fE (t.length+1) 0 t1=i:=by rw[iB];exact Fq
 case' false=>have qR:t1.length<=t.length:=by rw[iB];exact a0b _
 all_goals
  go_wp2_with fail
  go_loopg [4] (t.length+2) (λk v4 wr=>∃(r:LB) (ok:Bool) (L:List Bool) (c4:UInt8),v4=.int .u8 c4.toNat/\QP wr b r ok/\RK wr p 1 L (.pointer none) (.pointer none) 0 0/\aB [b,p] w0 wr/\((ok=true/\∃s O,L=bl s/\k=O+1/\r.length+1<=O/\fE O s r=i)\/(ok=false/\i=none)))
  case atStart =>
   exact⟨t1,true,nF,hb t,rfl,H,K,F,.inl ⟨rfl,0,t.length+1,Rz.symm,rfl,by omega,Fq⟩⟩
  case round =>
   clear H K F;obtain⟨r,ok,L,c4,rfl,hp,hk,hf,hd⟩:=hrel;have P:=aj hp;have K2:=aj hk;have F2:=aj hf;have c1:=hp.c1;have hc4:=c4.toNat_lt;have Hl:=aj hk.2;clear hp hk hf;cases ok
   case false =>
    obtain⟨B,Wz⟩:∃o,o=false:=⟨_,rfl⟩;obtain⟨N,Up⟩:∃o,o=r:=⟨_,rfl⟩;obtain⟨u,ZS⟩:∃o,o=L:=⟨_,rfl⟩;have D6:Z_ ((B=true/\∃s,u=bl s/\i=some (s,N))\/(B=false/\i=none)):=by
     rcases hd with⟨h,_⟩|⟨_,h⟩
     .cases h
     exact .inr ⟨Wz,h⟩
    have P6:Z_ (QP wr b N B):=by rw[Wz,Up];exact P
    have K6:Z_ (RK wr p 1 u (.pointer none) (.pointer none) 0 0):=by rw[ZS];exact K2
    have F6:=F2;clear P K2 F2 hd Wz Up ZS;go_wp2_with fail
    go_loopg [10] 256 (λk vi wr=>∃(j:Nat),j+k=256/\vi=zI j/\QP wr b N B/\RK wr p 1 (PM u j) (.pointer none) (.pointer none) 0 0/\aB [b,p] w0 wr/\(bA 94 t=false->j=0))
    case atStart=>exact⟨0,rfl,rfl,P6,by rw[Ji];exact K6,F6,λ_=>rfl⟩
    case round =>
     clear P6 K6 F6;obtain⟨j,lU,rfl,R,v,Aj,rC⟩:=hrel;have P7:=aj R;have K7:=aj v;have F7:=aj Aj;have Nw:=v.fz;have Hl:=aj v.2;clear R v Aj
     by_cases W:j<256
     .first
      | (have aoL:bA 94 t=false:=by rw[l]
         have aoM:=rC aoL;subst aoM;go_wp2;go_end0
         refine⟨N,B,u,rfl,P7,by have:=K7.o;rw[Ji]at this;exact this,F7,?_⟩;rw[Hc.o,l];rcases D6.o with⟨d,s,g,M⟩|⟨d,g⟩
         .exact .inl ⟨d,s,g,by rw[M];rfl⟩
         exact .inr ⟨d,by rw[g]⟩)
      | (have ZS:u.length=256:=by
          have:=Hl.o;unfold PM at this;simp at this;omega
         obtain⟨x,hx⟩:∃x,u[j]?=some x:=⟨u[j]'(by omega),a0a (by omega)⟩;have hc7:=K7.o.cin j x (agE u j x hx);have hz8:=Nw (1+j);have K8:=aj (K7.o.sin j (!x) W);have Hfs:=aj (agF u j x hx);have hpn:p ∉ [b]:=Ev;go_wp2_with fail
         go_region
         go_wp2;go_roundg (gk-1)
         case measure=>omega
         case rel =>
          refine⟨j+1,by omega,by go_num,?_,?_,(F7.o.setCell (.inl (by simp)) _).drew,λe=>by rw[l]at e;simp at e⟩
          .exact P7.o.aC (S:=[p]) (aB.drew ((aB.refl [p] _).setCell (p:=(zB p (1+j))) (.inl (by simp)) _)) hbp
          rw[<-Hfs.o];exact K8)
     have G:j=256:=by omega
     subst G;have RJ:bA 94 t=true:=by
      cases hh:bA 94 t
      .have:=rC hh;omega
      rfl
     go_wp2;go_end0
     refine⟨N,B,PM u 256,rfl,P7,K7,F7,?_⟩;rw[Hc.o,RJ];rcases D6.o with⟨d,s,g,M⟩|⟨d,g⟩
     .exact .inl ⟨d,s ^^^ fU,by rw[g,alh],by rw[<-RJ,M,RJ];rfl⟩
     exact .inr ⟨d,by rw[<-RJ,g]⟩
   case true =>
    have gJ:∃s O,L=bl s/\gk=O+1/\r.length+1<=O/\fE O s r=i:=by
     rcases hd with⟨_,h⟩|⟨h,_⟩
     .exact h
     cases h
    obtain⟨s,O,hLs,RU,hrk,Yb⟩:=gJ;obtain⟨k2,rfl⟩:∃k2,O=k2+1:=⟨O-1,by omega⟩;clear hd;go_wp2_with fail
    refine(RF b r wr P).mono ?_;rintro e w2 ⟨n,f,D,rfl,dm,aR,ll⟩;have P2:=aj dm;have K3:=aj (K2.o.aC aR Ev);have F3:=aj (F2.o.trans aR.in1);have D2:=aj ll;have n8:=n.toNat_lt;have c2:=dm.c1;clear dm aR ll P K2 F2 c1;go_wp2_with fail
    refine(vV b f D w2 P2).mono ?_;rintro e w3 ⟨rfl,rfl⟩;rw[uS];have h18:=(hb f).toNat_lt;have A:=AJ (hb f) 45 (by decide);have J:=jf 45 (by decide) f;cases E:(hb f==45)
    case' true=>cases D
    case' true.true =>
     have f45:(((hb f).toNat:Int)==45)=true:=A.trans E;have Z:bA 45 f=true:=J.trans E;have avE:f.isEmpty=false:=by
      cases f with
      | nil=>simp[bA]at Z
      | cons x q=>rfl
     have avF:lh r=some (n,f):=by
      rcases D2.o with⟨_,h⟩|⟨h,_⟩
      .exact h
      cases h
     clear A J;go_wp2_with fail
     refine(jY b f true w2 P2).mono ?_;rintro e w3 ⟨rfl,pK,bW⟩;rw[avE]at pK;have P3:=aj pK;have K4:=aj (K3.o.aC bW Ev);have F4:=aj (F3.o.trans bW.in1);clear pK bW P2 K3 F3;go_wp2_with fail
     refine(RF b f.tail w3 P3).mono ?_;rintro e w2 ⟨m,a,ok3,rfl,dm,aR,ll⟩;have m8:=m.toNat_lt;have c3:=dm.c1;have z3:=dm.fz 1;have P4:=aj dm;have K4:=aj (K4.o.aC aR Ev);have F4:=aj (F4.o.trans aR.in1);have gG:tN r=match lh f.tail with | none=>none|some (b,r2)=>if n<=b then some ((n,b),r2) else none:=by
      unfold tN;rw[avF];simp only[Z,a0G];rfl
     clear dm aR P3
     by_cases aL:m.toNat<n.toNat
    case' pos =>
     have HR:i=none:=by
      refine Ie Yb ?_;rw[gG];rcases ll with⟨_,h⟩|⟨_,h⟩
      .rw[h];exact a0n (λhh=>by have:=a1p.1 hh;omega)
      rw[h]
     have P4:=aj P4.o.off;have K4:=aj (K4.o.aC ((aB.refl [b] _).setCell (p:=(zB b 1)) (.inl (by simp)) (.bool false)) Ev);have F4:=aj (F4.o.setCell (p:=(zB b 1)) (.inl (by simp)) (.bool false));clear gG ll D2;obtain⟨lo,z⟩:∃lo,lo=n.toNat:=⟨_,rfl⟩;obtain⟨hi,U⟩:∃hi,hi=m.toNat:=⟨_,rfl⟩;go_wp2_with fail
     rw[<-z,<-U];have aoN:lo<256:=by omega
     have aoO:hi<256:=by omega
     clear z U;generalize w2.setCell (zB b 1) (.bool false)=C at P4 K4 F4 |-;obtain⟨y,ZT⟩:∃o,o=false:=⟨_,rfl⟩;have T:Z_ ((y=true/\∃s',wN L lo (hi+1-lo)=bl s'/\a.length+1<=k2/\i=if bA 93 a then some (s',a.tail) else fE k2 s' a)\/(y=false/\i=none)):=.inr ⟨ZT,HR⟩;have P4:Z_ (QP C b a y):=by rw[ZT];exact P4
     clear ZT
    case' neg =>
     have T:Z_ ((ok3=true/\∃s',wN L n.toNat (m.toNat+1-n.toNat)=bl s'/\a.length+1<=k2/\i=if bA 93 a then some (s',a.tail) else fE k2 s' a)\/(ok3=false/\i=none)):=by
      rcases ll with⟨d,h⟩|⟨d,h⟩
      .have I:tN r=some ((n,m),a):=by
        rw[gG,h];exact a0m (a1p.2 (by omega))
       have:=ZR Yb I (by omega);rw[hLs];exact .inl ⟨d,_,this.1,by have:=BZ I;omega,this.2⟩
      exact .inr ⟨d,Ie Yb (by rw[gG,h])⟩
     clear gG ll D2;obtain⟨lo,z⟩:∃lo,lo=n.toNat:=⟨_,rfl⟩;obtain⟨hi,U⟩:∃hi,hi=m.toNat:=⟨_,rfl⟩;rw[<-z,<-U]at T;go_wp2_with fail
     rw[<-z,<-U];have aoN:lo<256:=by omega
     have aoO:hi<256:=by omega
     clear z U;obtain⟨C,rfl⟩:∃C,C=w2:=⟨_,rfl⟩;obtain⟨y,rfl⟩:∃o,o=ok3:=⟨_,rfl⟩
    case' true.false =>
     have f45:(((hb f).toNat:Int)==45)=true:=A.trans E;have HR:i=none:=by
      refine Ie Yb ?_;rcases D2.o with⟨h,_⟩|⟨_,h⟩
      .cases h
      unfold tN;rw[h]
     clear A J D2;obtain⟨lo,z⟩:∃lo,lo=n.toNat:=⟨_,rfl⟩;obtain⟨hi,U⟩:∃hi,hi=lo:=⟨_,rfl⟩;go_wp2_with fail
     rw[<-z];have aoN:lo<256:=by omega
     have aoO:hi<256:=by omega
     clear z;obtain⟨C,rfl⟩:∃C,C=w2:=⟨_,rfl⟩;obtain⟨y,ZT⟩:∃o,o=false:=⟨_,rfl⟩;obtain⟨a,rfl⟩:∃o,o=f:=⟨_,rfl⟩;have T:Z_ ((y=true/\∃s',wN L lo (hi+1-lo)=bl s'/\a.length+1<=k2/\i=if bA 93 a then some (s',a.tail) else fE k2 s' a)\/(y=false/\i=none)):=.inr ⟨ZT,HR⟩;have P4:Z_ (QP C b a y):=by rw[ZT];exact P2
     have K4:=K3;have F4:=F3;clear ZT
    case' false =>
     have f45:(((hb f).toNat:Int)==45)=false:=A.trans E;have Z:bA 45 f=false:=J.trans E;have T:Z_ ((D=true/\∃s',wN L n.toNat (n.toNat+1-n.toNat)=bl s'/\f.length+1<=k2/\i=if bA 93 f then some (s',f.tail) else fE k2 s' f)\/(D=false/\i=none)):=by
      rcases D2.o with⟨d,h⟩|⟨d,h⟩
      .have I:tN r=some ((n,n),f):=by
        unfold tN;rw[h];simp only[Z,a0A,a0I]
       have:=ZR Yb I (a0b _);rw[hLs];exact .inl ⟨d,_,this.1,by have:=BZ I;omega,this.2⟩
      exact .inr ⟨d,Ie Yb (by unfold tN;rw[h])⟩
     clear A J D2;obtain⟨lo,z⟩:∃lo,lo=n.toNat:=⟨_,rfl⟩;obtain⟨hi,U⟩:∃hi,hi=lo:=⟨_,rfl⟩;rw[<-z]at T;go_wp2_with fail
     rw[<-z];have aoN:lo<256:=by omega
     have aoO:hi<256:=by omega
     clear z;obtain⟨C,rfl⟩:∃C,C=w2:=⟨_,rfl⟩;obtain⟨y,rfl⟩:∃o,o=D:=⟨_,rfl⟩;obtain⟨a,rfl⟩:∃o,o=f:=⟨_,rfl⟩;have T:Z_ ((y=true/\∃s',wN L lo (hi+1-lo)=bl s'/\a.length+1<=k2/\i=if bA 93 a then some (s',a.tail) else fE k2 s' a)\/(y=false/\i=none)):=by rw[U];exact T
     have P4:=P2;have K4:=K3;have F4:=F3
    all_goals
     obtain⟨go,iD⟩:∃go,go=gk:=⟨_,rfl⟩;rw[<-iD]at RU;go_loopg [9] (hi+1-lo) (λk v9 wr=>∃(j c:Nat),j+k=hi+1-lo/\c=lo+j/\v9=zI c/\QP wr b a y/\RK wr p 1 (wN L lo j) (.pointer none) (.pointer none) 0 0/\aB [b,p] w0 wr)
     case atStart=>exact⟨0,lo,by omega,rfl,rfl,P4,K4,F4⟩
     case round =>
      clear P4 K4 F4;obtain⟨j,c,lU,RY,rfl,hp6,hk6,Fs⟩:=hrel;have P5:=aj hp6;have K5:=aj hk6;have F5:=aj Fs;have Fu:=hk6.fz;clear hp6 hk6 Fs
      by_cases W:j<hi+1-lo
      .have ZP:c<256:=by omega
       have uA:c<=hi:=by omega
       have Sa:=Fu (1+c);obtain⟨x,hx⟩:∃x,(wN L lo j)[c]?=some x:=⟨_,a0a (by have:=K5.o.2;omega)⟩;have hcx:=K5.o.cin c x hx;clear hx;have K6:=aj (K5.o.sin c true ZP);have dw:Z_ (wN L lo (j+1)=(wN L lo j).set c true):=by rw[RY];rfl
       have Hcc:=aj RY;clear RY;go_wp2;go_roundg (gk-1)
       case measure=>omega
       case rel =>
        refine⟨j+1,c+1,by omega,by have:=Hcc.o;omega,by go_num,?_,?_,F5.o.setCell (p:=(zB p (1+c))) (.inl (by simp)) _⟩
        .exact P5.o.aC (S:=[p]) ((aB.refl [p] _).setCell (p:=(zB p (1+c))) (.inl (by simp)) _) hbp
        rw[dw.o];exact K6
      have G:j=hi+1-lo:=by omega
      subst G;have uA:¬ (c<=hi):=by omega
      clear RY;go_wp2_with fail
      refine(vV b a y _ P5).mono ?_;rintro e w6 ⟨rfl,rfl⟩;rw[uS];have h38:=(hb a).toNat_lt;have Fv:=AJ (hb a) 93 (by decide);have X:=jf 93 (by decide) a;cases V:(hb a==93)
      case true =>
       have f93:(((hb a).toNat:Int)==93)=true:=Fv.trans V;have Y:bA 93 a=true:=X.trans V;have avG:a.isEmpty=false:=by
        cases a with
        | nil=>simp[bA]at Y
        | cons x q=>rfl
       clear Fv X;go_wp2_with fail
       refine(jY b a y _ P5).mono ?_;rintro e w7 ⟨rfl,R,Aj⟩;rw[avG]at R;simp only[a1K,a2x]at R;have K6:=aj (K5.o.aC Aj Ev);have F6:=aj (F5.o.trans Aj.in1);have P6:=aj R;clear R Aj K5 F5 P5;obtain⟨N,Up⟩:∃o,o=a.tail:=⟨_,rfl⟩;obtain⟨B,Wz⟩:∃o,o=y:=⟨_,rfl⟩;obtain⟨u,ZS⟩:∃o,o=wN L lo (hi+1-lo):=⟨_,rfl⟩;have D6:Z_ ((B=true/\∃s,u=bl s/\i=some (s,N))\/(B=false/\i=none)):=by
        rcases T.o with⟨d,s',g,_,M⟩|⟨d,g⟩
        .refine .inl ⟨by rw[Wz,d],s',by rw[ZS,g],?_⟩
         rw[M,a0m Y,Up]
        exact .inr ⟨by rw[Wz,d],g⟩
       rw[<-Up,<-Wz]at P6;rw[<-ZS]at K6;clear T Up Wz ZS;go_wp2_with fail
       go_loopg [10] 256 (λk vi wr=>∃(j:Nat),j+k=256/\vi=zI j/\QP wr b N B/\RK wr p 1 (PM u j) (.pointer none) (.pointer none) 0 0/\aB [b,p] w0 wr/\(bA 94 t=false->j=0))
       case atStart=>exact⟨0,rfl,rfl,P6,by rw[Ji];exact K6,F6,λ_=>rfl⟩
       case round =>
        clear P6 K6 F6;obtain⟨j,lU,rfl,R,v,Aj,rC⟩:=hrel;have P7:=aj R;have K7:=aj v;have F7:=aj Aj;have Nw:=v.fz;have Hl:=aj v.2;clear R v Aj
        by_cases W:j<256
        .first
         | (have aoL:bA 94 t=false:=by rw[l]
            have aoM:=rC aoL;subst aoM;go_wp2;go_end0
            refine⟨N,B,u,rfl,P7,by have:=K7.o;rw[Ji]at this;exact this,F7,?_⟩;rw[Hc.o,l];rcases D6.o with⟨d,s,g,M⟩|⟨d,g⟩
            .exact .inl ⟨d,s,g,by rw[M];rfl⟩
            exact .inr ⟨d,by rw[g]⟩)
         | (have ZS:u.length=256:=by
             have:=Hl.o;unfold PM at this;simp at this;omega
            obtain⟨x,hx⟩:∃x,u[j]?=some x:=⟨u[j]'(by omega),a0a (by omega)⟩;have hc7:=K7.o.cin j x (agE u j x hx);have hz8:=Nw (1+j);have K8:=aj (K7.o.sin j (!x) W);have Hfs:=aj (agF u j x hx);have hpn:p ∉ [b]:=Ev;go_wp2_with fail
            go_region
            go_wp2;go_roundg (gk-1)
            case measure=>omega
            case rel =>
             refine⟨j+1,by omega,by go_num,?_,?_,(F7.o.setCell (.inl (by simp)) _).drew,λe=>by rw[l]at e;simp at e⟩
             .exact P7.o.aC (S:=[p]) (aB.drew ((aB.refl [p] _).setCell (p:=(zB p (1+j))) (.inl (by simp)) _)) hbp
             rw[<-Hfs.o];exact K8)
        have G:j=256:=by omega
        subst G;have RJ:bA 94 t=true:=by
         cases hh:bA 94 t
         .have:=rC hh;omega
         rfl
        go_wp2;go_end0
        refine⟨N,B,PM u 256,rfl,P7,K7,F7,?_⟩;rw[Hc.o,RJ];rcases D6.o with⟨d,s,g,M⟩|⟨d,g⟩
        .exact .inl ⟨d,s ^^^ fU,by rw[g,alh],by rw[<-RJ,M,RJ];rfl⟩
        exact .inr ⟨d,by rw[<-RJ,g]⟩
      case false =>
       have f93:(((hb a).toNat:Int)==93)=false:=Fv.trans V;have Y:bA 93 a=false:=X.trans V;clear Fv X;go_wp2;go_roundg (go-1)
       case measure=>omega
       case rel =>
        refine⟨a,y,_,hb a,rfl,P5,K5,F5,?_⟩;rcases T.o with⟨d,s',g,h4,M⟩|⟨d,g⟩
        .refine .inl ⟨d,s',k2,g,by omega,h4,?_⟩
         rw[M,Y];rfl
        exact .inr ⟨d,g⟩
def agG(b p:Nat)(t:LB)(w:World)(h:QP w b t true)(a:RK w p 1 nF (.pointer none) (.pointer none) 0 0)(c:b≠p) :
 zF 144 #[zP b,zP p] w (CQ b p t w):=ae2 w b p t w h a c zK
end
section
variable {t:LB} {w w':World} {k p:Nat} {L:List Bool} {a b v:Value} {hi:Int} {e:TypeId} {xs:List Value} {X:NF}
def dz(t:LB):Int:=((hb t).toNat:Int)-48
theorem yN(h:(di t).isSome=true):∃n r c,t=c::r/\di t=some (n,r)/\dz t=n:=by
 cases t with
 | nil=>simp[di]at h
 | cons c r =>
   simp only[di]at h |-
   split at h
   .rename_i b
    refine⟨c.toNat-48,r,c,rfl,by rw[a0m b],?_⟩;have d:48<=c.toNat:=by have a:=b;simp only[a0O,a0U]at a;have:=a1p.1 a.1;simpa using this
    simp only[dz,hb];omega
   simp at h
theorem vZ(h:(di t).isSome=false):di t=none:=by simp_all
theorem arV(h:(hb t==125)=true):di t=none:=by
 cases t with
 | nil=>rfl
 | cons c r =>
   have:c=125:=by simpa[hb] using h
   subst this;simp[di]
def WE(t b:LB)(a:Bool)(dl c:Int):Prop :=
 (a=true/\∃lo hi,dL t=some ((lo,hi),b)/\dl=(lo:Nat)/\c=hiT hi)\/(a=false/\dL t=none)
def avI(d:(hb t.tail==44)=false)(e:(hb t.tail==125)=true):WE t t.tail.tail ((di t).isSome&&!t.tail.isEmpty) (dz t) (dz t):=by
 cases hd:(di t).isSome
 .exact .inr ⟨rfl,by unfold dL;rw[vZ hd]⟩
 obtain⟨n,r,c,rfl,f,gT⟩:=yN hd;simp only[a1L]at d e |-;have b:=jf 44 (by decide) r;have a:=jf 125 (by decide) r;rw[d]at b;rw[e]at a;have g:r.isEmpty=false:=by grind [bA]
 refine .inl ⟨by rw[g];rfl,n,some n,?_,gT,gT⟩;unfold dL;rw[f];simp only[b,a,a0A,a0I,a0G]
def auz(a:(hb t.tail==44)=false)(b:(hb t.tail==125)=false):dL t=none:=by grind [hd,di,dL,vZ,gT,yN,jf]
def avJ(e:(hb t.tail==44)=true)(a:(hb t.tail.tail==125)=true):WE t t.tail.tail.tail (((di t).isSome&&!t.tail.isEmpty)&&!t.tail.tail.isEmpty) (dz t) (-1):=by
 cases hd:(di t).isSome
 .exact .inr ⟨rfl,by unfold dL;rw[vZ hd]⟩
 obtain⟨n,r,c,rfl,f,gT⟩:=yN hd;simp only[a1L]at e a |-;have d:=jf 44 (by decide) r;have b:=jf 125 (by decide) r.tail;rw[e]at d;rw[a]at b;have g:r.isEmpty=false:=by grind
 have h:r.tail.isEmpty=false:=by grind [bA]
 refine .inl ⟨by rw[g,h];rfl,n,none,?_,gT,rfl⟩;unfold dL;rw[f];simp only[d,a0G];rw[arV a];simp only[b,a0G]
def auA(b:(hb t.tail==44)=true)(a:(hb t.tail.tail==125)=false)(c:(hb t.tail.tail.tail==125)=false):dL t=none:=by grind [hd,di,dL,vZ,gT,yN,jf]
def avK(d:(hb t.tail==44)=true)(a:(hb t.tail.tail==125)=false)(f:(hb t.tail.tail.tail==125)=true) :
 (0<=dz t.tail.tail->dz t.tail.tail<dz t->dL t=none) /\
 (¬ (0<=dz t.tail.tail/\dz t.tail.tail<dz t)->WE t t.tail.tail.tail.tail ((((di t).isSome&&!t.tail.isEmpty)&&(di t.tail.tail).isSome)&&!t.tail.tail.tail.isEmpty) (dz t) (dz t.tail.tail)):=by
 cases hd:(di t).isSome
 .exact⟨λ_ _=>by unfold dL;rw[vZ hd],λ_=>.inr ⟨rfl,by unfold dL;rw[vZ hd]⟩⟩
 obtain⟨n,r,c,rfl,s,gT⟩:=yN hd;simp only[a1L]at d f a |-;have o:=jf 44 (by decide) r;have m:=jf 125 (by decide) r.tail;have b:=jf 125 (by decide) r.tail.tail;rw[d]at o;rw[a]at m;rw[f]at b;have p:r.isEmpty=false:=by grind
 have e:r.tail.tail.isEmpty=false:=by grind [bA]
 cases k:(di r.tail).isSome
 .have:dL (c::r)=none:=by grind [dL,vZ]
  exact⟨λ_ _=>this,λ_=>.inr ⟨by simp,this⟩⟩
 obtain⟨i,g,c2,j,w,l⟩:=yN k;have q:r.tail.tail=g:=by rw[j];rfl
 rw[q]at b e |-;refine⟨λv u=>?_,λh=>.inl ⟨by rw[p,e];rfl,n,some i,?_,gT,l⟩⟩
 .grind [dL]
 grind [dL]
def QX(b:Nat)(w:World)(x:Option (RX × LB))(e:Ending)(w':World):Prop :=
 ∃(q:Option Addr) (r:LB) (ok:Bool),e=zR (.pointer q)/\QP w' b r ok/\aB [b] w w'/\((ok=true/\∃y n,x=some (y,r)/\q=some (zA n)/\RN w' n (gW y))\/(ok=false/\x=none))
def aoQ(q:Option Addr)(h:Int):((Tryz.zeroCells208.setIfInBounds 0 (zI 4)).setIfInBounds 257 (.pointer q)).setIfInBounds 260 (zI h)=JF 4 nF (.pointer q) (.pointer none) 0 h:=by kernel_rfl
def avM(q:Option Addr)(h l:Int):(((Tryz.zeroCells208.setIfInBounds 0 (zI 4)).setIfInBounds 257 (.pointer q)).setIfInBounds 260 (zI h)).setIfInBounds 259 (zI l)=JF 4 nF (.pointer q) (.pointer none) l h:=by kernel_rfl
def RK.of {C:Array Value} {k:Int}{lo:Int}(h:C=JF k L a b lo hi)(c:L.length=256):RK (w.alloc (Obj.cells C 208)) w.heap.size k L a b lo hi:=by subst h;exact RK.new w c
theorem dX.nil(f:aB [] w w'):dX w w':=dX.aC f (by simp)
def dX.new(w:World)(o:Obj):dX w (w.alloc o):=dX.nil ((aB.refl [] w).alloc o)
def arW {c:UInt8}(h:DI c=true):c=42\/c=43\/c=63\/c=123:=by
 unfold DI at h;simp only[a1a,a0W]at h;rcases h with((h|h)|h)|h
 .exact .inl h
 .exact .inr (.inl h)
 .exact .inr (.inr (.inl h))
 exact .inr (.inr (.inr h))
def rpL:LB:=[42,43,63,123]
theorem amH:bs rpL=⟨#[42,43,63,123]⟩:=rfl
theorem auB(c:UInt8):oM rpL c=DI c:=by have h:=vO (p:=λc=>oM rpL c==DI c) (by decide +kernel) c;exact a0W.1 h
def ae3(w0:World)(b:Nat)(x:RX)(n:Nat)(t:LB)(w:World)(h:QP w b t true)(hx:RN w n (gW x))(hF:aB [b] w0 w) :
 zF 124 #[zP b,zP n] w (QX b w0 (dQ (t.length+1) x t)):=by
 have H:=h;have X:=hx;have F:=hF;clear h hx hF;obtain⟨i,Fq⟩:∃i,dQ (t.length+1) x t=i:=⟨_,rfl⟩;rw[Fq];delta zF;go_in
 go_wp2_with fail
 go_loopg [1] (t.length+2) (λk v1 wr=>∃(q:Option Addr) (r:LB) (ok:Bool),v1=.pointer q/\QP wr b r ok/\aB [b] w0 wr/\((ok=true/\∃y n s,q=some (zA n)/\RN wr n (gW y)/\k=s+1/\r.length+1<=s/\dQ s y r=i)\/(ok=false/\i=none)))
 case atStart=>exact⟨_,t,true,rfl,H,F,.inl ⟨rfl,x,n,t.length+1,rfl,X,rfl,a0b _,Fq⟩⟩
 case round =>
  clear H X F Fq;obtain⟨q,r,ok,rfl,P,F,hd⟩:=hrel;have c1:=P.c1;cases ok
  case false =>
   have HR:i=none:=by
    rcases hd with⟨h,_⟩|⟨_,h⟩
    .cases h
    exact h
   clear hd;go_wp2;go_ret;exact⟨q,r,false,rfl,P,F,.inr ⟨rfl,HR⟩⟩
  case true =>
   obtain⟨y,n,s,rfl,X,RU,hrk,Ig⟩:∃y n s,q=some (zA n)/\RN wr n (gW y)/\gk=s+1/\r.length+1<=s/\dQ s y r=i:=by
    rcases hd with⟨_,h⟩|⟨h,_⟩
    .exact h
    cases h
   obtain⟨k2,rfl⟩:∃k2,s=k2+1:=⟨s-1,by omega⟩;clear hd;go_wp2_with fail
   refine(vV b r true wr P).mono ?_;rintro e d ⟨rfl,rfl⟩;rw[uS];have h8:=(hb r).toNat_lt;cases r with
   | nil =>
     have HR:i=some (y,[]):=by rw[<-Ig];rfl
     simp only[List.isEmpty_nil,a2O];go_wp2;go_ret;exact⟨_,[],true,rfl,P,F,.inl ⟨rfl,y,n,HR,rfl,X⟩⟩
   | cons c r =>
     simp only[a1I,a1K,hb]at h8 |-;have A:=vR c rpL wr (by decide);rw[amH,auB]at A;go_wp2_with fail
     refine A.mono ?_;rintro e d ⟨rfl,rfl⟩;cases hr:DI c
     case false =>
      have HR:i=some (y,c::r):=by rw[<-Ig];simp only[dQ,DK,hr,a0A,a0I]
      go_wp2;go_ret;exact⟨_,_,true,rfl,P,F,.inl ⟨rfl,y,n,HR,rfl,X⟩⟩
     case true =>
      have HR:Z_ (i=match DJ (c::r) with | none=>none|some (b,r)=>dQ k2 (.rep y b.1 b.2) r):=by show _=_;rw[<-Ig];simp only[dQ,DK,hr,a0G];rfl
      go_wp2_with fail
      refine(jY b (c::r) true wr P).mono ?_;rintro e d ⟨rfl,S,aZ⟩;simp only[a1L,a1I,a1K,a2x]at S;have X1:=X.aY (P.keepR aZ);have F1:=F.trans aZ;clear aZ P F X;have lz:r.length+1<=k2:=by simp only[a0r]at hrk;omega
      rcases arW hr with rfl|rfl|rfl|rfl
      .have N:(((42:UInt8).toNat:Int)==43)=false:=by decide
       have f63:(((42:UInt8).toNat:Int)==63)=false:=by decide
       have f123:(((42:UInt8).toNat:Int)==123)=false:=by decide
       have E:dQ k2 (.rep y 0 none) r=i:=by rw[HR.o];rfl
       go_wp2;go_roundg (gk-1)
       case measure=>omega
       case rel=>exact⟨_,r,true,rfl,S.aC zG (by simp),F1.alloc _,.inl ⟨rfl,.rep y 0 none,d.heap.size,k2,rfl,⟨n,RK.of (aoQ _ _) qQ,X1.aY (dX.new _ _)⟩,by omega,lz,E⟩⟩
      .have N:(((43:UInt8).toNat:Int)==43)=true:=by decide
       have E:dQ k2 (.rep y 1 none) r=i:=by rw[HR.o];rfl
       go_wp2;go_roundg (gk-1)
       case measure=>omega
       case rel=>exact⟨_,r,true,rfl,S.aC zG (by simp),F1.alloc _,.inl ⟨rfl,.rep y 1 none,d.heap.size,k2,rfl,⟨n,RK.of (avM _ _ _) qQ,X1.aY (dX.new _ _)⟩,by omega,lz,E⟩⟩
      .have N:(((63:UInt8).toNat:Int)==43)=false:=by decide
       have f63:(((63:UInt8).toNat:Int)==63)=true:=by decide
       have E:dQ k2 (.rep y 0 (some 1)) r=i:=by rw[HR.o];rfl
       go_wp2;go_roundg (gk-1)
       case measure=>omega
       case rel=>exact⟨_,r,true,rfl,S.aC zG (by simp),F1.alloc _,.inl ⟨rfl,.rep y 0 (some 1),d.heap.size,k2,rfl,⟨n,RK.of (aoQ _ _) qQ,X1.aY (dX.new _ _)⟩,by omega,lz,E⟩⟩
      have N:(((123:UInt8).toNat:Int)==43)=false:=by decide
      have f63:(((123:UInt8).toNat:Int)==63)=false:=by decide
      have f123:(((123:UInt8).toNat:Int)==123)=true:=by decide
      have E:Z_ (i=match dL r with | none=>none|some (b,r)=>dQ k2 (.rep y b.1 b.2) r):=by show _=_;rw[HR.o];rfl
      go_wp2_with fail
      have P2:=S.aC ((aB.refl [] _).alloc (Obj.cells (((Tryz.zeroCells208.setIfInBounds 0 (zI 4)).setIfInBounds 257 (zP n)).setIfInBounds 260 (zI (-1))) 208)) (by simp);have K2:=RK.of (w:=d) (aoQ (some (zA n)) (-1)) qQ;have G2:Z_ (aB [b] d (d.alloc (Obj.cells (((Tryz.zeroCells208.setIfInBounds 0 (zI 4)).setIfInBounds 257 (zP n)).setIfInBounds 260 (zI (-1))) 208))):=zJ;have ZU:b<d.heap.size:=S.lt;generalize d.alloc (Obj.cells (((Tryz.zeroCells208.setIfInBounds 0 (zI 4)).setIfInBounds 257 (zP n)).setIfInBounds 260 (zI (-1))) 208)=w2 at P2 K2 G2 |-;have G:d.heap.size ∉ [b]:=by simp;omega
      have Nz:b ∉ [d.heap.size]:=by simp;omega
      refine(Wy b r true w2 P2).mono ?_;rintro e w3 ⟨rfl,P3,bW⟩;rw[a3k]at P3;have K3:=K2.aC bW G;have G3:=G2.o.trans bW;have Ih:-48<=dz r/\dz r<=207:=by have:=(hb r).toNat_lt;unfold dz;omega
      obtain⟨dl,m⟩:∃dl,dz r=dl:=⟨_,rfl⟩;have e1:((hb r).toNat:Int)-48=dl:=m;rw[e1];rw[m]at Ih;clear e1;obtain⟨_,_,R,f⟩:=K3.ends;have J:=K3.fz 259;have l:=K3.fz 260;clear bW P2 K2 G2;go_wp2_with fail
      have P4:=P3.aC (((aB.refl [d.heap.size] w3).setCell (p:=(zB d.heap.size 259)) (.inl (by simp)) (zI dl)).setCell (p:=(zB d.heap.size 260)) (.inl (by simp)) (zI dl)) Nz;have K4:=(K3.slo dl).shi dl;have G4:=(G3.setCell (p:=(zB d.heap.size 259)) (.inr (a0b _)) (zI dl)).setCell (p:=(zB d.heap.size 260)) (.inr (a0b _)) (zI dl);generalize (w3.setCell (zB d.heap.size 259) (zI dl)).setCell (zB d.heap.size 260) (zI dl)=w4 at P4 K4 G4 |-;clear R f J l P3 K3 G3;refine(jY b r.tail _ w4 P4).mono ?_;rintro e w5 ⟨rfl,Z,xe⟩;have T:=K4.aC xe G;have G5:=G4.trans xe;obtain⟨_,_,R,f⟩:=T.ends;have J:=T.fz 259;have l:=T.fz 260;have pc1:=Z.c1;have pz1:=Z.fz 1;clear xe P4 K4 G4;rw[uS];have t18:=(hb r.tail).toNat_lt;have z:=AJ (hb r.tail) 44 (by decide);have a:=AJ (hb r.tail) 125 (by decide);cases g:(hb r.tail==44)
      case' false =>
       have f44:(((hb r.tail).toNat:Int)==44)=false:=z.trans g;clear z;cases D:(hb r.tail==125)
       case' false =>
        have f125:(((hb r.tail).toNat:Int)==125)=false:=a.trans D;have O:(((hb r.tail).toNat:Int) != 125)=true:=by rw[bne,f125];rfl
        clear a;have u:=Z.off;have v:=T.aC ((aB.refl [b] w5).setCell (p:=(zB b 1)) (.inl (by simp)) (.bool false)) G;have I:Z_ (∀nq,aB [b] d ((w5.drewN nq).setCell (zB b 1) (.bool false))):=λnq=>(G5.drewN nq).setCell (p:=(zB b 1)) (.inl (by simp)) (.bool false)
        have V:Z_ (WE r r.tail.tail false dl dl):=.inr ⟨rfl,auz g D⟩
       case' true =>
        have f125:(((hb r.tail).toNat:Int)==125)=true:=a.trans D;have O:(((hb r.tail).toNat:Int) != 125)=false:=by rw[bne,f125];rfl
        have gll:decide (dl<dl)=false:=by simp
        cases g0:decide (0<=dl)
        all_goals
         clear a;have u:=Z;have v:=T;have I:Z_ (∀nq,aB [b] d (w5.drewN nq)):=λnq=>G5.drewN nq
         have V:Z_ (WE r r.tail.tail ((di r).isSome&&!r.tail.isEmpty) dl dl):=by have:=avI g D;rw[m]at this;exact this
      case' true =>
       have f44:(((hb r.tail).toNat:Int)==44)=true:=z.trans g;clear z a;go_wp2_with fail
       have Y:=Z.aC ((aB.refl [d.heap.size] w5).setCell (p:=(zB d.heap.size 260)) (.inl (by simp)) (zI (-1))) Nz;have K6:=T.shi (-1);have G6:=G5.setCell (p:=(zB d.heap.size 260)) (.inr (a0b _)) (zI (-1));generalize w5.setCell (zB d.heap.size 260) (zI (-1))=w6 at Y K6 G6 |-;clear R f J l Z T G5 pc1 pz1;refine(vV b r.tail.tail _ w6 Y).mono ?_;rintro e w7 ⟨rfl,rfl⟩;rw[uS];have t28:=(hb r.tail.tail).toNat_lt;have a:=AJ (hb r.tail.tail) 125 (by decide);cases kn:(hb r.tail.tail==125)
       case' true =>
        have f125:(((hb r.tail.tail).toNat:Int)==125)=true:=a.trans kn;have O:(((hb r.tail.tail).toNat:Int) != 125)=false:=by rw[bne,f125];rfl
        clear a;go_wp2_with fail
        refine(jY b r.tail.tail _ w6 Y).mono ?_;rintro e w8 ⟨rfl,u,M⟩;have v:=K6.aC M G;have G8:=G6.trans M;have I:Z_ (∀nq,aB [b] d (w8.drewN nq)):=λnq=>G8.drewN nq
        have V:Z_ (WE r r.tail.tail.tail (((di r).isSome&&!r.tail.isEmpty)&&!r.tail.tail.isEmpty) dl (-1)):=by have:=avJ g kn;rw[m]at this;exact this
        obtain⟨_,_,R,f⟩:=v.ends;clear M Y K6 G6 G8;rw[uS];have g0:decide ((0:Int)<=-1)=false:=by decide
       case' false =>
        have f125:(((hb r.tail.tail).toNat:Int)==125)=false:=a.trans kn;have O:(((hb r.tail.tail).toNat:Int) != 125)=true:=by rw[bne,f125];rfl
        clear a;go_wp2_with fail
        refine(Wy b r.tail.tail _ w6 Y).mono ?_;rintro e w7 ⟨rfl,P7,Aj⟩;have K7:=K6.aC Aj G;have G7:=G6.trans Aj;have hdh:-48<=dz r.tail.tail/\dz r.tail.tail<=207:=by unfold dz;omega
        obtain⟨j,U⟩:∃j,dz r.tail.tail=j:=⟨_,rfl⟩;have e1:((hb r.tail.tail).toNat:Int)-48=j:=U;rw[e1];rw[U]at hdh;clear e1;obtain⟨_,_,R,f⟩:=K7.ends;have l:=K7.fz 260;clear Aj Y K6 G6;go_wp2_with fail
        have P8:=P7.aC ((aB.refl [d.heap.size] w7).setCell (p:=(zB d.heap.size 260)) (.inl (by simp)) (zI j)) Nz;have K8:=K7.shi j;have G8:=G7.setCell (p:=(zB d.heap.size 260)) (.inr (a0b _)) (zI j);generalize w7.setCell (zB d.heap.size 260) (zI j)=w8 at P8 K8 G8 |-;clear R f l P7 K7 G7;refine(jY b r.tail.tail.tail _ w8 P8).mono ?_;rintro e W ⟨rfl,u,L⟩;have v:=K8.aC L G;have B:=G8.trans L;obtain⟨_,_,R,f⟩:=v.ends;have pc1:=u.c1;have pz1:=u.fz 1;clear L P8 K8 G8;rw[uS];have t38:=(hb r.tail.tail.tail).toNat_lt;have a:=AJ (hb r.tail.tail.tail) 125 (by decide);cases D:(hb r.tail.tail.tail==125)
        case' false =>
         have Cg:(((hb r.tail.tail.tail).toNat:Int)==125)=false:=a.trans D;have avN:(((hb r.tail.tail.tail).toNat:Int) != 125)=true:=by rw[bne,Cg];rfl
         clear a;have u:=u.off;have v:=v.aC ((aB.refl [b] W).setCell (p:=(zB b 1)) (.inl (by simp)) (.bool false)) G;have I:Z_ (∀nq,aB [b] d ((W.drewN nq).setCell (zB b 1) (.bool false))):=λnq=>(B.drewN nq).setCell (p:=(zB b 1)) (.inl (by simp)) (.bool false)
         have V:Z_ (WE r r.tail.tail.tail.tail false dl j):=.inr ⟨rfl,auA g kn D⟩
        case' true =>
         have Cg:(((hb r.tail.tail.tail).toNat:Int)==125)=true:=a.trans D;have avN:(((hb r.tail.tail.tail).toNat:Int) != 125)=false:=by rw[bne,Cg];rfl
         clear a;have C:=avK g kn D;rw[m,U]at C;cases g0:decide (0<=j)
         case' false =>
          have I:Z_ (∀nq,aB [b] d (W.drewN nq)):=λnq=>B.drewN nq
          have V:=aj (C.2 (λh=>by rw[a1g]at g0;exact g0 h.1))
         case' true =>
          have h0:0<=j:=a2q g0;cases gl:decide (j<dl)
          case' false =>
           have I:Z_ (∀nq,aB [b] d (W.drewN nq)):=λnq=>B.drewN nq
           have V:=aj (C.2 (λh=>by rw[a1g]at gl;exact gl h.2))
          case' true =>
           have u:=u.off;have v:=v.aC ((aB.refl [b] W).setCell (p:=(zB b 1)) (.inl (by simp)) (.bool false)) G;have I:Z_ (∀nq,aB [b] d ((W.drewN nq).setCell (zB b 1) (.bool false))):=λnq=>(B.drewN nq).setCell (p:=(zB b 1)) (.inl (by simp)) (.bool false)
           have V:Z_ (WE r r.tail.tail.tail.tail false dl j):=.inr ⟨rfl,C.1 h0 (a2q gl)⟩
      all_goals
       go_wp2_with fail
       go_quiet (fail)
       go_wp2;go_roundg (gk-1)
       case measure=>omega
       case rel =>
        refine⟨some (zA d.heap.size),_,_,rfl,u,F1.trans (I.o _),?_⟩;rcases V.o with⟨h1,lo,hi,h2,h3,h4⟩|⟨h1,h2⟩
        .refine .inl ⟨h1,.rep y lo hi,d.heap.size,k2,rfl,⟨n,by rw[<-h3,<-h4];exact v,X1.aY (S.keepR (I.o _))⟩,by omega,?_,?_⟩
         .have:=(Rp h2).1;omega
         rw[E.o,h2]
        exact .inr ⟨h1,by rw[E.o,h2]⟩
def agH(b:Nat)(x:RX)(n:Nat)(t:LB)(w:World)(h:QP w b t true)(a:RN w n (gW x)) :
 zF 124 #[zP b,zP n] w (QX b w (dQ (t.length+1) x t)):=ae3 w b x n t w h a zK
def ChC(k:Nat):Prop:=∀(b d:Nat) (t:LB) (w:World),QP w b t true->d<=5->4*t.length+4<=k ->
 zF 72 #[zP b,zI d] w (QX b w (iQ k d [] t))
def RwC(k:Nat):Prop:=∀(b d:Nat) (t:LB) (w:World),QP w b t true->d<=5->4*t.length+3<=k ->
 zF 99 #[zP b,zI d] w (QX b w (jF k d [] t))
def SgC(k:Nat):Prop:=∀(b d:Nat) (t:LB) (w:World),QP w b t true->d<=5->4*t.length+2<=k ->
 zF 123 #[zP b,zI d] w (QX b w (ik k d t))
def avO:Tryz.zeroCells208.setIfInBounds 0 (zI 1)=JF 1 nF (.pointer none) (.pointer none) 0 0:=by kernel_rfl
theorem auC:vg 0 0 256=fU:=by decide +kernel
def aB.arX{b:Nat} {x y z:World}(h:aB [b] x y)(k:aB [b,p] y z)(c:x.heap.size<=p):aB [b] x z :=
 ⟨k.os.trans h.os,k.tape.trans h.tape,k.output.trans h.output,a0h h.size k.size,
  λi hi a=>(k.block i (a0t hi h.size) (by simp at a |-;exact⟨a,by omega⟩)).trans (h.block i hi a)⟩
def spL:LB:=[41,124,42,43,63,123,125,91,93,46]
theorem amI:bs spL=⟨#[41,124,42,43,63,123,125,91,93,46]⟩:=rfl
theorem auD(c:UInt8)(b:(c==91)=false)(a:(c==46)=false):oM spL c=iI c:=by have h:=vO (p:=λc=>c==91||c==46||oM spL c==iI c) (by decide +kernel) c;rw[b,a]at h;exact a0W.1 h
theorem Fy(k d:Nat)(c:UInt8)(r:LB):ik (k+1) d (c::r) =
 if c==40 then (if 5<=d then none else match iQ k (d+1) [] r with | none=>none|some (x,r2)=>if bA 41 r2 then some (x,r2.tail) else none)
  else if c==91 then (match nT r with | none=>none|some (s,r2)=>some (.one s,r2))
  else if c==46 then some (.one fU,r)
  else if c==92 then (match r with | []=>none|d::r2=>some (.one (2 ^ d.toNat),r2))
  else if iI c then none
  else some (.one (2 ^ c.toNat),r):=by
 conv=>lhs;unfold ik
 rfl
def avP:LB->Option (RX × LB)
 | []=>none
 | e::r=>some (.one (2 ^ e.toNat),r)
def amJ(k d:Nat)(r:LB):ik (k+1) d (92::r)=avP r:=by rw[Fy];cases r<;>rfl
def ajC(k d:Nat)(b:(hb t==40)=false)(f:(hb t==91)=false)(e:(hb t==46)=false)(a:(hb t==92)=false) :
 ik (k+1) d t=if t.isEmpty then none else if iI (hb t) then none else some (.one (2 ^ (hb t).toNat),t.tail):=by
 cases t with
 | nil=>simp[ik]
 | cons c r =>
   rw[Fy];simp only[hb]at b f e a;rw[b,f,e,a]
   rfl
def RK.byte(c:UInt8)(h:RK w p 1 nF (.pointer none) (.pointer none) 0 0):RN (w.setCell (zB p (1+c.toNat)) (.bool true)) p (.one (2 ^ c.toNat)):=by have:=h.sin c.toNat true c.toNat_lt;rw[<-Rz,alg 0 c.toNat c.toNat_lt,Nat.zero_or]at this;exact this
def ae4(hC:ChC k):SgC (k+1):=by
 intro b d t w H hd hk;have ZU:=H.lt;delta zF;go_in
 go_wp2_with fail
 have P0:=H.aC ((aB.refl [] w).alloc (Obj.cells (Tryz.zeroCells208.setIfInBounds 0 (zI 1)) 208)) (by simp);have K0:=RK.of (w:=w) avO qQ;have F0:Z_ (aB [b] w (w.alloc (Obj.cells (Tryz.zeroCells208.setIfInBounds 0 (zI 1)) 208))):=zJ;generalize w.alloc (Obj.cells (Tryz.zeroCells208.setIfInBounds 0 (zI 1)) 208)=w0 at P0 K0 F0 |-;have Yd:w.heap.size ∉ [b]:=by simp;omega
 have V:b ∉ [w.heap.size]:=by simp;omega
 clear H;refine(jY b t true w0 P0).mono ?_;rintro e F ⟨rfl,a,aZ⟩;have u:=K0.aC aZ Yd;have F1:=F0.o.trans aZ;have pc:=a.c1;have pz:=a.fz 1;clear aZ P0 K0 F0;rw[uS];have c8:=(hb t).toNat_lt;have z:=AJ (hb t) 40 (by decide);have l:=AJ (hb t) 46 (by decide);have G:=AJ (hb t) 91 (by decide);have E:=AJ (hb t) 92 (by decide);cases T:(hb t==40)
 case true =>
  have f40:(((hb t).toNat:Int)==40)=true:=z.trans T;clear z l G E;obtain⟨c,r,rfl⟩:∃c r,t=c::r:=by
   cases t with
   | nil=>exact absurd T (by decide)
   | cons c r=>exact⟨c,r,rfl⟩
  have avQ:(c==40)=true:=T;simp only[a1L,a1I,a1K,a2x]at a pc;have f:=aj (Fy k d c r);rw[avQ]at f;simp only[a0G]at f
  by_cases h5:d=5
  .subst h5
   have PN:Z_ (ik (k+1) 5 (c::r)=none):=by show _=_;rw[f.o];rfl
   clear f;have m:=a.off;go_wp2;go_ret;exact⟨_,_,_,rfl,m,F1.setCell (.inl (by simp)) _,.inr ⟨rfl,PN⟩⟩
  have hd5:((d:Int)==5)=false:=by rw[a0j];omega
  rw[a0n (by omega)]at f;go_wp2_with fail
  have HC:=(hC b (d+1) r F a (by omega) (by simp only[a0r]at hk;omega));refine HC.mono ?_;rintro e N ⟨q,g,O,rfl,m,B,W⟩;have F2:=F1.trans B;clear B HC;go_wp2_with fail
  refine(jY b g O N m).mono ?_;rintro e w3 ⟨rfl,h,bW⟩;have F3:=F2.trans bW;have pc3:=h.c1;have pz3:=h.fz 1;have KR:=m.keepR bW;clear bW;rw[uS];have r28:=(hb g).toNat_lt;have v:=AJ (hb g) 41 (by decide);have R:=jf 41 (by decide) g;cases U:(hb g==41)
  case false =>
   have f41:(((hb g).toNat:Int)==41)=false:=v.trans U;have P4:=h.off;clear v;go_wp2;go_ret;refine⟨_,_,_,rfl,P4,F3.setCell (.inl (by simp)) _,.inr ⟨rfl,?_⟩⟩;rw[f.o];rcases W with⟨_,y,n,i,_⟩|⟨_,i⟩
   .rw[i];simp only[R,U,a0A,a0I]
   rw[i]
  case true =>
   have f41:(((hb g).toNat:Int)==41)=true:=v.trans U;clear v;have vY:g.isEmpty=false:=by
    cases g with
    | nil=>exact absurd U (by decide)
    | cons x q=>rfl
   rw[vY]at h;simp only[a1K,a2x]at h;go_wp2;go_ret;refine⟨_,_,_,rfl,h,F3,?_⟩;rw[f.o];rcases W with⟨D,y,n,i,Z,h4⟩|⟨D,i⟩
   .exact .inl ⟨D,y,n,by rw[i];simp only[R,U,a0G],Z,h4.aY KR⟩
   exact .inr ⟨D,by rw[i]⟩
 case false =>
  have f40:(((hb t).toNat:Int)==40)=false:=z.trans T;clear z;cases I:(hb t==46)
  case true =>
   have f46:(((hb t).toNat:Int)==46)=true:=l.trans I;clear l G E;obtain⟨c,r,rfl⟩:∃c r,t=c::r:=by
    cases t with
    | nil=>exact absurd I (by decide)
    | cons c r=>exact⟨c,r,rfl⟩
   have avR:c=46:=by simpa[hb] using I
   subst avR;simp only[a1L,a1I,a1K,a2x]at a pc;have f:Z_ (ik (k+1) d (46::r)=some (.one fU,r)):=by show _=_;rw[Fy];rfl
   go_wp2_with fail
   go_loopg [7] 256 (λk v7 wr=>∃(j:Nat),j+k=256/\v7=zI j/\QP wr b r true/\RK wr w.heap.size 1 (wN nF 0 j) (.pointer none) (.pointer none) 0 0/\aB [b] w wr)
   exact⟨0,rfl,rfl,a,u,F1⟩
   .clear a u F1 pc pz;obtain⟨j,lU,rfl,P5,L,F5⟩:=hrel;have Fu:=L.fz
    by_cases Y:j<256
    .have Sa:=Fu (1+j)
     obtain⟨x,hx⟩:∃x,(wN nF 0 j)[j]?=some x:=⟨_,a0a (by have:=L.2;omega)⟩;have hcx:=L.cin j x hx;clear hx;have K6:=L.sin j true Y;have dw:Z_ (wN nF 0 (j+1)=(wN nF 0 j).set j true):=by show _=_;rw[wN,a1n]
     go_wp2;go_roundg (gk-1)
     .refine⟨j+1,by omega,by go_num,?_,?_,F5.setCell (p:=(zB w.heap.size (1+j))) (.inr (a0b _)) _⟩
      .exact P5.aC (S:=[w.heap.size]) ((aB.refl [w.heap.size] _).setCell (p:=(zB w.heap.size (1+j))) (.inl (by simp)) _) V
      rw[dw.o];exact K6
     omega
    have X:j=256:=by omega
    subst X;have dw:Z_ (wN nF 0 256=bl fU):=by show _=_;rw[<-Rz,ZQ 0 0 256 (by omega),auC]
    rw[dw.o]at L;go_wp2;go_ret;exact⟨_,_,_,rfl,P5,F5,.inl ⟨rfl,.one fU,w.heap.size,f,rfl,L⟩⟩
  case false =>
   have f46:(((hb t).toNat:Int)==46)=false:=l.trans I;clear l;cases J:(hb t==91)
   case true =>
    have f91:(((hb t).toNat:Int)==91)=true:=G.trans J;clear G E;obtain⟨c,r,rfl⟩:∃c r,t=c::r:=by
     cases t with
     | nil=>exact absurd J (by decide)
     | cons c r=>exact⟨c,r,rfl⟩
    have P:c=91:=by simpa[hb] using J
    subst P;simp only[a1L,a1I,a1K,a2x]at a pc;have f:Z_ (ik (k+1) d (91::r)=match nT r with | none=>none|some (s,g)=>some (.one s,g)):=by show _=_;rw[Fy];rfl
    go_wp2_with fail
    refine(agG b w.heap.size r F a u (by omega)).mono ?_;rintro e N ⟨g,O,L2,rfl,m,C,B,W⟩;have F2:=F1.arX B (a0b _);clear B a u F1;go_wp2;go_ret;refine⟨_,_,_,rfl,m,F2,?_⟩;rw[f.o];rcases W with⟨D,s,i,Z⟩|⟨D,i⟩
    .exact .inl ⟨D,.one s,w.heap.size,by rw[Z],rfl,by have:=C;rw[i]at this;exact this⟩
    exact .inr ⟨D,by rw[i]⟩
   case false =>
    have f91:(((hb t).toNat:Int)==91)=false:=G.trans J;clear G;cases M:(hb t==92)
    case true =>
     have f92:(((hb t).toNat:Int)==92)=true:=E.trans M;clear E;obtain⟨c,r,rfl⟩:∃c r,t=c::r:=by
      cases t with
      | nil=>exact absurd M (by decide)
      | cons c r=>exact⟨c,r,rfl⟩
     have Jm:c=92:=by simpa[hb] using M
     subst Jm;simp only[a1L,a1I,a1K,a2x]at a pc;have f:=aj (amJ k d r);go_wp2_with fail
     refine(jY b r true F a).mono ?_;rintro e N ⟨rfl,m,B⟩;have C:=u.aC B Yd;have F2:=F1.trans B;clear B a u F1;rw[uS];have r8:=(hb r).toNat_lt;have z2:=C.fz (1+(hb r).toNat);have N3:=RK.byte (hb r) C;have h:=m.aC ((aB.refl [w.heap.size] N).setCell (p:=(zB w.heap.size (1+(hb r).toNat))) (.inl (by simp)) (.bool true)) V;have F3:=F2.setCell (p:=(zB w.heap.size (1+(hb r).toNat))) (.inr (a0b _)) (.bool true);have cx:=C.cin (hb r).toNat false (by rw[nF,a2K,a0m (by omega)]);go_wp2;go_ret;refine⟨_,_,_,rfl,h,F3,?_⟩;rw[f.o];cases r with
     | nil=>exact .inr ⟨rfl,rfl⟩
     | cons e r=>exact .inl ⟨rfl,.one (2 ^ e.toNat),w.heap.size,rfl,rfl,N3⟩
    case false =>
     have f92:(((hb t).toNat:Int)==92)=false:=E.trans M;clear E;have A:=vR (hb t) spL F (by decide);rw[amI,auD (hb t) J I]at A;go_wp2_with fail
     refine A.mono ?_;rintro e N ⟨rfl,rfl⟩;have f:=aj (ajC k d T J I M);have z2:=u.fz (1+(hb t).toNat);have cx:=u.cin (hb t).toNat false (by rw[nF,a2K,a0m (by omega)]);cases vB:iI (hb t)
     case false =>
      have N3:=RK.byte (hb t) u;have h:=a.aC ((aB.refl [w.heap.size] F).setCell (p:=(zB w.heap.size (1+(hb t).toNat))) (.inl (by simp)) (.bool true)) V;have F3:=F1.setCell (p:=(zB w.heap.size (1+(hb t).toNat))) (.inr (a0b _)) (.bool true);go_wp2;go_ret;refine⟨_,_,_,rfl,h,F3,?_⟩;rw[f.o,vB];cases t with
      | nil=>exact .inr ⟨rfl,rfl⟩
      | cons c r=>exact .inl ⟨rfl,.one (2 ^ c.toNat),w.heap.size,rfl,rfl,N3⟩
     case true =>
      have m:=a.off;have bJ:w.heap.size≠b:=by omega
      have C:=u.aC ((aB.refl [b] F).setCell (p:=(zB b 1)) (.inl (by simp)) (.bool false)) Yd;have z3:=C.fz (1+(hb t).toNat);have cx3:=C.cin (hb t).toNat false (by rw[nF,a2K,a0m (by omega)]);have h:=m.aC ((aB.refl [w.heap.size] _).setCell (p:=(zB w.heap.size (1+(hb t).toNat))) (.inl (by simp)) (.bool true)) V;have F3:=(F1.setCell (p:=(zB b 1)) (.inl (by simp)) (.bool false)).setCell (p:=(zB w.heap.size (1+(hb t).toNat))) (.inr (a0b _)) (.bool true);go_wp2;go_ret;refine⟨_,_,_,rfl,h,F3,.inr ⟨rfl,?_⟩⟩;rw[f.o,vB];simp
def agI(b:Nat)(q:Option Addr)(t:LB)(w:World)(h:QP w b t false) :
 zF 124 #[zP b,.pointer q] w λe w'=>e=zR (.pointer q)/\w=w':=by
 have c1:=h.c1;clear h;delta zF;go_in
 go_wp2_with fail
 go_loopg [1] 1 (λk a wr=>k=1/\a=.pointer q/\wr=w)
 exact⟨rfl,rfl,rfl⟩
 .obtain⟨c,rfl,rfl⟩:=hrel;go_wp2;go_ret;exact⟨rfl,rfl⟩
def as8(k:Int)(b a:Option Addr):((Tryz.zeroCells208.setIfInBounds 0 (zI k)).setIfInBounds 257 (.pointer b)).setIfInBounds 258 (.pointer a)=JF k nF (.pointer b) (.pointer a) 0 0:=by kernel_rfl
def auE:Tryz.zeroCells208.setIfInBounds 0 (zI 0)=JF 0 nF (.pointer none) (.pointer none) 0 0:=by kernel_rfl
theorem aoS(k d:Nat)(acc:List RX)(t:LB):jF (k+1) d acc t=if tQ t then some (.seq acc,t) else match ik k d t with | none=>none|some (x,r)=>match dQ (r.length+1) x r with | none=>none|some (y,r2)=>jF k d (acc++[y]) r2:=by
 conv=>lhs;unfold jF
 rfl
theorem agJ(k d:Nat)(acc:List RX)(t:LB):iQ (k+1) d acc t=match jF k d [] t with | none=>none|some (x,r)=>if bA 124 r then iQ k d (acc++[x]) r.tail else some (.alt (acc++[x]),r):=by
 conv=>lhs;unfold iQ
 rfl
theorem agK(acc:List RX)(y:RX):gW (.seq (acc++[y]))=.both (gW (.seq acc)) (gW y):=by simp only[gW];exact ac2 acc _ y
theorem agL {acc:List RX}(h:acc≠[])(y:RX):gW (.alt (acc++[y]))=.either (gW (.alt acc)) (gW y):=by simp only[gW];exact ajA h y
theorem ac4(y:RX):gW (.alt [y])=gW y:=by simp only[gW,yu,Ah]
def amK(hS:∀j,j<k->SgC j):RwC k:=by
 intro b d t w H hd hk;have ZU:=H.lt;obtain⟨i,s⟩:∃i,jF k d [] t=i:=⟨_,rfl⟩;rw[s];delta zF;go_in
 go_wp2_with fail
 go_loopg [5] (k+1) (λg Z wr=>∃(q:Option Addr) (r:LB) (ok:Bool),Z=.pointer q/\QP wr b r ok/\aB [b] w wr/\((ok=true/\∃acc n a,q=some (zA n)/\RN wr n (gW (.seq acc))/\g=a+1/\a<=k/\4*r.length+3<=a/\jF a d acc r=i)\/(ok=false/\1<=g/\i=none)))
 exact⟨_,t,true,rfl,H.aC ((aB.refl [] w).alloc _) (by simp),zJ,.inl ⟨rfl,[],w.heap.size,k,rfl,RK.of auE qQ,rfl,a0b _,hk,s⟩⟩
 .clear H s;obtain⟨q,r,ok,rfl,P,F,C⟩:=hrel;have c1:=P.c1;go_wp2_with fail
  refine(vV b r ok wr P).mono ?_;rintro e w1 ⟨rfl,rfl⟩;rw[uS];have h8:=(hb r).toNat_lt;have v:=AJ (hb r) 124 (by decide);have c:=AJ (hb r) 41 (by decide);have N:=jf 124 (by decide) r;have o:=jf 41 (by decide) r;cases ok
  case false =>
   have HR:i=none:=by
    rcases C with⟨h,_⟩|⟨_,_,h⟩
    .cases h
    exact h
   clear C N o;have fin:QX b w i (zR (.pointer q)) wr:=⟨q,r,false,rfl,P,F,.inr ⟨rfl,HR⟩⟩;clear HR;cases B:r.isEmpty
   .cases l:(hb r==124)
    .have f124:(((hb r).toNat:Int)==124)=false:=v.trans l
     cases u:(hb r==41)
     .have p:(((hb r).toNat:Int)==41)=false:=c.trans u
      go_wp2;go_ret;exact fin
     have p:(((hb r).toNat:Int)==41)=true:=c.trans u;go_wp2;go_ret;exact fin
    have f124:(((hb r).toNat:Int)==124)=true:=v.trans l;go_wp2;go_ret;exact fin
   go_wp2;go_ret;exact fin
  case true =>
   obtain⟨acc,n,a,rfl,X,RU,hkk,hrk,S⟩:∃acc n a,q=some (zA n)/\RN wr n (gW (.seq acc))/\gk=a+1/\a<=k/\4*r.length+3<=a/\jF a d acc r=i:=by
    rcases C with⟨_,h⟩|⟨h,_⟩
    .exact h
    cases h
   obtain⟨k2,rfl⟩:∃k2,a=k2+1:=⟨a-1,by omega⟩;have HR:=S;clear C S;rw[aoS]at HR;have fin:tQ r=true->QX b w i (zR (zP n)) wr:=by intro hs;refine⟨_,r,true,rfl,P,F,.inl ⟨rfl,.seq acc,n,?_,rfl,X⟩⟩;rw[<-HR,a0m hs]
   have A:tQ r=(r.isEmpty||(hb r==124)||(hb r==41)):=by unfold tQ;rw[N,o]
   clear N o;cases B:r.isEmpty
   case true=>have f:=(fin (by rw[A,B];rfl));go_wp2;go_ret;exact f
   cases l:(hb r==124)
   case true=>have f124:(((hb r).toNat:Int)==124)=true:=v.trans l;have f:=(fin (by rw[A,l];simp));go_wp2;go_ret;exact f
   have f124:(((hb r).toNat:Int)==124)=false:=v.trans l;cases u:(hb r==41)
   case true=>have p:(((hb r).toNat:Int)==41)=true:=c.trans u;have f:=(fin (by rw[A,u];simp));go_wp2;go_ret;exact f
   have p:(((hb r).toNat:Int)==41)=false:=c.trans u;have W:tQ r=false:=by rw[A,B,l,u];rfl
   rw[W]at HR;simp only[a0A,a0I]at HR;have hlen:1<=r.length:=by cases r<;>simp at B |-
   clear v c fin A W;have Y:=hS k2 (by omega) b d r wr P hd (by omega);go_wp2_with fail
   refine Y.mono ?_;rintro e R ⟨q2,E,ok2,rfl,x,M,ll⟩;have F2:=F.trans M;have V:=X.aY (P.keepR M);clear M Y P F X c1;rcases ll with⟨rfl,y,m,U,rfl,T⟩|⟨rfl,I⟩
   .rw[U]at HR
    have oP:=(Kj U).2;go_wp2_with fail
    refine(agH b y m E R x T).mono ?_;rintro e O ⟨q3,r3,G,rfl,P3,L,D3⟩;have F3:=F2.trans L;have X3:=V.aY (x.keepR L);clear L x F2 V T;go_wp2;go_roundg (gk-1)
    .refine⟨_,r3,G,rfl,P3.aC zG (by simp),F3.alloc _,?_⟩;rcases D3 with⟨J,z,m2,D,h3,h4⟩|⟨J,D⟩
     .subst h3
      have hl3:=(xJ D).2;refine .inl ⟨J,acc++[z],O.heap.size,k2,rfl,?_,by omega,by omega,by omega,?_⟩
      .rw[agK]
       exact⟨n,m2,RK.of (as8 _ _ _) qQ,X3.aY (dX.new _ _),h4.aY (dX.new _ _)⟩
      have:=HR;simp only[D]at this;exact this
     refine .inr ⟨J,by omega,?_⟩;have:=HR;simp only[D]at this;exact this.symm
    omega
   rw[I]at HR;have tV:i=none:=HR.symm;clear HR;go_wp2_with fail
   refine(agI b q2 E R x).mono ?_;rintro e O ⟨rfl,rfl⟩;go_wp2;go_roundg (gk-1);exact⟨_,E,false,rfl,x.aC zG (by simp),F2.alloc _,.inr ⟨rfl,by omega,tV⟩⟩;omega
def ae5(O:∀j,j<k->RwC j):ChC k:=by
 intro b d t w H hd hk;have ZU:=H.lt;obtain⟨l,f⟩:∃l,iQ k d [] t=l:=⟨_,rfl⟩;rw[f];obtain⟨k0,rfl⟩:∃k0,k=k0+1:=⟨k-1,by omega⟩;rw[agJ]at f;have s:=O k0 (by omega) b d t w H hd (by omega);delta zF;go_in
 go_wp2_with fail
 refine s.mono ?_;rintro e W ⟨q1,r1,D,rfl,S,F1,T⟩;clear s H;go_wp2_with fail
 go_loopg [5] (k0+1) (λg Y wr=>∃(q:Option Addr) (r:LB) (ok:Bool),Y=.pointer q/\QP wr b r ok/\aB [b] w wr/\((ok=true/\∃acc n a,q=some (zA n)/\acc≠[]/\RN wr n (gW (.alt acc))/\g=a+1/\a<=k0/\4*r.length+3<=a/\(if bA 124 r then iQ a d acc r.tail else some (.alt acc,r))=l)\/(ok=false/\1<=g/\l=none)))
 case atStart =>
  refine⟨q1,r1,D,rfl,S,F1,?_⟩;have:=f;rcases T with⟨m,y,n,c,G,E⟩|⟨m,c⟩
  .rw[c]at this
   have hl:=(yL c).2;exact .inl ⟨m,[y],n,k0,G,by simp,by rw[ac4];exact E,rfl,a0b _,by omega,this⟩
  rw[c]at this;exact .inr ⟨m,by omega,this.symm⟩
 case round =>
  clear S F1 T f;obtain⟨q,r,ok,rfl,P,F,v⟩:=hrel;have c1:=P.c1;go_wp2_with fail
  refine(vV b r ok wr P).mono ?_;rintro e W ⟨rfl,rfl⟩;rw[uS];have h8:=(hb r).toNat_lt;have p:=AJ (hb r) 124 (by decide);have M:=jf 124 (by decide) r;cases ok
  case false =>
   have HR:l=none:=by
    rcases v with⟨h,_⟩|⟨_,_,h⟩
    .cases h
    exact h
   clear v M;have fin:QX b w l (zR (.pointer q)) wr:=⟨q,r,false,rfl,P,F,.inr ⟨rfl,HR⟩⟩;clear HR;cases u:r.isEmpty
   .cases i:(hb r==124)
    .have f124:(((hb r).toNat:Int)==124)=false:=p.trans i
     have o:(((hb r).toNat:Int) != 124)=true:=by rw[bne,f124];rfl
     go_wp2;go_ret;exact fin
    have f124:(((hb r).toNat:Int)==124)=true:=p.trans i;have o:(((hb r).toNat:Int) != 124)=false:=by rw[bne,f124];rfl
    go_wp2;go_ret;exact fin
   go_wp2;go_ret;exact fin
  case true =>
   obtain⟨acc,n,a,rfl,J,X,RU,hkk,hrk,N⟩:∃acc n a,q=some (zA n)/\acc≠[]/\RN wr n (gW (.alt acc))/\gk=a+1/\a<=k0/\4*r.length+3<=a/\(if bA 124 r then iQ a d acc r.tail else some (.alt acc,r))=l:=by
    rcases v with⟨_,h⟩|⟨h,_⟩
    .exact h
    cases h
   have HR:=N;clear v N;rw[M]at HR;clear M;cases i:(hb r==124)
   case false =>
    have f124:(((hb r).toNat:Int)==124)=false:=p.trans i;have o:(((hb r).toNat:Int) != 124)=true:=by rw[bne,f124];rfl
    rw[i]at HR;simp only[a0A,a0I]at HR;have fin:QX b w l (zR (zP n)) wr:=⟨_,r,true,rfl,P,F,.inl ⟨rfl,.alt acc,n,HR.symm,rfl,X⟩⟩;clear HR;cases u:r.isEmpty
    .go_wp2
     go_ret;exact fin
    go_wp2;go_ret;exact fin
   have f124:(((hb r).toNat:Int)==124)=true:=p.trans i;have o:(((hb r).toNat:Int) != 124)=false:=by rw[bne,f124];rfl
   have u:r.isEmpty=false:=by
    cases r with
    | nil=>exact absurd i (by decide)
    | cons x q=>rfl
   have hlen:r.tail.length+1=r.length:=by cases r<;>simp at u |-
   rw[i]at HR;simp only[a0G]at HR;obtain⟨k2,rfl⟩:∃k2,a=k2+1:=⟨a-1,by omega⟩;rw[agJ]at HR;clear p;go_wp2_with fail
   refine(jY b r true wr P).mono ?_;rintro e V ⟨rfl,B,L⟩;rw[u]at B;have F2:=F.trans L;have R:=X.aY (P.keepR L);clear L P F X c1;have s:=O k2 (by omega) b d r.tail V B hd (by omega);go_wp2_with fail
   refine s.mono ?_;rintro e U ⟨q3,Z,C,rfl,P3,I,D3⟩;have F3:=F2.trans I;have X3:=R.aY (B.keepR I);clear I B F2 R s;go_wp2;go_roundg (gk-1)
   .refine⟨_,Z,C,rfl,P3.aC zG (by simp),F3.alloc _,?_⟩;have A:=HR;rcases D3 with⟨m,z,m2,c,G,E⟩|⟨m,c⟩
    .subst G
     have hl3:=(yL c).2;rw[c]at A;refine .inl ⟨m,acc++[z],U.heap.size,k2,rfl,by simp,?_,by omega,by omega,by omega,A⟩;rw[agL J];exact⟨n,m2,RK.of (as8 _ _ _) qQ,X3.aY (dX.new _ _),E.aY (dX.new _ _)⟩
    rw[c]at A;exact .inr ⟨m,by omega,A.symm⟩
   omega
def ae6:∀k,ChC k/\RwC k/\SgC k:=by
 intro k
 induction k using Nat.strongRecOn with
 | _ k a =>
   refine⟨ae5 λj c=>(a j c).2.1,amK λj c=>(a j c).2.2,?_⟩;cases k with
   | zero=>intro b d t w h hd e;omega
   | succ k=>exact ae4 (a k (by omega)).1
def Se:TR->Prop
 | .nil=>True
 | .one _=>True
 | .both a b=>Se a/\Se b
 | .either a b=>Se a/\Se b
 | .often a lo hi=>Se a/\lo<=9/\(∀n,hi=some n->n<=9)
mutual
theorem Ii:∀(e:RX),uO e->Se (gW e)
 | .one s,_=>trivial
 | .seq l,h=>by simp only[gW];exact aoU l .nil trivial h
 | .alt l,h=>arY l h
 | .rep x lo hi,h=>⟨Ii x h.1,h.2⟩
theorem aoU:∀(l:List RX) (r:TR),Se r->mZ l->Se (Ag r l)
 | [],r,a,_=>by simp only[Ag];exact a
 | x::l,r,a,h=>by simp only[Ag];exact aoU l _ ⟨a,Ii x h.1⟩ h.2
theorem arY:∀(l:List RX),mZ l->Se (yu l)
 | [],_=>trivial
 | x::l,h=>by simp only[yu];exact aoV l _ (Ii x h.1) h.2
theorem aoV:∀(l:List RX) (r:TR),Se r->mZ l->Se (Ah r l)
 | [],r,a,_=>by simp only[Ah];exact a
 | x::l,r,a,h=>by simp only[Ah];exact aoV l _ ⟨a,Ii x h.1⟩ h.2
end
theorem RK.kd {k:Int}{lo:Int}(h:RK w p k L a b lo hi):zC w p 0 (zI k):=h.c0
def agN(x:TR)(lo:Nat)(hi:Option Nat)(m:Nat)(h:(jQ x).1*times lo hi=m):(40<m->jQ (.often x lo hi)=(41,false))/\(¬ 40<m->jQ (.often x lo hi)=(m,(jQ x).2)):=by subst h;exact⟨λh=>by simp only[jQ];rw[a0m h],λh=>by simp only[jQ];rw[a0n h]⟩
def PcC(t:TR):Prop:=∀(w:World) (p:Nat),RN w p t->Se t ->
 zF 73 #[zP p] w λe w'=>e=zQ #[zI ((jQ t).1:Nat),.bool (jQ t).2]/\w=w'
def uE:∀t:TR,PcC t
 | .nil=>by
   intro w p h hd;have c0:=RK.c0 h;delta zF;go_in
   go_wp2;go_ret2;exact⟨rfl,rfl⟩
 | .one s=>by
   intro w p h hd;have c0:=RK.c0 h;delta zF;go_in
   go_wp2;go_ret2;exact⟨rfl,rfl⟩
 | .both x y=>by
   intro w p h hd;obtain⟨a,b,f,i,v⟩:=h;have c0:=f.c0;obtain⟨ca,cb,_,_⟩:=f.ends;have A:=uE x w a i hd.1;have B:=uE y w b v hd.2;have c:=(qa x).1;have l:=(qa y).1;have q:Z_ (jQ (.both x y)=if 40<(jQ x).1+(jQ y).1 then (41,false) else ((jQ x).1+(jQ y).1,(jQ x).2&&(jQ y).2)):=rfl;clear f i v hd;generalize jQ x=j at *;generalize jQ y=C at *;obtain⟨n1,b1⟩:=j;obtain⟨D,b2⟩:=C;simp only[]at c l A B q;unfold pq at ca cb;delta zF;go_in
   go_wp2_with fail
   refine A.mono ?_;rintro e u ⟨rfl,rfl⟩;go_wp2_with fail
   refine B.mono ?_;rintro e u ⟨rfl,rfl⟩
   by_cases g:40<n1+D
   .cases b1
    all_goals
     go_wp2;go_ret2;rw[q.o,a0m g];exact⟨rfl,rfl⟩
   cases b1
   all_goals
    go_wp2;go_ret2;rw[q.o,a0n g];exact⟨by first | rfl|(simp;done)|go_num,rfl⟩
 | .either x y=>by
   intro w p h hd;obtain⟨a,b,f,i,v⟩:=h;have c0:=f.c0;obtain⟨ca,cb,_,_⟩:=f.ends;have A:=uE x w a i hd.1;have B:=uE y w b v hd.2;have c:=(qa x).1;have l:=(qa y).1;have q:Z_ (jQ (.either x y)=if 40<(jQ x).1+(jQ y).1 then (41,false) else ((jQ x).1+(jQ y).1,(jQ x).2&&(jQ y).2)):=rfl;clear f i v hd;generalize jQ x=j at *;generalize jQ y=C at *;obtain⟨n1,b1⟩:=j;obtain⟨D,b2⟩:=C;simp only[]at c l A B q;unfold pq at ca cb;delta zF;go_in
   go_wp2_with fail
   refine A.mono ?_;rintro e u ⟨rfl,rfl⟩;go_wp2_with fail
   refine B.mono ?_;rintro e u ⟨rfl,rfl⟩
   by_cases g:40<n1+D
   .cases b1
    all_goals
     go_wp2;go_ret2;rw[q.o,a0m g];exact⟨rfl,rfl⟩
   cases b1
   all_goals
    go_wp2;go_ret2;rw[q.o,a0n g];exact⟨by first | rfl|(simp;done)|go_num,rfl⟩
 | .often x lo hi=>by
   intro w p h hd;obtain⟨a,f,i⟩:=h;have c0:=f.c0;obtain⟨ca,_,cl,G⟩:=f.ends;have A:=uE x w a i hd.1;have c:=(qa x).1;have I:=hd.2.1;have F:=hd.2.2;clear f i hd;unfold pq at ca;cases hi with
   | none =>
     simp only[hiT]at G;have E:(jQ x).1*(lo+1)<=41*10:=a0D c (by omega);have z:((jQ x).1:Int)*((lo:Int)+1)=(((jQ x).1*(lo+1):Nat):Int):=by simp
     obtain⟨m,n⟩:∃m,(jQ x).1*(lo+1)=m:=⟨_,rfl⟩;have r:=agN x lo none m n;rw[n]at E z;clear n;generalize jQ x=j at *;obtain⟨n1,b1⟩:=j;simp only[]at c A r z;delta zF;go_in
     go_wp2_with fail
     refine A.mono ?_;rintro e u ⟨rfl,rfl⟩
     by_cases g:40<m
     .have d:=r.1 g
      go_wp2;go_ret2;rw[d];exact⟨rfl,rfl⟩
     have d:=r.2 g;go_wp2;go_ret2;rw[d];exact⟨by first | rfl|(simp;done)|go_num,rfl⟩
   | some k =>
     have H:=F k rfl;simp only[hiT]at G;have E:(jQ x).1*k<=41*10:=a0D c (by omega);have z:((jQ x).1:Int)*(k:Int)=(((jQ x).1*k:Nat):Int):=by simp
     obtain⟨m,n⟩:∃m,(jQ x).1*k=m:=⟨_,rfl⟩;have r:=agN x lo (some k) m n;rw[n]at E z;clear n F;generalize jQ x=j at *;obtain⟨n1,b1⟩:=j;simp only[]at c A r z;delta zF;go_in
     go_wp2_with fail
     refine A.mono ?_;rintro e u ⟨rfl,rfl⟩
     by_cases g:40<m
     .have d:=r.1 g
      go_wp2;go_ret2;rw[d];exact⟨rfl,rfl⟩
     have d:=r.2 g;go_wp2;go_ret2;rw[d];exact⟨by first | rfl|(simp;done)|go_num,rfl⟩
def OV(e:TypeId)(base:Nat)(w:World)(v:Value)(xs:List Value):Prop:=w.ownsRow base e 1 v xs.length xs
theorem OV.nil(e:TypeId)(base:Nat)(w:World):OV e base w zN []:=World.ownsRow_nil _ _ _ _
theorem OV.aC {S:LN} {base:Nat}(h:OV e base w v xs)(f:aB S w w')(a:∀k,k∈S->k<base):OV e base w' v xs:=fG h f a
def OV.shape {base:Nat}(h:OV e base w v xs):∃a cap,v=.slice a xs.length cap:=aW h
theorem OV.cell {base:Nat} {a:Option Addr} {n cap:Nat}(h:OV e base w (.slice a n cap) xs) {j:Nat} {u:Value}(b:xs[j]?=some u):∃g,a=some (zA g)/\base<=g/\g<w.heap.size/\zC w g j u:=by
 rcases h.2 with⟨e,f⟩|⟨g,cap,cur,e,hb,d,rest⟩
 .have:=(a0d.1 b).1;omega
 simp only[Value.slice.injEq]at e;obtain⟨rfl,rfl,rfl⟩:=e;have c:=World.ownsRow.cells h (g:=g) rfl j u b;rw[add0]at c;exact⟨g,rfl,hb,(a0c.1 d).1,c⟩
def DL {ops:Array Oper} {rest:List Oper} {o:Oper} {a:Act} {Q:Exit->Act->World->Prop}(w:World)(k:o.guard=none)(s x:Operand)(t e:TypeId)(z:Value)(c:Nat)
 (I:(Tryz.prog.info? e).map (λi=>(i.zero,i.size,i.bytes))=some (some z,1,c)) (ht:Tryz.prog.underlying t=some (.slice e)) (H:z.cells.size=1)
 (ho:o.op=.call { callee:=.builtin .append,args:=#[s,x],argTypes:=#[t,t] })
 (base:Nat) (v:Value) (xs:List Value) (N b1:Nat) (u:Value) (r:N=xs.length+1) (p:a.eval s=v) (G:OV e base w v xs) (m:a.eval x=zS b1 1 1)
 (q:zC w b1 0 u) (n:u.oneCell'=true) (hlen:(xs.length+1)*c<=140737488355328) (J:xs.length<=140737488355328) (f:base<=w.heap.size)
 (h:∀g cap w',OV e base w' (zS g N cap) (xs++[u])->w.grownBy w' v.ownBlock->(v.ownBlock=some g\/g=w.heap.size)->g<w'.heap.size->wpList Tryz.prog ops Q rest (a.put o.dst (zS g N cap)) w') :
 wpList Tryz.prog ops Q (o::rest) a w:=by
 subst r;obtain⟨l,hi,gT,F,E⟩:=info_parts I;refine wpList_append_lies w k s x t ho base e l z 1 c ht hi gT F E H (by decide) v xs.length xs p G (zA b1) 1 1 [u] m rfl ?_ (λy d=>by simp at d;subst d;exact n) (by decide) (by unfold maxLen;omega) hlen f w.heap.size rfl ?_
 .intro j y b
  have:j=0:=by
   cases j with
   | zero=>rfl
   | succ j=>simp at b
  subst this;rw[add0];simp at b;rw[<-b];exact q
 intro g cap w' D C B A;exact h g cap w' (by unfold OV;rw[a0p];exact D) C B A
theorem mi(w:World)(v:Value)(t:TypeId)(n:Nat)(h:w.heap.size=n):zC (w.alloc (.cells #[v] t)) n 0 v:=by subst h;simp
theorem OV.base {base:Nat}(h:OV e base w v xs):∀k,v.ownBlock=some k->base<=k:=λk a=>(h.lt k a).1
def aM(n:Nat):Value:=zP n
def OV.open {base:Nat}(h:OV e base w v xs):∃a n cap,v=.slice a n cap/\n=xs.length:=by obtain⟨a,cap,rfl⟩:=h.shape;exact⟨a,_,cap,rfl,rfl⟩
def aoW:(Tryz.prog.info? 128).map (λi=>(i.zero,i.size,i.bytes))=some (some (.pointer none),1,8):=by kernel_rfl
def SQ(w:World):LN->LN->Prop
 | [],[]=>True
 | q::a,s::S=>RN w q (.one s)/\SQ w a S
 | _,_=>False
theorem SQ.app:∀{a b:LN} {S T:LN},SQ w a S->SQ w b T->SQ w (a++b) (S++T)
 | [],b,[],T,_,h=>h
 | q::a,b,s::S,T,h,k=>⟨h.1,SQ.app h.2 k⟩
 | [],_,_::_,_,h,_=>by simp[SQ]at h
 | _::_,_,[],_,h,_=>by simp[SQ]at h
theorem SQ.len:∀{a S:LN},SQ w a S->a.length=S.length
 | [],[],_=>rfl
 | q::a,s::S,h=>by simp[SQ.len h.2]
 | [],_::_,h=>by simp[SQ]at h
 | _::_,[],h=>by simp[SQ]at h
def SQ.get:∀{a S:LN},SQ w a S->∀(j:Nat) (s:Nat),S[j]?=some s->∃q,a[j]?=some q/\RN w q (.one s)
 | [],[],_,j,s,h=>by simp at h
 | q::a,c::S,h,0,s,b=>by simp at b;subst b;exact⟨q,rfl,h.1⟩
 | q::a,c::S,h,j+1,s,b=>by simpa using SQ.get h.2 j s (by simpa using b)
 | [],_::_,h,_,_,_=>by simp[SQ]at h
 | _::_,[],h,_,_,_=>by simp[SQ]at h
def StQ(a:World)(c:LN)(t:TR)(e:Ending)(w':World):Prop :=
 ∃v b,e=zR v/\OV 128 a.heap.size w' v ((c++b).map aM)/\aB [] a w'/\SQ a b (kP t)
def StC(t:TR):Prop:=∀(a w:World) (p:Nat) (v:Value) (b:LN),RN a p t->aB [] a w->OV 128 a.heap.size w v (b.map aM)->b.length+(kP t).length<=1000000 ->
 zF 125 #[zP p,v] w (StQ a b t)
def dX.of(f:aB [] w w'):dX w w':=dX.nil f
def yO:∀t:TR,StC t
 | .nil=>by
   intro m w p v f h hF ho r;have c0:=RK.c0 (RN.aY (dX.of hF) h);obtain⟨av,d,M,rfl,l⟩:=ho.open;clear l;have O:=aj ho;have F:=aj hF;clear ho hF h;delta zF;go_in
   go_wp2;go_ret;exact⟨_,[],rfl,by rw[a0R];exact O,F,trivial⟩
 | .one s=>by
   intro m w p v f h hF ho r;have c0:=RK.c0 (RN.aY (dX.of hF) h);obtain⟨av,d,M,rfl,l⟩:=ho.open;have O:=aj ho;have F:=aj hF;have HN:=aj h;have gT:=hF.size;have V:(f.map aM).length=f.length:=by simp
   rw[V]at l;have Hnv:=aj l;clear l;simp only[kP,a0r,a1e]at r;clear ho hF h;delta zF;go_in
   go_wp2_with (at_builtin;refine DL _ rfl _ _ 228 128 _ 8 aoW Tryz.underlying228 rfl rfl m.heap.size (.slice av d M) (f.map aM) (d+1) w.heap.size (aM p) (by rw[V,Hnv.o]) rfl (O.o.aC (S:=[]) ((aB.refl [] _).alloc _) (by simp)) rfl (mi _ _ _ _ rfl) rfl (by rw[V];omega) (by rw[V];omega) (by simp;omega) ?_;intro g cap w5 aS aH bq iE;have O5:=aj aS;have F5:=aj ((F.o.alloc _).grown aH (λk c=>.inr (O.o.base k c)));clear aS aH bq)
   go_ret;exact⟨_,[p],rfl,by rw[a0P];exact O5,F5,⟨HN,trivial⟩⟩
 | .both x y=>by
   intro m w p v f h hF ho r;obtain⟨a,b,c,u,J⟩:=h;have c0:=(c.aY (dX.of hF)).c0;obtain⟨ca,_⟩:=(c.aY (dX.of hF)).ends;unfold pq at ca;simp only[kP,a0p]at r;have A:=aj (yO x m w a v f u hF ho (by omega));obtain⟨av,d,M,rfl,l⟩:=ho.open;clear l;have HK:=aj c;have HY:=aj J;clear ho hF c u J;delta zF;go_in
   go_wp2_with fail
   refine(A.o).mono ?_;rintro e T ⟨U,C,rfl,i,n,q⟩;have B:=aj (yO y m T b U (f++C) HY.o n i (by rw[a0p,q.len];omega));have Z:=aj q;obtain⟨_,cb,_⟩:=(HK.o.aY (dX.of n)).ends;unfold pq at cb;obtain⟨Y,W,X,rfl,D⟩:=i.open;clear D;clear i n q A;go_wp2_with fail
   refine(B.o).mono ?_;rintro e w2 ⟨v2,z,rfl,E,H,G⟩;have R:=aj E;have F2:=aj H;have P:=aj G;obtain⟨N,I,L,rfl,j⟩:=E.open;clear j;clear E H G B;go_wp2;go_ret;exact⟨_,C++z,rfl,by rw[<-a0M];exact R,F2,Z.o.app P⟩
 | .either x y=>by
   intro m w p v f h hF ho r;obtain⟨a,b,c,u,J⟩:=h;have c0:=(c.aY (dX.of hF)).c0;obtain⟨ca,_⟩:=(c.aY (dX.of hF)).ends;unfold pq at ca;simp only[kP,a0p]at r;have A:=aj (yO x m w a v f u hF ho (by omega));obtain⟨av,d,M,rfl,l⟩:=ho.open;clear l;have HK:=aj c;have HY:=aj J;clear ho hF c u J;delta zF;go_in
   go_wp2_with fail
   refine(A.o).mono ?_;rintro e T ⟨U,C,rfl,i,n,q⟩;have B:=aj (yO y m T b U (f++C) HY.o n i (by rw[a0p,q.len];omega));have Z:=aj q;obtain⟨_,cb,_⟩:=(HK.o.aY (dX.of n)).ends;unfold pq at cb;obtain⟨Y,W,X,rfl,D⟩:=i.open;clear D;clear i n q A;go_wp2_with fail
   refine(B.o).mono ?_;rintro e w2 ⟨v2,z,rfl,E,H,G⟩;have R:=aj E;have F2:=aj H;have P:=aj G;obtain⟨N,I,L,rfl,j⟩:=E.open;clear j;clear E H G B;go_wp2;go_ret;exact⟨_,C++z,rfl,by rw[<-a0M];exact R,F2,Z.o.app P⟩
 | .often x lo hi=>by
   intro m w p v f h hF ho r;obtain⟨a,c,u⟩:=h;have c0:=(c.aY (dX.of hF)).c0;obtain⟨ca,_⟩:=(c.aY (dX.of hF)).ends;unfold pq at ca;simp only[kP]at r;have A:=aj (yO x m w a v f u hF ho r);obtain⟨av,d,M,rfl,l⟩:=ho.open;clear l;clear ho hF c u;delta zF;go_in
   go_wp2_with fail
   refine(A.o).mono ?_;rintro e T ⟨U,C,rfl,i,n,q⟩;have R:=aj i;have F2:=aj n;have P:=aj q;obtain⟨N,I,L,rfl,j⟩:=i.open;clear j;clear i n q A;go_wp2;go_ret;exact⟨_,C,rfl,R,F2,P⟩
def agP(f:NF->Nat):∀(l:List NF) (x:NF),((put l x).map f).sum<=(l.map f).sum+f x
 | [],x=>by simp[put]
 | y::r,x=>by
   have:=agP f r x;unfold put
   split
   .grind
   grind
theorem Kk(f:NF->Nat):∀(l acc:List NF),((l.foldl put acc).map f).sum<=(acc.map f).sum+(l.map f).sum
 | [],acc=>by simp
 | x::r,acc=>by have b:=Kk f r (put acc x);have a:=agP f acc x;simp only[a1R,a0E,a0Y];omega
def aoY(f:NF->Nat)(l:List NF):((gU l).map f).sum<=(l.map f).sum:=by grind [Kk,gU]
theorem WG:∀{l:List NF},bf l≠0->∃y∈l,dF y=true
 | [],h=>by simp[bf]at h
 | x::r,h=>by
   cases a:dF x
   .have hb:bits x=0:=by cases x<;>simp[dF]at a<;>rfl
    rw[tH,hb,Nat.zero_or]at h;obtain⟨y,b,c⟩:=WG h;exact⟨y,by simp[b],c⟩
   exact⟨x,by simp,a⟩
def amL(f:NF->Nat)(a:Nat)(g:∀y,dF y=true->f y=a)(l:List NF):((bN l).map f).sum<=(l.map f).sum:=by
 have b:∀l:List NF,((l.filter (λx=>!dF x)).map f).sum+(if l.any dF then a else 0)<=(l.map f).sum:=by
  intro l
  induction l with
  | nil=>simp
  | cons x r c =>
    cases d:dF x
    .grind
    grind
 have h:=b l;unfold bN;rw[a0P,a1Y]
 by_cases e:bf l=0
 .grind
 grind [WG,dF,bf]
def DN {xs:List NF}(g:∀x∈xs,wf x)(f:NF->Nat)(a:Nat)(d:∀y,dF y=true->f y=a):((parts (bQ xs)).map f).sum<=((xs.flatMap parts).map f).sum:=by
 have b:∀p∈gU (bN (xs.flatMap parts)),iU p=true:=by
  intro p c;rcases wI (kK c) with h|h
  .exact ET h
  grind [mY]
 have e:parts (bQ xs)=gU (bN (xs.flatMap parts)):=by
  unfold bQ;generalize gU (bN (xs.flatMap parts))=L at *
  match L,b with
  | [],_=>rfl
  | [y],b=>exact wJ (b y (by simp))
  | y::z::r,_=>rfl
 rw[e];exact a0h (aoY f _) (amL f a d _)
def pc(k n:Nat)(y:NF):Nat:=if dF y then 514+k else oG y k+hG y k n
def pn(y:NF):Nat:=if dF y then 514 else nl y+1
structure KP(X:NF)(t:Nat)(C E e:Nat->Nat):Prop where
 t:((parts X).map pn).sum<=t
 c:∀n,((parts X).map (pc 0 n)).sum<=C n
 e:∀k n,1<=k->((parts X).map (pc k n)).sum<=E n+e n*k
def U4(k n:Nat)(y:NF):oG y k+hG y k n<=pc k n y:=by
 unfold pc
 split
 .rename_i h
  cases y<;>simp[dF]at h
  rename_i s
  have:=YO s;simp only[oG,hG];omega
 exact a0b _
def aoZ(y:NF):nl y+1<=pn y:=by
 unfold pn
 split
 .rename_i h
  cases y<;>simp[dF]at h
  rename_i s
  have:=YO s;omega
 exact a0b _
def ae7(k n:Nat):∀l:List NF,XX l k+XY l k n<=(l.map (pc k n)).sum
 | []=>by simp[XX,XY]
 | x::r=>by have b:=U4 k n x;have a:=ae7 k n r;simp only[XX,XY,a0E,a0Y];omega
def KP.plain {t:Nat} {C E e:Nat->Nat}(h:KP X t C E e)(g:jK X=false)(hz:X≠.zero):zL X t C E e:=by
 have f:parts X=[X]:=by
  cases X with
  | zero=>exact absurd rfl hz
  | sum l=>simp[jK]at g
  | one=>rfl
  | set s=>rfl
  | pair a b=>rfl
  | star a=>rfl
 refine⟨?_,λn=>?_,λk n i=>?_⟩
 .have:=h.t;rw[f]at this;simp at this;have:=aoZ X;omega
 .have d:=h.c n;rw[f]at d;simp at d;have:=U4 0 n X;omega
 have d:=h.e k n i;rw[f]at d;simp at d;have:=U4 k n X;omega
theorem KP.sum {l:List NF} {t:Nat} {C E e:Nat->Nat}(h:KP (.sum l) t C E e) :
 zL (.sum l) (t+2) C (λn=>t+3+E n+(if JE l then sumTo (λj=>C j+519) n else 0)) (λn=>1+e n+(if JE l then n else 0)):=by
 have f:∀n,XX l 0+XY l 0 n<=C n:=λn=>a0h (ae7 0 n l) (h.c n)
 have ht:nl (.sum l)<=t+2:=by
  rw[MF];have b:∀l:List NF,sW l<=(l.map pn).sum:=by
   intro l
   induction l with
   | nil=>simp[sW]
   | cons x r i=>have:=aoZ x;rw[Ca];simp only[a0E,a0Y];omega
  have:=b l;have:=h.t;simp only[parts]at this;omega
 refine⟨ht,λn=>?_,λk n d=>?_⟩
 .grind [oG,hG]
 have b:XX l k+XY l k n<=E n+e n*k:=a0h (ae7 k n l) (h.e k n d);have a:¬ k=0:=by omega
 simp only[oG,hG,a,a0I,a0J]
 by_cases hb:JE l=true
 .simp only[hb,a0G]
  have g:sumTo (λj=>518+XX l 0+XY l 0 j+k+1) n<=sumTo (λj=>C j+519+k) n:=qJ λj _ _=>by have:=f j;omega
  rw[yJ (λj=>C j+519) (λ_=>k),oO]at g;omega
 grind
def np(x:NF):Nat:=(parts x).length
def agQ:∀l:List NF,l.length<=bP l
 | []=>a0b _
 | x::r=>by have:=x.size_pos;have:=agQ r;simp only[a0r,bP];omega
def ZY(x:NF):np x<=x.size:=by
 cases x with
 | sum l=>have:=agQ l;simp only[np,parts,NF.size];omega
 | _=>simp only[np,parts,NF.size,a0r,a1e];omega
def Z0 {y b:NF}(f:wf y)(hb:aP b=true):np (aG y b)<=np b+1:=by
 by_cases ht:aP y=true
 .have:∃p q,aG y b=.pair p q:=by
   revert f ht
   refine NF.ind (P:=λy=>wf y->aP y=true->∃p q,aG y b=.pair p q) ?_ y;intro y h f ht;cases y with
   | zero=>simp[aP]at ht
   | one=>simp[aP]at ht
   | pair c d=>rw[dA hb];have g:=eP f.2.1 f.2.2.2 hb;rw[aX f.2.2.1 g];exact⟨_,_,rfl⟩
   | set s=>rw[aX rfl hb];exact⟨_,_,rfl⟩
   | sum l=>rw[aX rfl hb];exact⟨_,_,rfl⟩
   | star a=>rw[aX rfl hb];exact⟨_,_,rfl⟩
  obtain⟨p,q,e⟩:=this;rw[e];simp[np,parts]
 grind [fQ,np,parts,aG]
theorem ajD {ls:List NF}(a:∀x∈ls,wf x):np (bQ ls)<=(ls.map np).sum:=by
 have:=DN a (λ_=>1) 1 (λ_ _=>rfl);simp only[List.map_const']at this;have e:(ls.flatMap parts).length=(ls.map np).sum:=by rw[List.length_flatMap];rfl
 simp at this;have b:((List.map (λx=>(parts x).length) ls).sum)=(ls.map np).sum:=rfl;unfold np;omega
def ao0(c:Nat)(x:NF):wf x->np (left c x)<=x.size*(x.size+1):=by
 refine NF.ind (P:=λx=>wf x->np (left c x)<=x.size*(x.size+1)) ?_ x;intro x k d;cases x with
 | zero=>simp[left,np,parts]
 | one=>simp[left,np,parts]
 | set s=>simp only[left];split<;>simp[np,parts,NF.size]
 | star a=>have q:=Z0 (y:=left c a) (b:=.star a) (gI c a d.1) rfl;have j:np (.star a)=1:=rfl;simp only[left,NF.size];have:=a.size_pos;have i:2*3<=(a.size+1)*(a.size+1+1):=a0D (by omega) (by omega);omega
 | pair a b =>
   have q:=Z0 (y:=left c a) (gI c a d.1) d.2.2.2;have j:=k b (by simp[NF.size];omega) d.2.1;have i:=ZY b;have m:∀x ∈ [aG (left c a) b,left c b],wf x:=by simp;exact⟨lY (gI c a d.1) d.2.1,gI c b d.2.1⟩
   have p:np (left c (.pair a b))<=np (aG (left c a) b)+np (left c b):=by grind [left,ajD,iw]
   simp only[NF.size];have t:(b.size+1)*(b.size+1)<=(a.size+b.size+1)*(a.size+b.size+1+1):=a0D (by omega) (by omega);have v:(b.size+1)*(b.size+1)=b.size*(b.size+1)+b.size+1:=by rw[a0J];omega
   omega
 | sum l =>
   have m:∀x∈xy c l,wf x:=by rw[fP];intro y f;obtain⟨z,hz,rfl⟩:=a0q.1 f;exact gI c z (kJ.1 d.1 z hz)
   have q:=ajD m;have j:∀e:List NF,(∀y∈e,y∈l)->((xy c e).map np).sum<=bP e*(bP l+1):=by
    intro e
    induction e with
    | nil=>intro _;simp[xy]
    | cons y r g=>intro o;have f:=o y (by simp);have u:=dx f;have i:=k y (by simp[NF.size];omega) (kJ.1 d.1 y f);have p:=g (λz hz=>o z (by simp[hz]));have t:y.size*(y.size+1)<=y.size*(bP l+1):=a0o _ (by omega);simp only[xy,a0E,a0Y,bP,a0J (n:=y.size)];omega
   have i:=j l (λ_ h=>h);have p:bP l*(bP l+1)<=(bP l+1)*(bP l+1+1):=a0D (by omega) (by omega);simp only[left,NF.size];omega
def Jn(t:List NF):Nat:=(t.map λx=>x.size+1).sum
theorem ac6(s t:List NF):Jn (s++t)=Jn s+Jn t:=by simp[Jn]
def Kl:∀{t:List NF},t≠[]->Jn t=(chain t).size+1
 | [x],_=>by simp[Jn,chain]
 | x::y::r,_=>by have:=Kl (t:=y::r) (by simp);rw[Wi (by simp)];simp only[NF.size];show(x.size+1)+Jn (y::r)=_;omega
def amM(X:NF):∀(Y:NF) (t:List NF),wf X->(Y,t)∈bG X->Jn t<=X.size*dZ X:=by
 refine NF.ind (P:=λX=>∀(Y:NF) (t:List NF),wf X->(Y,t)∈bG X->Jn t<=X.size*dZ X) ?_ X;intro X f Y t d h;rcases tJ h with⟨_,rfl⟩|⟨a,b,s,rfl,c,rfl⟩|⟨a,b,rfl,c⟩|⟨l,x,rfl,i,c⟩|⟨a,s,rfl,c,rfl⟩
 .simp[Jn]
 .have e:=f a (by simp[NF.size];omega) Y s d.1 c
  have g:=Kl (EU b);rw[xz d.2.1]at g;rw[ac6,g];simp only[NF.size,dZ];have j:a.size*dZ a<=a.size*(max (dZ a) (dZ b)+1):=a0o _ (by omega);have m:(b.size+1)*1<=(b.size+1)*(max (dZ a) (dZ b)+1):=a0o _ (by omega);rw[show a.size+b.size+1=a.size+(b.size+1) by omega,a0J];omega
 .have e:=f b (by simp[NF.size];omega) Y t d.2.1 c
  simp only[NF.size,dZ];exact a0h e (a0D (by omega) (by omega))
 .have k:=dx i
  have hh:=J6 i;have e:=f x (by simp[NF.size];omega) Y t (kJ.1 d.1 x i) c;simp only[NF.size,dZ];exact a0h e (a0D (by omega) (by omega))
 have e:=f a (by simp[NF.size]) Y s d.1 c;have g:Jn [.star a]=a.size+2:=by simp[Jn,NF.size]
 have j:=Rk a;rw[ac6,g];simp only[NF.size,dZ,a0J,a1A];omega
def ao1(X:NF):∀(Y:NF) (t:List NF),(Y,t)∈bG X->dZ Y<=dZ X:=by
 refine NF.ind (P:=λX=>∀(Y:NF) (t:List NF),(Y,t)∈bG X->dZ Y<=dZ X) ?_ X;intro X e Y t h;rcases tJ h with⟨rfl,rfl⟩|⟨a,b,s,rfl,c,rfl⟩|⟨a,b,rfl,c⟩|⟨l,x,rfl,d,c⟩|⟨a,s,rfl,c,rfl⟩
 .exact a0b _
 .grind [NF.size,dZ]
 .grind [NF.size,dZ]
 .have f:=dx d
  have hh:=J6 d;have g:=e x (by simp[NF.size];omega) Y t c;simp only[dZ];omega
 grind [NF.size,dZ]
def ao2(D:WC X) {w:LN} {c:Nat} {g:NF}(N:X.size*dZ X<=524800)(hw:w.length<=40)(h:dF g=true\/g=.one\/sV X w g):np (left c g)<=1000000000000:=by
 rcases h with h|h|h
 .cases g with
  | set s=>simp only[left];split<;>simp[np,parts]
  | _=>simp[dF]at h
 .rw[h];simp[left,np,parts]
 obtain⟨Z,u,Y,t,v,l,m,J,rfl,hh⟩:=h;have E:=(bU D.1 l).1;have k:=bU E m;have cZ:=UU X Z u D.2 l;have cY:=UU Z Y t cZ m;have n:=(pZ l).1;have G:=(pZ m).1;have A:=Rk X;have S:X.size<=524800:=by have:X.size*1<=X.size*dZ X:=a0o _ A;omega
 by_cases ht:t=[]
 .subst ht
  have e:left c (mk (dW Y v) [])=dW Y (v++[c]):=(tK Y v c).symm;rw[e];have i:WC (dW Y (v++[c])):=by
   have:∀(u:LN) (y:NF),WC y->WC (dW y u):=by
    intro u
    induction u with
    | nil=>intro y z;exact z
    | cons a r I=>intro y z;exact I _ (z.left a)
   exact this _ _ ⟨k.1,cY⟩
  obtain⟨O,s,H⟩:=Cc i.1 i.2
  let M:List NF:=.set s::.one::((bG Y).flatMap λo=>(DF (v++[c])).map λd=>mk (dW o.1 d) o.2)
  have F:∀p∈parts (dW Y (v++[c])),p∈M:=by
   intro p C;rcases yF Y k.1 (v++[c]) p C with j|j|⟨Y',s',d,j,W,V,U,T⟩
   .rw[H p C j];simp[M]
   .rw[j];simp[M]
   grind [bG,DF,mk,dW,Mw]
  have P:=qP O F;have hM:M.length=2+Y.size*(v.length+2):=by
   have:=xD (λo:NF × List NF=>(DF (v++[c])).map λd=>mk (dW o.1 d) o.2) (λ_=>v.length+2) (by intro o;simp[Mx]) (bG Y);have e3:((bG Y).map λ_=>v.length+2).sum=Y.size*(v.length+2):=by
    rw[<-Zy Y]
    induction bG Y with
    | nil=>simp
    | cons a r q=>simp only[a0E,a0Y,q,a0r,a0J,a2T];omega
   have e4:M.length=((bG Y).flatMap λo=>(DF (v++[c])).map λd=>mk (dW o.1 d) o.2).length+2:=by simp[M]
   rw[e4,this,e3];omega
  have Af:=J.length_le;have h6:Y.size*(v.length+2)<=524800*42:=a0D (by omega) (by omega);unfold np;omega
 rw[lH ht];have L:=amM Z Y t E m;have R:Z.size*dZ Z<=524800:=a0h (a0D n (ao1 X Z u l)) N;have eG:=Kl ht;have b:=EW k.2;have B:=fK k.2 ht;have f:wf (dW Y v):=BR k.1 v;have j:=Z0 (y:=left c (dW Y v)) (gI c _ f) B;have W:=ao0 c (chain t) b;have V:=ZY (chain t);have JW:∀x ∈ [aG (left c (dW Y v)) (chain t),left c (chain t)],wf x:=by simp;exact⟨lY (gI c _ f) b,gI c _ b⟩
 have U:np (left c (.pair (dW Y v) (chain t)))<=np (aG (left c (dW Y v)) (chain t))+np (left c (chain t)):=by
  show np (if dK (dW Y v) then iw (aG (left c (dW Y v)) (chain t)) (left c (chain t)) else aG (left c (dW Y v)) (chain t))<=_
  split
  .grind [ajD,iw]
  omega
 have T:(chain t).size*((chain t).size+1)<=524800*524801:=a0D (by omega) (by omega);omega
end
end Go.Proofs.YtedmellodofajaaGreatDoor
