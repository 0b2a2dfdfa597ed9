import Derived.Test.YtgbdcmpmmkfbhaaGreatJ1
set_option linter.unusedVariables false
set_option linter.unusedSimpArgs false
set_option linter.unnecessarySimpa false
set_option maxRecDepth 100000
set_option maxHeartbeats 1000000
namespace Go.Proofs.YtgbdcmpmmkfbhaaGreat
variable {X Y Z a b f p x:NF} {l ls u:List NF} {r t:LB} {S v:LN} {w w':World} {ab g h h' m p' s s':Nat} {α:Type} {n:Int} {va vn:Value} {cs old:Array Value}
set_option linter.unusedVariables false
set_option linter.unusedSimpArgs false
/-- What is met when what is left of a form behind w is looked at. -/
def qx(X:NF)(w:LN)(f:NF):Prop :=
 ∃Z u Y t v,(Z,u)∈bq X/\(Y,t)∈bq Z/\v <:+ w/\f=mk (dW Y v) t/\(t≠[]->dE (dW Y v)=true)
theorem wI{t:List NF}(h:(Z,u)∈bq X)(k:(Y,t)∈bq Z):∃s,(Y,s)∈bq X:=⟨_,jw h k⟩
theorem Ig {t:List NF}(h:(Y,t)∈bq X){w:LN}(hv:v <:+ w):qx X w (dW Y v) :=
 ⟨Y,t,Y,[],v,h,eP Y,hv,rfl,λh=>absurd rfl h⟩
theorem aea{t:List NF}(hX:wf X)(hZ:(Z,u)∈bq X)(hY:(Y,t)∈bq Z)(ht:t≠[])(w:LN):qx X w (chain t):=by
 match t,hY,ht with
 | c1::r,hY,_ =>
   have h1:=qY (u:=[]) hY rfl;have hg:=(bJ (bJ hX hZ).1 hY).2 c1 (by simp);refine⟨Z,u,c1,r,[],hZ,h1,a2l,?_,λ_=>hg.2⟩;cases r<;>rfl
theorem Ug {t:List NF}(h:(Y,t)∈bq X){w:LN}(hv:v <:+ w)(hc:Sa Y v p):di p=true\/p=.one\/qx X w p:=by
 rcases hc with h1|h1|⟨Y',s,v',h1,h2,h3,h4,h5⟩
 ·exact .inl h1
 ·exact .inr (.inl h1)
 exact .inr (.inr ⟨Y,t,Y',s,v',h,h1,h2.trans hv,h4,λ_=>h3⟩)
theorem Ih(hX:wf X) {w:LN}(h:qx X w (.pair a b)) :
 ∃Z u Y t v,(Z,u)∈bq X/\(Y,t)∈bq Z/\t≠[]/\v <:+ w/\a=dW Y v/\dE a=true/\b=chain t:=by
 obtain⟨Z,u,Y,t,v,hZ,hY,hv,hf,hh⟩:=h
 by_cases ht:t=[]
 ·subst ht
  rw[show mk (dW Y v) []=dW Y v from rfl]at hf;have BO:=(bJ hX hZ).1;have zT:=(bJ BO hY).1;have hc:=wG Y zT v (.pair a b) (by rw[<-hf];simp[parts]);rcases hc with h1|h1|⟨Y',s,v',h1,h2,h3,h4,h5⟩
  ·simp[di]at h1
  ·simp at h1
  obtain⟨u',hYX⟩:=wI hZ hY
  by_cases hs:s=[]
  ·subst hs
   rw[show mk (dW Y' v') []=dW Y' v' from rfl]at h4;rw[<-h4]at h3;simp[dE]at h3
  rw[jS hs]at h4;simp only[NF.pair.injEq]at h4;exact⟨Y,u',Y',s,v',hYX,h1,hs,h2.trans hv,h4.1,by rw[h4.1];exact h3,h4.2⟩
 rw[jS ht]at hf;simp only[NF.pair.injEq]at hf;exact⟨Z,u,Y,t,v,hZ,hY,ht,hv,hf.1,by rw[hf.1];exact hh ht,hf.2⟩
theorem Uh(hX:wf X) {w:LN}(h:qx X w (.pair a b)):qx X w a:=by
 obtain⟨Z,u,Y,t,v,hZ,hY,ht,hv,rfl,_,rfl⟩:=Ih hX h;obtain⟨s,hs⟩:=wI hZ hY;exact Ig hs hv
theorem Ki(hX:wf X) {w:LN}(h:qx X w (.pair a b)):qx X w b:=by
 obtain⟨Z,u,Y,t,v,hZ,hY,ht,hv,rfl,_,rfl⟩:=Ih hX h;exact aea hX hZ hY ht w
theorem YP(hX:wf X) {w:LN}(h:qx X w (.star a)):∃s,(.star a,s)∈bq X:=by
 obtain⟨Z,u,Y,t,v,hZ,hY,hv,hf,hh⟩:=h
 by_cases ht:t=[]
 ·subst ht
  rw[show mk (dW Y v) []=dW Y v from rfl]at hf;have BO:=(bJ hX hZ).1;have zT:=(bJ BO hY).1;obtain⟨u',hYX⟩:=wI hZ hY;rcases wG Y zT v (.star a) (by rw[<-hf];simp[parts]) with h1|h1|⟨Y',s,v',h1,h2,h3,h4,h5⟩
  ·simp[di]at h1
  ·simp at h1
  rcases h5 with rfl|⟨hs,_⟩
  ·by_cases hs:s=[]
   ·subst hs
    have h4':NF.star a=Y':=h4;subst h4';exact wI hYX h1
   rw[jS hs]at h4;simp at h4
  rw[jS hs]at h4;simp at h4
 rw[jS ht]at hf;simp at hf
theorem Ui(hX:wf X) {w:LN}(h:qx X w (.star a)):qx X w a:=by
 obtain⟨s,hs⟩:=YP hX h;exact Ig (v:=[]) (jw hs (uz (eP a))) a2l
theorem Uk(hX:wf X) {w:LN}(h:qx X w (.sum l))(hp:p∈l):di p=true\/p=.one\/qx X w p:=by
 obtain⟨Z,u,Y,t,v,hZ,hY,hv,hf,hh⟩:=h
 by_cases ht:t=[]
 ·subst ht
  rw[show mk (dW Y v) []=dW Y v from rfl]at hf;have BO:=(bJ hX hZ).1;have zT:=(bJ BO hY).1;obtain⟨u',hYX⟩:=wI hZ hY;exact Ug hYX hv (wG Y zT v p (by rw[<-hf];exact hp))
 rw[jS ht]at hf;simp at hf
def sD:NF->NF->List NF
 | .zero,_=>[]
 | .one,_=>[]
 | .pair c d,b=>match b with
   | .zero=>[]
   | .one=>[]
   | b=>sD d b++sD c (aH d b)
 | a,b=>match b with
   | .zero=>[]
   | .one=>[]
   | b=>[.pair a b]
theorem lF(ha:dE a=true)(hb:aM b=true):sD a b=[.pair a b]:=by
 cases a<;>simp[dE]at ha<;>cases b<;>simp[aM]at hb<;>rfl
theorem BS{c d:NF}(hb:aM b=true):sD (.pair c d) b=sD d b++sD c (aH d b):=by
 cases b<;>simp[aM]at hb<;>rfl
theorem Ul:∀{s t:List NF} {f:NF},BJ s->BJ t->s≠[]->t≠[]->f∈sD (chain s) (chain t)->∃x c1 r,s=x++c1::r/\f=mk c1 (r++t)
 | [x],t,f,hs,ht,_,bL,h=>by
   rw[show chain [x]=x from rfl,lF (hs x (by simp)).2 (eG ht bL)]at h;simp at h;exact⟨[],x,[],rfl,by rw[h,a1a,jS bL]⟩
 | x::y::s,t,f,hs,ht,_,bL,h=>by
   have Ya:BJ (y::s):=λz hz=>hs z (by simp at hz |-;exact .inr hz)
   have dM:BJ (y::s++t):=by
    intro w hw;rcases a0b.1 hw with hw|hw
    ·exact Ya w hw
    exact ht w hw
   rw[Qt (by simp),BS (eG ht bL),qX Ya ht,lF (hs x (by simp)).2 (eG dM (by simp))]at h;rcases a0b.1 h with h|h
   ·obtain⟨a,c1,r,e,e2⟩:=Ul Ya ht (by simp) bL h
    exact⟨x::a,c1,r,by rw[e];rfl,e2⟩
   simp at h;exact⟨[],x,y::s,rfl,by rw[h];rfl⟩
theorem Um{t:List NF}{w:LN} {c:Nat}(hX:wf X)(hZ:(Z,u)∈bq X)(hY:(Y,t)∈bq Z)(ht:t≠[])(hv:v <:+ w)
 (h:f∈sD (left c (dW Y v)) (chain t)):qx X (w++[c]) f:=by
 have BO:=(bJ hX hZ).1;have zT:=(bJ BO hY);have hT:=eG zT.2 ht;have hv':v++[c] <:+ w++[c]:=by obtain⟨z,rfl⟩:=hv;exact⟨z,by simp⟩
 rw[<-su]at h;have hwF:=A9 zT.1 (v++[c]);have yx:=wG Y zT.1 (v++[c]);have head:dE (dW Y (v++[c]))=true->qx X (w++[c]) f:=by
  intro hh;rw[lF hh hT]at h;simp at h;exact⟨Z,u,Y,t,v++[c],hZ,hY,hv',by rw[h,jS ht],λ_=>hh⟩
 cases hF:dW Y (v++[c]) with
 | zero=>rw[hF]at h;simp[sD]at h
 | one=>rw[hF]at h;simp[sD]at h
 | set s=>exact head (by rw[hF];rfl)
 | sum l=>exact head (by rw[hF];rfl)
 | star a=>exact head (by rw[hF];rfl)
 | pair a b =>
   rcases yx (.pair a b) (by rw[hF];simp[parts]) with h1|h1|⟨Y',s,v',h1,h2,h3,h4,h5⟩
   ·simp[di]at h1
   ·simp at h1
   have hs:s≠[]:=by
    rintro rfl;rw[show mk (dW Y' v') []=dW Y' v' from rfl]at h4;rw[<-h4]at h3;simp[dE]at h3
   have Sb:=(bJ zT.1 h1).2;have dM:BJ (s++t):=by
    intro w hw;rcases a0b.1 hw with hw|hw
    ·exact Sb w hw
    exact zT.2 w hw
   rw[hF,h4,jS hs,BS hT,qX Sb zT.2,lF h3 (eG dM (by simp[hs]))]at h;rcases a0b.1 h with h|h
   ·obtain⟨x,c1,r,e,rfl⟩:=Ul Sb zT.2 hs ht h
    have ho:=jw hY (qY h1 e);have hh:=(Sb c1 (by rw[e];simp)).2;exact⟨Z,u,c1,r++t,[],hZ,ho,a2l,rfl,λ_=>hh⟩
   simp at h;exact⟨Z,u,Y',s++t,v',hZ,jw hY h1,h2.trans hv',by rw[h,jS (by simp[hs])],λ_=>h3⟩
def Made(X:NF)(w:LN)(c:Nat)(f:NF):Prop :=
 qx X (w++[c]) f\/∃g,qx X w g/\(f=left c g\/f=.set (aY (parts (left c g))))
theorem aeb {w:LN} {c:Nat}(hX:wf X)(h:qx X w (.pair a b)):∀f∈sD (left c a) b,Made X w c f:=by
 obtain⟨Z,u,Y,t,v,hZ,hY,ht,hv,rfl,_,rfl⟩:=Ih hX h;intro f hf;exact .inl (Um hX hZ hY ht hv hf)
theorem aec {w:LN} {c:Nat}(hX:wf X)(h:qx X w (.star a)):∀f∈sD (left c a) (.star a),Made X w c f:=by
 obtain⟨s,hs⟩:=YP hX h;intro f hf;exact .inl (Um (v:=[]) (t:=[.star a]) hX hs (uz (eP a)) (by simp) a2l hf)
theorem Un{g:NF} {w:LN} {c:Nat}(h:qx X w g):Made X w c (left c g):=.inr ⟨g,h,.inl rfl⟩
theorem YQ{g:NF} {w:LN} {c:Nat}(h:qx X w g):Made X w c (.set (aY (parts (left c g)))):=.inr ⟨g,h,.inr rfl⟩
set_option linter.unusedVariables false
set_option linter.unusedSimpArgs false
def Af{α:Type}:List α->List (List α)
 | []=>[[]]
 | a::r=>(a::r)::Af r
theorem Ii:∀{w v:List α},v <:+ w->v∈Af w
 | [],v,h=>by have:=List.suffix_nil.1 h;subst this;simp[Af]
 | a::r,v,h=>by
   rcases List.suffix_cons_iff.1 h with e|e
   ·subst e;simp[Af]
   simp only[Af,a0l];exact .inr (Ii e)
theorem Ij:∀w:List α,(Af w).length=w.length+1
 | []=>rfl
 | a::r=>by simp[Af,Ij r]
def Me(X:NF)(w:LN):List NF:=(bq X).flatMap λZ=>(bq Z.1).flatMap λY=>(Af w).map λv=>mk (dW Y.1 v) Y.2
theorem BU {w:LN}(h:qx X w f):f∈Me X w:=by
 obtain⟨Z,u,Y,t,v,hZ,hY,hv,rfl,_⟩:=h;exact a0U.2 ⟨(Z,u),hZ,a0U.2 ⟨(Y,t),hY,a0s.2 ⟨v,Ii hv,rfl⟩⟩⟩
theorem Uo(X:NF):(bq X).length=X.size:=by
 refine NF.ind (P:=λX=>(bq X).length=X.size) ?_ X;intro X ih;cases X with
 | zero=>rfl
 | one=>rfl
 | set s=>rfl
 | pair a b=>simp[bq,NF.size,ih a (by simp[NF.size];omega),ih b (by simp[NF.size];omega)]
 | star a=>simp[bq,NF.size,ih a (by simp[NF.size])]
 | sum l =>
   have:∀l':List NF,(∀x∈l',x∈l)->(Ae l').length=bB l':=by
    intro l'
    induction l' with
    | nil=>intro _;rfl
    | cons x r ih2 =>
      intro h;have hx:=dK (h x (by simp));simp[Ae,bB,ih x (by simp[NF.size];omega),ih2 (λy hy=>h y (by simp[hy]))]
   simp[bq,NF.size,this l (λx hx=>hx)]
mutual
def dJ:NF->Nat
 | .zero=>1
 | .one=>1
 | .set _=>1
 | .pair a b=>max (dJ a) (dJ b)+1
 | .sum l=>Fb l+1
 | .star a=>dJ a+1
def Fb:List NF->Nat
 | []=>0
 | x::r=>max (dJ x) (Fb r)
end
theorem Fe:∀{l:List NF} {x:NF},x∈l->dJ x<=Fb l
 | y::r,x,h=>by
   simp only[Fb];rcases a0l.1 h with e|e
   ·subst e;omega
   have:=Fe e;omega
theorem Mf(x:NF):0<dJ x:=by cases x<;>simp[dJ]
def lv(l:List (NF × List NF)):Nat:=(l.map λo=>o.1.size).sum
theorem Mg(a b:List (NF × List NF)):lv (a++b)=lv a+lv b:=by simp[lv]
theorem YR(l:List (NF × List NF))(t:List NF):lv (l.map λo=>(o.1,o.2++t))=lv l:=by
 simp[lv,Function.comp_def]
theorem abP(X:NF):lv (bq X)<=X.size*dJ X:=by
 refine NF.ind (P:=λX=>lv (bq X)<=X.size*dJ X) ?_ X;intro X ih;cases X with
 | zero=>decide
 | one=>decide
 | set s=>simp[bq,lv,NF.size,dJ]
 | pair a b =>
   have ha:=ih a (by simp[NF.size];omega);have hb:=ih b (by simp[NF.size];omega);have h1:lv (bq (.pair a b))=(a.size+b.size+1)+(lv (bq a)+lv (bq b)):=by
    simp only[bq];rw[show ∀x r,lv (x::r)=x.1.size+lv r from λx r=>by simp[lv],Mg,YR];simp[NF.size]
   rw[h1];simp only[NF.size,dJ];have e1:a.size*dJ a<=a.size*max (dJ a) (dJ b):=a0m _ (by omega);have e2:b.size*dJ b<=b.size*max (dJ a) (dJ b):=a0m _ (by omega);have e3:(a.size+b.size+1)*(max (dJ a) (dJ b)+1)=a.size*max (dJ a) (dJ b)+b.size*max (dJ a) (dJ b)+max (dJ a) (dJ b)+(a.size+b.size+1):=by
    simp only[a0r,a0L,a1U,a1c]
   omega
 | star a =>
   have ha:=ih a (by simp[NF.size]);have h1:lv (bq (.star a))=(a.size+1)+lv (bq a):=by
    simp only[bq];rw[show ∀x r,lv (x::r)=x.1.size+lv r from λx r=>by simp[lv],YR];simp[NF.size]
   rw[h1];simp only[NF.size,dJ];have e3:(a.size+1)*(dJ a+1)=a.size*dJ a+dJ a+(a.size+1):=by
    simp only[a0r,a0L,a1U,a1c]
   omega
 | sum l =>
   have h2:∀l':List NF,(∀x∈l',x∈l)->lv (Ae l')<=bB l'*Fb l:=by
    intro l'
    induction l' with
    | nil=>intro _;simp[Ae,lv,bB]
    | cons x r ih2 =>
      intro h;have hx:=dK (h x (by simp));have h3:=ih x (by simp[NF.size];omega);have h4:=ih2 (λy hy=>h y (by simp[hy]));have h5:=Fe (h x (by simp));simp only[Ae,Mg,bB,a0r];have:=a0m x.size h5;omega
   have h1:lv (bq (.sum l))=(bB l+1)+lv (Ae l):=by
    simp only[bq];rw[show ∀x r,lv (x::r)=x.1.size+lv r from λx r=>by simp[lv]];simp[NF.size]
   have h3:=h2 l (λx hx=>hx);rw[h1];simp only[NF.size,dJ];have e3:(bB l+1)*(Fb l+1)=bB l*Fb l+Fb l+(bB l+1):=by
    simp only[a0r,a0L,a1U,a1c]
   omega
theorem uY{β:Type}(f:α->List β)(g:α->Nat)(hf:∀a,(f a).length=g a):∀l:List α,(l.flatMap f).length=(l.map g).sum
 | []=>rfl
 | a::r=>by simp[hf a,uY f g hf r]
theorem YS(X:NF)(w:LN):(Me X w).length=lv (bq X)*(w.length+1):=by
 unfold Me;rw[uY _ (λZ=>Z.1.size*(w.length+1))]
 ·unfold lv
  generalize bq X=l
  induction l with
  | nil=>simp
  | cons a r ih=>simp only[a0A,a0W,ih,a0r]
 intro Z;rw[uY _ (λ_=>w.length+1)]
 ·rw[<-Uo Z.1]
  generalize bq Z.1=l
  induction l with
  | nil=>simp
  | cons a r ih=>simp only[a0A,a0W,ih,a0o,a0r,a1U];omega
 intro Y;simp[Ij]
def Ff(X:NF)(w:LN)(c:Nat):List NF:=Me X (w++[c])++((Me X w).map (left c)++(Me X w).map λg=>.set (aY (parts (left c g))))
theorem abQ {w:LN} {c:Nat}(h:Made X w c f):f∈Ff X w c:=by
 unfold Ff;rcases h with h|⟨g,hg,rfl|rfl⟩
 ·exact a1g _ (BU h)
 ·exact a1b _ (a1g _ (a0s.2 ⟨g,BU hg,rfl⟩))
 exact a1b _ (a1b _ (a0s.2 ⟨g,BU hg,rfl⟩))
theorem aed(X:NF)(w:LN)(c:Nat)(hw:w.length<=39):(Ff X w c).length<=121*(X.size*dJ X):=by
 have h:=abP X;unfold Ff;simp only[a0v,a0B,YS,a0o,a1f];generalize lv (bq X)=s at *;have h1:s*(w.length+1+1)<=s*41:=a0m _ (by omega);have h2:s*(w.length+1)<=s*40:=a0m _ (by omega);simp only[a1v];omega
theorem oK:∀{a b:List α},a.Nodup->(∀x∈a,x∈b)->a.length<=b.length
 | [],b,_,_=>a1C _
 | x::a,b,hn,h=>by
   have hx:=h x (by simp);obtain⟨b1,b2,rfl⟩:=a2R hx;have hn':=List.nodup_cons.1 hn;have:=oK (a:=a) (b:=b1++b2) hn'.2 (by
    intro y hy;have:=h y (by simp[hy]);rcases a0b.1 this with e|e
    ·exact a1g _ e
    rcases a0l.1 e with e|e
    ·subst e;exact absurd hy hn'.1
    exact a1b _ e)
   simp at this |-;omega
set_option linter.unusedVariables false
set_option linter.unusedSimpArgs false
/-- A regular expression: a byte of a set,one behind the other,one of several,so many times (none: without end). -/
inductive RX where
 | one:Nat->RX
 | seq:List RX->RX
 | alt:List RX->RX
 | rep:RX->Nat->Option Nat->RX
def times(lo:Nat):Option Nat->Nat
 | none=>lo+1
 | some n=>n
def gG(lo:Nat):Option Nat->Nat
 | none=>if lo<=1 then 1 else 3
 | some n=>if lo=0/\n=1 then 1 else 3
mutual
def kJ:RX->Nat
 | .one _=>1
 | .seq l=>gW l
 | .alt l=>gW l
 | .rep x lo hi=>kJ x*times lo hi
def gW:List RX->Nat
 | []=>0
 | x::r=>kJ x+gW r
end
mutual
/-- Bytes that it takes to write it,at the least. -/
def jh:RX->Nat
 | .one _=>1
 | .seq l=>fo l
 | .alt l=>fo l+(l.length-1)
 | .rep x lo hi=>jh x+gG lo hi
def fo:List RX->Nat
 | []=>0
 | x::r=>jh x+fo r
end
mutual
/-- Its sets are of bytes;a repetition's bounds are in order;several are some. -/
def vV:RX->Prop
 | .one s=>s<2 ^ 256
 | .seq l=>kv l
 | .alt l=>kv l/\l≠[]
 | .rep x lo hi=>vV x/\(∀n,hi=some n->lo<=n)
def kv:List RX->Prop
 | []=>True
 | x::r=>vV x/\kv r
end
def eQ(a:NF):Nat->NF->NF
 | 0,t=>t
 | k+1,t=>eQ a k (aH a t)
def dD(a:NF):Nat->NF->NF
 | 0,t=>t
 | k+1,t=>dD a k (dZ (aH a t) .one)
def jM(a:NF)(lo:Nat):Option Nat->NF
 | none=>eQ a lo (iI a)
 | some n=>eQ a lo (dD a (n-lo) .one)
mutual
def bn:RX->NF
 | .one s=>if s=0 then .zero else .set s
 | .seq l=>sF l
 | .alt l=>bI (ji l)
 | .rep x lo hi=>jM (bn x) lo hi
def sF:List RX->NF
 | []=>.one
 | x::r=>aH (bn x) (sF r)
def ji:List RX->List NF
 | []=>[]
 | x::r=>bn x::ji r
end
theorem q9:∀l,ji l=l.map bn
 | []=>rfl
 | x::r=>by simp only[ji,a0A,q9 r]
def WC(x:NF):Prop:=wf x/\can x
theorem WC.zero:WC .zero:=⟨trivial,trivial⟩
theorem WC.one:WC .one:=⟨trivial,trivial⟩
theorem WC.then(ha:WC a)(hb:WC b):WC (aH a b):=⟨mf ha.1 hb.1,zf ha.2 hb.2⟩
theorem WC.bI(h:∀x∈ls,WC x):WC (bI ls):=⟨Ie λx hx=>(h x hx).1,Uf (λx hx=>(h x hx).1) λx hx=>(h x hx).2⟩
theorem WC.or(ha:WC a)(hb:WC b):WC (dZ a b):=WC.bI (by simp;exact⟨ha,hb⟩)
theorem WC.star(ha:WC a):WC (iI a):=⟨agD ha.1,ad9 ha.2⟩
theorem WC.left(c:Nat)(ha:WC a):WC (left c a):=⟨gK c a ha.1,YO c a ha.1 ha.2⟩
theorem Fg(ha:WC a):∀k t,WC t->WC (eQ a k t)
 | 0,t,h=>h
 | k+1,t,h=>Fg ha k _ (ha.then h)
theorem Fh(ha:WC a):∀k t,WC t->WC (dD a k t)
 | 0,t,h=>h
 | k+1,t,h=>Fh ha k _ ((ha.then h).or .one)
theorem abR(ha:WC a)(lo:Nat)(hi:Option Nat):WC (jM a lo hi):=by
 cases hi with
 | none=>exact Fg ha lo _ ha.star
 | some n=>exact Fg ha lo _ (Fh ha _ _ .one)
mutual
theorem tJ:∀{e:RX},vV e->WC (bn e)
 | .one s,h=>by
   simp only[bn]
   split
   ·exact .zero
   exact⟨⟨a2Q (by assumption),h⟩,trivial⟩
 | .seq l,h=>Up (show kv l from h)
 | .alt l,h=>WC.bI (Fj (show kv l from h.1))
 | .rep x lo hi,h=>abR (tJ (show vV x from h.1)) lo hi
theorem Up:∀{l:List RX},kv l->WC (sF l)
 | [],_=>.one
 | x::r,h=>(tJ h.1).then (Up h.2)
theorem Fj:∀{l:List RX},kv l->∀x∈ji l,WC x
 | [],_,x,hx=>by simp[ji]at hx
 | y::r,h,x,hx=>by
   simp only[ji,a0l]at hx;rcases hx with rfl|hx
   ·exact tJ h.1
   exact Fj h.2 x hx
end
/-! ap6. -/
theorem Du:∀(a b:NF),(aH a b).size<=a.size+b.size+1
 | .zero,b=>by simp only[aH,NF.size];omega
 | .one,b=>by simp only[aH,NF.size];omega
 | .pair c d,b=>by
   by_cases hb:aM b=true
   ·rw[cz hb]
    have h1:=Du d b;have h2:=Du c (aH d b);simp only[NF.size];omega
   rcases fC hb with rfl|rfl
   ·rw[eF];simp[NF.size]
   rw[bz];omega
 | .set s,b=>by cases b<;>simp[aH,NF.size]<;>omega
 | .sum l,b=>by cases b<;>simp[aH,NF.size]<;>omega
 | .star a,b=>by cases b<;>simp[aH,NF.size]<;>omega
theorem Bb:∀(a b:List NF),bB (a++b)=bB a+bB b
 | [],b=>by simp[bB]
 | x::a,b=>by simp only[a0J,bB,Bb a b];omega
theorem YT:∀(l:List NF) (x:NF),bB (put l x)<=bB l+x.size
 | [],x=>by simp[put,bB]
 | y::r,x=>by
   unfold put
   split
   ·have:=YT r x;simp only[bB];omega
   split
   ·simp only[bB];omega
   simp only[bB];omega
theorem Ep:∀(l acc:List NF),bB (l.foldl put acc)<=bB acc+bB l
 | [],acc=>by simp[bB]
 | x::r,acc=>by
   have h1:=Ep r (put acc x);have h2:=YT acc x;simp only[a1M,bB];omega
theorem aee:∀(l:List NF),bB (bG l)<=bB l:=by
 intro l;have key:∀l:List NF,bB (l.filter λx=>!di x)+(if aY l=0 then 0 else 1)<=bB l:=by
  intro l
  induction l with
  | nil=>simp[aY,bB]
  | cons x r ih =>
    cases hx:di x with
    | true =>
      have:x.size=1:=by cases x<;>simp[di]at hx;rfl
      simp only[a2z,hx,a2q,a0n,a0G,bB]
      split<;>split at ih<;>omega
    | false =>
      rw[qG,Ow hx];simp only[a2z,hx,a1y,a0C,bB,Nat.zero_or];omega
 have:=key l;unfold bG;rw[Bb]
 split at this
 ·rename_i h;rw[a0j h];simp only[bB];omega
 rename_i h;rw[a0g h];simp only[bB,NF.size];omega
theorem QA(x:NF):bB (parts x)<=x.size:=by cases x<;>simp[parts,bB,NF.size]
theorem Uq:∀ls:List NF,bB (ls.flatMap parts)<=bB ls
 | []=>by simp[bB]
 | x::r=>by
   have h1:=Uq r;have h2:=QA x;simp only[a0Z,Bb,bB];omega
theorem agE(l:List NF):(mkS l).size<=bB l+1:=by
 match l with
 | []=>simp[mkS,NF.size,bB]
 | [x]=>simp[mkS,bB]
 | x::y::r=>simp[mkS,NF.size]
theorem abS(ls:List NF):(bI ls).size<=bB ls+1:=by
 have h1:=agE (fU (bG (ls.flatMap parts)));have h2:=Ep (bG (ls.flatMap parts)) [];have h3:=aee (ls.flatMap parts);have h4:=Uq ls;unfold bI;unfold fU at h1 |-;simp only[bB]at h2;omega
/-! aoh. -/
def cl(x:NF):Nat:=(elems x).length
theorem Mh(x:NF):0<cl x:=by cases x<;>simp[cl,elems]
theorem aii(h:dE x=true):cl x=1:=by cases x<;>simp[dE]at h<;>rfl
theorem Oz:∀(a b:NF),wf a->dJ (aH a b)<=max (dJ a+1) (cl a+dJ b)
 | .zero,b,_=>by have:=Mf b;simp only[aH,dJ];omega
 | .one,b,_=>by simp only[aH,cl,elems,a1k];omega
 | .pair c d,b,hw=>by
   by_cases hb:aM b=true
   ·rw[cz hb]
    have h1:=Oz d b hw.2.1;have h2:=Oz c (aH d b) hw.1;have h3:=aii hw.2.2.1;have h4:cl (.pair c d)=cl d+1:=rfl;simp only[dJ];omega
   rcases fC hb with rfl|rfl
   ·rw[eF];simp only[dJ];omega
   rw[bz];omega
 | .set s,b,_=>by cases b<;>simp only[aH,dJ,cl,elems,a1k]<;>omega
 | .sum l,b,_=>by cases b<;>simp only[aH,dJ,cl,elems,a1k]<;>omega
 | .star a,b,_=>by cases b<;>simp only[aH,dJ,cl,elems,a1k]<;>omega
theorem abT:∀(a b:NF),wf a->cl (aH a b)<=cl a+cl b
 | .zero,b,_=>by have:=Mh b;simp only[aH,cl,elems,a1k]at *;omega
 | .one,b,_=>by simp only[aH,cl,elems,a1k];omega
 | .pair c d,b,hw=>by
   by_cases hb:aM b=true
   ·rw[cz hb,aU hw.2.2.1 (dO hw.2.1 hw.2.2.2 hb)]
    have h1:=abT d b hw.2.1;have h4:cl (.pair c d)=cl d+1:=rfl;have h5:cl (.pair c (aH d b))=cl (aH d b)+1:=rfl;omega
   rcases fC hb with rfl|rfl
   ·rw[eF];have:cl NF.zero=1:=rfl;have:=Mh (.pair c d);omega
   rw[bz];omega
 | .set s,b,_=>by cases b<;>simp only[aH,cl,elems,a1k,a0o]<;>omega
 | .sum l,b,_=>by cases b<;>simp only[aH,cl,elems,a1k,a0o]<;>omega
 | .star a,b,_=>by cases b<;>simp only[aH,cl,elems,a1k,a0o]<;>omega
theorem aij {n:Nat}(h:∀x∈l,dJ x<=n):Fb l<=n:=by
 induction l with
 | nil=>simp[Fb]
 | cons x r ih =>
   have h1:=h x (by simp);have h2:=ih (λy hy=>h y (by simp[hy]));simp only[Fb];omega
theorem aef(h:p∈parts x):dJ p<=dJ x:=by
 cases x with
 | zero=>simp[parts]at h
 | sum l=>have:=Fe (show p∈l from h);simp only[dJ];omega
 | _=>simp[parts]at h;subst h;exact a0a _
theorem afA(hw:∀x∈ls,wf x) {n:Nat}(hn:1<=n)(h:∀x∈ls,dJ x<=n):dJ (bI ls)<=n+1:=by
 have hp:∀p∈parts (bI ls),dJ p<=n:=by
  intro p hp;rcases ku.1 ((pE hw).1 hp) with⟨h1,_⟩|⟨_,rfl⟩
  ·obtain⟨x,hx,h1⟩:=a0U.1 h1
   have:=aef h1;have:=h x hx;omega
  simpa[dJ] using hn
 cases ho:bI ls with
 | zero=>simp[dJ]
 | sum l=>rw[ho]at hp;have:=aij (l:=l) hp;simp only[dJ];omega
 | _=>rw[ho]at hp;exact a0e (hp _ (List.mem_singleton_self _)) (Nat.le_succ n)
def Jg(x:NF)(n:Nat):Prop:=∀p∈parts x,cl p<=n
theorem Jg.cl {n:Nat}(h:Jg x n)(hn:1<=n):cl x<=n:=by
 cases x with
 | zero=>exact hn
 | sum l=>exact hn
 | _=>exact h _ (by simp[parts])
theorem Jg.mono{n:Nat}(h:Jg x n)(hm:n<=m):Jg x m:=λp hp=>a0e (h p hp) hm
theorem Jg.then{n:Nat}(hw:wf a)(ha:Jg a n)(hb:Jg b m)(hn:1<=n)(hm:1<=m):Jg (aH a b) (n+m):=by
 have h1:=ha.cl hn;have h2:=hb.cl hm;have h3:=abT a b hw;intro p hp;cases ht:aH a b with
 | zero=>rw[ht]at hp;simp[parts]at hp
 | sum l =>
   by_cases tb:aM b=true
   ·cases a with
    | zero=>simp[aH]at ht
    | one=>have:=hb p (by rw[show aH .one b=b from rfl]at hp;exact hp);omega
    | pair c d=>rw[cz tb,aU hw.2.2.1 (dO hw.2.1 hw.2.2.2 tb)]at ht;simp at ht
    | set s=>rw[aU rfl tb]at ht;simp at ht
    | sum s=>rw[aU rfl tb]at ht;simp at ht
    | star s=>rw[aU rfl tb]at ht;simp at ht
   rcases fC tb with rfl|rfl
   ·rw[eF]at ht;simp at ht
   rw[bz]at hp;have:=ha p hp;omega
 | one=>rw[ht]at hp h3;simp[parts]at hp;subst hp;omega
 | set s=>rw[ht]at hp h3;simp[parts]at hp;subst hp;omega
 | pair c d=>rw[ht]at hp h3;simp[parts]at hp;subst hp;omega
 | star c=>rw[ht]at hp h3;simp[parts]at hp;subst hp;omega
theorem Jg.bI(hw:∀x∈ls,wf x) {n:Nat}(hn:1<=n)(h:∀x∈ls,Jg x n):Jg (bI ls) n:=by
 intro p hp;rcases ku.1 ((pE hw).1 hp) with⟨h1,_⟩|⟨_,rfl⟩
 ·obtain⟨x,hx,h1⟩:=a0U.1 h1;exact h x hx p h1
 exact hn
structure Bd(x:NF)(p s h:Nat):Prop where
 wc:WC x
 cp:Jg x p
 sz:x.size<=s
 ht:dJ x<=h
theorem Bd.then{p:Nat}(ha:Bd a p s h)(hb:Bd b p' s' h')(hp:1<=p)(Sd:1<=p'):Bd (aH a b) (p+p') (s+s'+1) (max (h+1) (p+h')):=by
 refine⟨ha.wc.then hb.wc,Jg.then ha.wc.1 ha.cp hb.cp hp Sd,?_,?_⟩
 ·have:=Du a b;have:=ha.sz;have:=hb.sz;omega
 have h1:=Oz a b ha.wc.1;have h2:=ha.cp.cl hp;have:=ha.ht;have:=hb.ht;omega
theorem Bd.or1{p:Nat}(ha:Bd a p s h)(hp:1<=p):Bd (dZ a .one) p (s+2) (h+1):=by
 have hw:∀x ∈ [a,NF.one],wf x:=by simp;exact⟨ha.wc.1,trivial⟩
 refine⟨ha.wc.or .one,Jg.bI hw hp ?_,?_,?_⟩
 ·intro x hx
  simp at hx;rcases hx with rfl|rfl
  ·exact ha.cp
  intro p' Sd;simp[parts]at Sd;subst Sd;exact hp
 ·have h1:=abS [a,NF.one];simp only[bB,NF.size]at h1
  have:=ha.sz;show(bI [a,.one]).size<=_;omega
 have h0:=Mf a;have h1:=ha.ht;refine afA hw (by omega) ?_;intro x hx;simp at hx;rcases hx with rfl|rfl
 ·exact h1
 simp only[dJ];omega
theorem Bd.mono{p:Nat}(hx:Bd x p s h)(hp:p<=p')(hs:s<=s')(hh:h<=h'):Bd x p' s' h' :=
 ⟨hx.wc,hx.cp.mono hp,a0e hx.sz hs,a0e hx.ht hh⟩
theorem Mi{p:Nat}(ha:Bd a p s h)(hp:1<=p):∀(k:Nat) {t:NF} {q s' h':Nat},Bd t q s' h'->1<=q->h+1<=h'->Bd (eQ a k t) (k*p+q) (k*(s+1)+s') (k*p+h')
 | 0,t,q,s',h',ht,_,_=>by simpa[eQ] using ht
 | k+1,t,q,s',h',ht,hq,hh=>by
   have h1:=Mi ha hp k (ha.then ht hp hq) (by omega) (show h+1<=max (h+1) (p+h') by omega);refine h1.mono ?_ ?_ ?_
   ·rw[a0r];omega
   ·rw[a0r k 1 (s+1)];omega
   rw[a0r k 1 p];omega
theorem abU{p:Nat}(ha:Bd a p s h)(hp:1<=p):∀(k:Nat) {t:NF} {q s' h':Nat},Bd t q s' h'->1<=q->h+1<=h'->Bd (dD a k t) (k*p+q) (k*(s+3)+s') (k*(p+1)+h')
 | 0,t,q,s',h',ht,_,_=>by simpa[dD] using ht
 | k+1,t,q,s',h',ht,hq,hh=>by
   have h1:=abU ha hp k ((ha.then ht hp hq).or1 (by omega)) (by omega) (show h+1<=max (h+1) (p+h')+1 by omega);refine h1.mono ?_ ?_ ?_
   ·rw[a0r];omega
   ·rw[a0r k 1 (s+3)];omega
   rw[a0r k 1 (p+1)];omega
set_option linter.unusedVariables false
set_option linter.unusedSimpArgs false
theorem aaC:dZ .one .one=.one:=by simp[dZ,bI,parts,bG,di,aY,bits,fU,put,mkS,name,blt]
theorem YU:∀k,dD .one k .one=.one
 | 0=>rfl
 | k+1=>by
   show dD .one k (dZ (aH .one .one) .one)=.one;rw[show aH .one .one=.one from rfl,aaC];exact YU k
theorem OD:∀k t,eQ .one k t=t
 | 0,t=>rfl
 | k+1,t=>OD k t
theorem YV(lo:Nat)(hi:Option Nat):jM .one lo hi=.one:=by
 cases hi with
 | none=>simp only[jM,OD];rfl
 | some n=>simp only[jM,OD,YU]
theorem tT(lo:Nat)(hi:Option Nat):1<=gG lo hi:=by
 cases hi<;>simp only[gG]<;>split<;>omega
mutual
theorem Fp:∀{e:RX},1<=kJ e->1<=jh e
 | .one _,_=>a0a _
 | .seq l,h=>Ik (show 1<=gW l from h)
 | .alt l,h=>by have:=Ik (show 1<=gW l from h);simp only[jh];omega
 | .rep x lo hi,h=>by have:=tT lo hi;simp only[jh];omega
theorem Ik:∀{l:List RX},1<=gW l->1<=fo l
 | [],h=>by simp[gW]at h
 | x::r,h=>by
   simp only[gW]at h;simp only[fo]
   by_cases hx:1<=kJ x
   ·have:=Fp hx;omega
   have:=Ik (l:=r) (by omega);omega
end
def Bc(x:NF)(p t:Nat):Prop:=WC x/\(p=0->x=.one)/\(1<=p->Bd x p (2*p*(t+1)) (2*p+2*t))
theorem ak8 {p t q u:Nat}(ha:Bc a p t)(hb:Bc b q u)(ht:1<=p->1<=t)(hu:1<=q->1<=u):Bc (aH a b) (p+q) (t+u):=by
 refine⟨ha.1.then hb.1,?_,?_⟩
 ·intro h
  rw[ha.2.1 (by omega),hb.2.1 (by omega)];rfl
 intro h;have mono:∀(x:NF) (p' t':Nat),1<=p'->p'<=p+q->t'<=t+u->Bd x p' (2*p'*(t'+1)) (2*p'+2*t')->Bd x (p+q) (2*(p+q)*(t+u+1)) (2*(p+q)+2*(t+u)):=by
  intro x p' t' h1 h2 h3 hb;exact hb.mono h2 (a0E (by omega) (by omega)) (by omega)
 by_cases hp:p=0
 ·rw[ha.2.1 hp]
  exact mono b q u (by omega) (by omega) (by omega) (hb.2.2 (by omega))
 by_cases hq:q=0
 ·rw[hb.2.1 hq,bz]
  exact mono a p t (by omega) (by omega) (by omega) (ha.2.2 (by omega))
 have h1:=(ha.2.2 (by omega)).then (hb.2.2 (by omega)) (by omega) (by omega);have h2:=ht (by omega);have h3:=hu (by omega);refine h1.mono (a0a _) ?_ (by omega);have e:2*(p+q)*(t+u+1)=2*p*(t+1)+2*q*(u+1)+2*(p*u)+2*(q*t):=by
  simp only[a0L,a0r,a1c,a0O];omega
 have h4:1<=p*u:=Nat.mul_pos (by omega) h3;omega
theorem aaD {p t:Nat}(ha:Bc a p t)(ht:1<=p->1<=t)(lo:Nat)(hi:Option Nat)(hh:∀n,hi=some n->lo<=n):Bc (jM a lo hi) (p*times lo hi) (t+gG lo hi):=by
 have xA:=abR ha.1 lo hi;refine⟨xA,?_,?_⟩
 ·intro h
  rcases Nat.mul_eq_zero.1 h with h|h
  ·rw[ha.2.1 h];exact YV lo hi
  cases hi with
  | none=>simp[times]at h
  | some n =>
    simp only[times]at h;subst h;have:lo=0:=by have:=hh 0 rfl;omega
    subst this;rfl
 intro h;have hp:1<=p:=by
  rcases Nat.eq_zero_or_pos p with e|e
  ·subst e;simp at h
  exact e
 have hb:=ha.2.2 hp;cases hi with
 | none =>
   have dM:Bd (iI a) p (2*p*(t+1)+1) (2*p+2*t+1):=by
    refine⟨ha.1.star,?_,?_,?_⟩
    ·intro q hq
     cases a<;>simp[iI,parts]at hq<;>subst hq<;>exact hp
    ·have:=hb.sz;cases a<;>simp only[iI,NF.size]at this |-<;>omega
    have:=hb.ht;cases a<;>simp only[iI,dJ]at this |-<;>omega
   have h1:=Mi hb hp lo dM hp (by omega);have ho:1<=gG lo none:=tT lo none;refine h1.mono ?_ ?_ ?_
   ·simp only[times];rw[a0L,a0V p lo];omega
   ·simp only[times]
    have e1:2*(p*(lo+1))*(t+gG lo none+1)=2*p*(t+1)*(lo+1)+2*p*gG lo none*(lo+1):=by
     rw[show t+gG lo none+1=(t+1)+gG lo none by omega,a0L]
     congr 1
     ·rw[<-a0O 2 p,a0O (2*p),a0V (lo+1),<-a0O]
     rw[<-a0O 2 p,a0O (2*p),a0V (lo+1),<-a0O]
    have e2:lo+1<=2*p*gG lo none*(lo+1):=a1p _ (Nat.mul_pos (by omega) (by omega));have e3:lo*(2*p*(t+1)+1)+(2*p*(t+1)+1)=2*p*(t+1)*(lo+1)+(lo+1):=by
     generalize 2*p*(t+1)=z;rw[a0L,a1c,a0L,a1c,a0V lo z];omega
    omega
   simp only[times];have:p*(lo+1)=lo*p+p:=by rw[a0L,a1c,a0V]
   omega
 | some n =>
   simp only[times]at h |-;have hn:1<=n:=by
    rcases Nat.eq_zero_or_pos n with e|e
    ·subst e;simp at h
    exact e
   have l7:=hh n rfl
   by_cases h01:lo=0/\n=1
   ·obtain⟨rfl,rfl⟩:=h01
    have e:jM a 0 (some 1)=dZ a .one:=by
     show dZ (aH a .one) .one=_;rw[bz]
    rw[e];refine(hb.or1 hp).mono (by omega) ?_ ?_
    ·simp only[gG,and_self,a0C,a1c]
     rw[show t+1+1=(t+1)+1 by omega,a0L (2*p) (t+1) 1];omega
    simp only[gG,and_self,a0C];omega
   have ho:gG lo (some n)=3:=by simp only[gG];rw[a0g h01]
   rw[ho];have e6:2*(p*n)*(t+3+1)=n*(2*p*(t+1))+6*(p*n):=by
    rw[show t+3+1=(t+1)+3 by omega,a0L]
    congr 1
    ·rw[<-a0O 2 p,a0O (2*p),a0V n (t+1),<-a0O,a0V]
    omega
   have e7:n<=p*n:=a1p _ (by omega)
   by_cases aO:lo<n
   ·
    have e0:dD a (n-lo) .one=dD a (n-lo-1) (dZ a .one):=by
     obtain⟨m,hm⟩:∃m,n-lo=m+1:=⟨n-lo-1,by omega⟩;rw[hm];show dD a m (dZ (aH a .one) .one)=_;rw[bz];rfl
    have h1:=abU hb hp (n-lo-1) (hb.or1 hp) hp (a0a _);rw[<-e0]at h1;have h2:=Mi hb hp lo h1 (by omega) (by omega);obtain⟨m,hm⟩:∃m,n=lo+m+1:=⟨n-lo-1,by omega⟩;subst hm;rw[show lo+m+1-lo-1=m by omega]at h2;refine h2.mono ?_ ?_ ?_
    ·have:p*(lo+m+1)=lo*p+m*p+p:=by rw[a0L,a0L,a1c,a0V p lo,a0V p m]
     omega
    ·rw[e6]
     generalize 2*p*(t+1)=z at *;have a1:lo*(z+1)=lo*z+lo:=by rw[a0L,a1c]
     have a2:m*(z+3)=m*z+m*3:=a0L _ _ _;have a3:(lo+m+1)*z=lo*z+m*z+z:=by rw[a0r,a0r,a1U]
     omega
    have b1:p*(lo+m+1)=lo*p+m*p+p:=by rw[a0L,a0L,a1c,a0V p lo,a0V p m]
    have b2:m*(p+1)=m*p+m:=by rw[a0L,a1c]
    have b3:m<=m*p:=a2u _ (by omega);omega
   have rU:lo=n:=by omega
   subst rU;obtain⟨m,hm⟩:∃m,lo=m+1:=⟨lo-1,by omega⟩;subst hm;have e0:jM a (m+1) (some (m+1))=eQ a m a:=by
    simp only[jM,a2H,dD];show eQ a m (aH a .one)=_;rw[bz]
   rw[e0];have h2:=Mi hb hp m (hb.mono (a0a _) (a0a _) (Nat.le_succ _)) hp (a0a _);refine h2.mono ?_ ?_ ?_
   ·have:p*(m+1)=m*p+p:=by rw[a0L,a1c,a0V]
    omega
   ·rw[e6]
    generalize 2*p*(t+1)=z at *;have a1:m*(z+1)=m*z+m:=by rw[a0L,a1c]
    have a3:(m+1)*z=m*z+z:=by rw[a0r,a1U]
    omega
   have b1:p*(m+1)=m*p+p:=by rw[a0L,a1c,a0V]
   omega
theorem aik(h:∀x∈ls,x=.one)(bL:ls≠[]):bI ls=.one:=by
 have h1:bI ls=bI [.one]:=by
  refine tQ (λx hx=>by rw[h x hx];trivial) (by simp;trivial) ?_;intro p
  constructor
  ·intro hp
   obtain⟨x,hx,hp⟩:=a0U.1 hp;rw[h x hx]at hp;simpa using hp
  intro hp;obtain⟨x,r,rfl⟩:∃x r,ls=x::r:=by cases ls with | nil=>contradiction|cons x r=>exact⟨x,r,rfl⟩
  rw[h x (by simp)];simp at hp |-;exact .inl hp
 rw[h1];exact YN trivial (by simp)
def zc:List RX->Nat
 | []=>0
 | x::r=>(if kJ x=0 then 1 else 0)+zc r
theorem ail:∀(l:List RX),zc l<=l.length/\(gW l≠0->zc l+1<=l.length)
 | []=>⟨by simp[zc],λh=>by simp[gW]at h⟩
 | x::r=>by
   have h:=ail r;have e1:gW (x::r)=kJ x+gW r:=rfl;have e2:zc (x::r)=(if kJ x=0 then 1 else 0)+zc r:=rfl;rw[e1,e2,a0o]
   by_cases h1:kJ x=0
   ·rw[a0j h1]
    exact⟨by omega,λh2=>by have:=h.2 (by omega);omega⟩
   rw[a0g h1];exact⟨by omega,λh2=>by omega⟩
theorem YW:∀{l:List RX},(∀e∈l,Bc (bn e) (kJ e) (jh e))->bB (ji l)<=2*gW l*(fo l+1)+zc l
 | [],_=>by simp[ji,bB]
 | x::r,h=>by
   have h1:=YW (l:=r) (λe he=>h e (by simp[he]));have h2:=h x (by simp);simp only[ji,bB,gW,fo,zc]
   by_cases hx:kJ x=0
   ·rw[a0j hx,h2.2.1 hx,hx]
    simp only[NF.size,a1v];have:2*gW r*(fo r+1)<=2*gW r*(jh x+fo r+1):=a0m _ (by omega);omega
   rw[a0g hx];have h3:=(h2.2.2 (by omega)).sz;have e:2*(kJ x+gW r)*(jh x+fo r+1)=2*kJ x*(jh x+1)+2*gW r*(fo r+1)+2*(kJ x*fo r)+2*(gW r*jh x):=by
    simp only[a0L,a0r,a1c,a0O];omega
   omega
theorem yS:∀{l:List RX} {e:RX},e∈l->kJ e<=gW l/\jh e<=fo l
 | x::r,e,h=>by
   simp only[gW,fo];rcases a0l.1 h with h|h
   ·subst h;omega
   have:=yS h;omega
theorem ak9 {l:List RX}(h:∀e∈l,Bc (bn e) (kJ e) (jh e))(bL:l≠[]):Bc (bI (ji l)) (gW l) (fo l+(l.length-1)):=by
 have oC:∀x∈ji l,∃e∈l,bn e=x:=by
  intro x hx;rw[q9]at hx;obtain⟨e,he,rfl⟩:=a0s.1 hx;exact⟨e,he,rfl⟩
 have xA:∀x∈ji l,WC x:=by intro x hx;obtain⟨e,he,rfl⟩:=oC x hx;exact(h e he).1
 have hw:∀x∈ji l,wf x:=λx hx=>(xA x hx).1
 match l,bL,h with
 | [x],_,h =>
   have hx:=h x (by simp);have e:bI (ji [x])=bn x:=Kh hx.1.1 hx.1.2;rw[e];simp only[gW,fo,a1G,a1k,a2H];exact hx
 | x::y::r,_,h =>
   generalize hl:x::y::r=l at *;have hk:2<=l.length:=by rw[<-hl];simp
   refine⟨WC.bI xA,?_,?_⟩
   ·intro h0
    refine aik ?_ (by rw[<-hl];simp[ji]);intro z hz;obtain⟨e,he,rfl⟩:=oC z hz;have:=yS he;exact(h e he).2.1 (by omega)
   intro h1;have hz:=(ail l).2 (by omega);refine⟨WC.bI xA,Jg.bI hw h1 ?_,?_,?_⟩
   ·intro z hz
    obtain⟨e,he,rfl⟩:=oC z hz;have hm:=yS he
    by_cases h0:kJ e=0
    ·rw[(h e he).2.1 h0];intro p hp;simp[parts]at hp;subst hp;exact h1
    exact((h e he).2.2 (by omega)).cp.mono hm.1
   ·have a1:=abS (ji l)
    have a2:=YW h;have e1:2*gW l*(fo l+(l.length-1)+1)=2*gW l*(fo l+1)+2*gW l*(l.length-1):=by
     rw[<-a0L];congr 1;omega
    have e2:2*(l.length-1)<=2*gW l*(l.length-1):=a0w _ (by omega);omega
   have h2:=afA hw (n:=2*gW l+2*fo l) (by omega) (by
    intro z hz;obtain⟨e,he,rfl⟩:=oC z hz;have hm:=yS he
    by_cases h0:kJ e=0
    ·rw[(h e he).2.1 h0];simp only[dJ];omega
    have:=((h e he).2.2 (by omega)).ht;omega)
   omega
mutual
/-- THE NORMAL FORM OF AN EXPRESSION IS SMALL. -/
theorem uZ:∀{e:RX},vV e->Bc (bn e) (kJ e) (jh e)
 | .one s,h=>by
   refine⟨tJ h,λh=>by simp[kJ]at h,λ_=>⟨tJ h,?_,?_,?_⟩⟩
   ·simp only[bn];split<;>(intro p hp;simp[parts]at hp)
    subst hp;exact a0a _
   ·simp only[bn];split<;>simp[NF.size,kJ,jh]
   simp only[bn];split<;>simp[dJ,kJ,jh]
 | .seq l,h=>YX (show kv l from h)
 | .alt l,h=>ak9 (YY (show kv l from h.1)) h.2
 | .rep x lo hi,h=>aaD (uZ (show vV x from h.1)) Fp lo hi h.2
theorem YX:∀{l:List RX},kv l->Bc (sF l) (gW l) (fo l)
 | [],_=>⟨.one,λ_=>rfl,λh=>by simp[gW]at h⟩
 | x::r,h=>ak8 (uZ h.1) (YX h.2) Fp Ik
theorem YY:∀{l:List RX},kv l->∀e∈l,Bc (bn e) (kJ e) (jh e)
 | [],_,e,he=>by simp at he
 | x::r,h,e,he=>by
   rcases a0l.1 he with h1|h1
   ·rw[h1];exact uZ h.1
   exact YY h.2 e h1
end
theorem Kj {e:RX}(h:vV e)(hp:kJ e<=40)(ht:jh e<=40):(bn e).size*dJ (bn e)<=524800:=by
 have hb:=uZ h
 by_cases h0:kJ e=0
 ·rw[hb.2.1 h0];decide
 have h1:=hb.2.2 (by omega);have h2:2*kJ e*(jh e+1)<=80*41:=a0E (by omega) (by omega);have h3:(bn e).size<=3280:=a0e h1.sz h2;have h4:dJ (bn e)<=160:=a0e h1.ht (by omega);exact a0e (a0E h3 h4) (by decide)
set_option linter.unusedVariables false
set_option linter.unusedSimpArgs false
def bf(c:UInt8):LB->Bool
 | []=>false
 | x::_=>x==c
def Ag(c:UInt8):Bool:=c==42||c==43||c==63||c==123
def bO:LB->Option (Nat × LB)
 | []=>none
 | c::r=>if 48<=c&&c<=57 then some (c.toNat-48,r) else none
def bY(t:LB):Option ((Nat × Option Nat) × LB) :=
 match bO t with
 | none=>none
 | some (lo,r) =>
   if bf 44 r then
    match bO r.tail with
    | some (n,r2)=>if bf 125 r2&&decide (lo<=n) then some ((lo,some n),r2.tail) else none
    | none=>if bf 125 r.tail then some ((lo,none),r.tail.tail) else none
   else if bf 125 r then some ((lo,some lo),r.tail) else none
def Ah:LB->Option ((Nat × Option Nat) × LB)
 | []=>none
 | c::r=>if c==42 then some ((0,none),r) else if c==43 then some ((1,none),r) else if c==63 then some ((0,some 1),r) else if c==123 then bY r else none
def Ai:LB->Bool
 | []=>false
 | c::_=>Ag c
def dF:Nat->RX->LB->Option (RX × LB)
 | 0,_,_=>none
 | k+1,x,t=>if Ai t then (match Ah t with | none=>none|some (b,r)=>dF k (.rep x b.1 b.2) r) else some (x,t)
def jN:LB->Option (UInt8 × LB)
 | []=>none
 | c::r=>if c==92 then (match r with | []=>none|d::r2=>some (d,r2)) else if c==93||c==91||c==45 then none else some (c,r)
def qJ(t:LB):Option ((UInt8 × UInt8) × LB) :=
 match jN t with
 | none=>none
 | some (a,r)=>if bf 45 r then (match jN r.tail with | none=>none|some (b,r2)=>if a<=b then some ((a,b),r2) else none) else some ((a,a),r)
def sG(s f:Nat):Nat->Nat
 | 0=>s
 | k+1=>sG s f k ||| 2 ^ (f+k)
def addRange(s:Nat)(a b:UInt8):Nat:=sG s a.toNat (b.toNat+1-a.toNat)
def ed:Nat->Nat->LB->Option (Nat × LB)
 | 0,_,_=>none
 | k+1,s,t =>
   match qJ t with
   | none=>none
   | some ((a,b),r)=>if bf 93 r then some (addRange s a b,r.tail) else ed k (addRange s a b) r
def eT:Nat:=2 ^ 256-1
def lV(t:LB):Option (Nat × LB) :=
 if bf 94 t then (match ed (t.length+1) 0 t.tail with | none=>none|some (s,r)=>some (s ^^^ eT,r))
 else ed (t.length+1) 0 t
def gL(c:UInt8):Bool:=c==41||c==124||c==42||c==43||c==63||c==123||c==125||c==93
def qK(t:LB):Bool:=t.isEmpty||bf 124 t||bf 41 t
mutual
def gz:Nat->Nat->LB->Option (RX × LB)
 | 0,_,_=>none
 | k+1,nest,t =>
   match t with
   | []=>none
   | c::r =>
     if c==40 then (if 5<=nest then none else match gX k (nest+1) [] r with | none=>none|some (x,r2)=>if bf 41 r2 then some (x,r2.tail) else none)
     else if c==91 then (match lV r with | none=>none|some (s,r2)=>some (.one s,r2))
     else if c==46 then some (.one eT,r)
     else if c==92 then (match r with | []=>none|d::r2=>some (.one (2 ^ d.toNat),r2))
     else if gL c then none
     else some (.one (2 ^ c.toNat),r)
def iT:Nat->Nat->List RX->LB->Option (RX × LB)
 | 0,_,_,_=>none
 | k+1,nest,acc,t =>
   if qK t then some (.seq acc,t)
   else match gz k nest t with
    | none=>none
    | some (x,r)=>match dF (r.length+1) x r with
      | none=>none
      | some (y,r2)=>iT k nest (acc++[y]) r2
def gX:Nat->Nat->List RX->LB->Option (RX × LB)
 | 0,_,_,_=>none
 | k+1,nest,acc,t =>
   match iT k nest [] t with
   | none=>none
   | some (x,r)=>if bf 124 r then gX k nest (acc++[x]) r.tail else some (.alt (acc++[x]),r)
end
def fD(t:LB):Option RX :=
 match gX (4*t.length+4) 0 [] t with
 | some (x,[])=>some x
 | _=>none
/-! What is read is good. -/
theorem eH {c:UInt8}(h:bf c t=true):t.tail.length+1=t.length:=by
 cases t<;>simp[bf]at h |-
theorem xE {n:Nat}(h:bO t=some (n,r)):r.length+1=t.length/\n<=9:=by
 cases t with
 | nil=>simp[bO]at h
 | cons c q =>
   simp only[bO]at h
   split at h
   ·rename_i hc
    simp only[Option.some.injEq,Prod.mk.injEq]at h;obtain⟨rfl,rfl⟩:=h;simp only[a0N,a0S]at hc;have:c.toNat<=57:=by have:=a1o.1 hc.2;simpa using this
    simp;omega
   simp at h
theorem mq {lo:Nat} {hi:Option Nat}(h:bY t=some ((lo,hi),r)):r.length+2<=t.length/\(∀n,hi=some n->lo<=n):=by
 unfold bY at h
 split at h
 ·simp at h
 rename_i lo' r' hd
 have h1:=xE hd
 split at h
 ·rename_i hc
  have h2:=eH hc
  split at h
  ·rename_i n r2 kY
   have h3:=xE kY
   split at h
   ·rename_i hb
    simp only[a0N,a0S]at hb;have h4:=eH hb.1;simp only[Option.some.injEq,Prod.mk.injEq]at h;obtain⟨⟨rfl,rfl⟩,rfl⟩:=h;refine⟨by omega,?_⟩;intro m hm;simp at hm;omega
   simp at h
  split at h
  ·rename_i hb
   have h4:=eH hb;simp only[Option.some.injEq,Prod.mk.injEq]at h;obtain⟨⟨rfl,rfl⟩,rfl⟩:=h;exact⟨by omega,by intro m hm;simp at hm⟩
  simp at h
 split at h
 ·rename_i hb
  have h4:=eH hb;simp only[Option.some.injEq,Prod.mk.injEq]at h;obtain⟨⟨rfl,rfl⟩,rfl⟩:=h;refine⟨by omega,?_⟩;intro m hm;simp at hm;omega
 simp at h
theorem BV {b:Nat × Option Nat}(h:Ah t=some (b,r)):r.length+gG b.1 b.2<=t.length/\(∀n,b.2=some n->b.1<=n):=by
 cases t with
 | nil=>simp[Ah]at h
 | cons c q =>
   simp only[Ah]at h
   split at h
   ·simp only[Option.some.injEq,Prod.mk.injEq]at h
    obtain⟨rfl,rfl⟩:=h;exact⟨by simp[gG],by simp⟩
   split at h
   ·simp only[Option.some.injEq,Prod.mk.injEq]at h
    obtain⟨rfl,rfl⟩:=h;exact⟨by simp[gG],by simp⟩
   split at h
   ·simp only[Option.some.injEq,Prod.mk.injEq]at h
    obtain⟨rfl,rfl⟩:=h;exact⟨by simp[gG],by simp⟩
   split at h
   ·obtain⟨lo,hi⟩:=b
    have h1:=mq h;have h2:gG lo hi<=3:=by cases hi<;>simp only[gG]<;>split<;>omega
    exact⟨by simp;omega,h1.2⟩
   simp at h
theorem QB:∀{k:Nat} {x y:RX} {t r:LB},vV x->dF k x t=some (y,r)->vV y/\jh y+r.length<=jh x+t.length
 | 0,x,y,t,r,_,h=>by simp[dF]at h
 | k+1,x,y,t,r,hx,h=>by
   simp only[dF]at h
   split at h
   ·split at h
    ·simp at h
    rename_i b r' hb
    have h1:=BV hb;have h2:=QB (k:=k) (show vV (.rep x b.1 b.2) from ⟨hx,h1.2⟩) h;simp only[jh]at h2;exact⟨h2.1,by omega⟩
   simp only[Option.some.injEq,Prod.mk.injEq]at h;obtain⟨rfl,rfl⟩:=h;exact⟨hx,a0a _⟩
theorem QC {c:UInt8}(h:jN t=some (c,r)):r.length+1<=t.length:=by
 cases t with
 | nil=>simp[jN]at h
 | cons d q =>
   simp only[jN]at h
   split at h
   ·cases q with
    | nil=>simp at h
    | cons e q2=>simp at h;obtain⟨rfl,rfl⟩:=h;simp
   split at h
   ·simp at h
   simp at h;obtain⟨rfl,rfl⟩:=h;simp
theorem zg {ab:UInt8 × UInt8}(h:qJ t=some (ab,r)):r.length+1<=t.length:=by
 unfold qJ at h
 split at h
 ·simp at h
 rename_i a r1 h1
 have e1:=QC h1
 split at h
 ·rename_i hc
  have e2:=eH hc
  split at h
  ·simp at h
  rename_i b r2 h2
  have e3:=QC h2
  split at h
  ·simp at h;obtain⟨_,rfl⟩:=h;omega
  simp at h
 simp at h;obtain⟨_,rfl⟩:=h;omega
theorem QD{f:Nat}(hs:s<2 ^ 256):∀k,f+k<=256->sG s f k<2 ^ 256
 | 0,_=>hs
 | k+1,h=>Nat.or_lt_two_pow (QD hs k (by omega)) (a3e (by omega) (by omega))
theorem Mj(hs:s<2 ^ 256)(a b:UInt8):addRange s a b<2 ^ 256:=by
 have:=a.toNat_lt;have:=b.toNat_lt
 by_cases h:a.toNat<=b.toNat
 ·exact QD hs _ (by omega)
 unfold addRange;rw[show b.toNat+1-a.toNat=0 by omega];exact hs
theorem Fq:∀{k s s':Nat} {t r:LB},s<2 ^ 256->ed k s t=some (s',r)->s'<2 ^ 256/\r.length+1<=t.length
 | 0,s,s',t,r,_,h=>by simp[ed]at h
 | k+1,s,s',t,r,hs,h=>by
   simp only[ed]at h
   split at h
   ·simp at h
   rename_i a b r1 h1
   have e1:=zg h1;have e2:=Mj hs a b
   split at h
   ·rename_i hc
    have e3:=eH hc;simp at h;obtain⟨rfl,rfl⟩:=h;exact⟨e2,by omega⟩
   have:=Fq (k:=k) e2 h;exact⟨this.1,by omega⟩
theorem Fs(h:lV t=some (s,r)):s<2 ^ 256/\r.length+1<=t.length:=by
 unfold lV at h
 split at h
 ·rename_i hc
  have e:=eH hc
  split at h
  ·simp at h
  rename_i s1 r1 h1
  have:=Fq (by decide) h1;simp at h;obtain⟨rfl,rfl⟩:=h;exact⟨Nat.xor_lt_two_pow this.1 (by decide),by omega⟩
 exact Fq (by decide) h
theorem yT:∀{a b:List RX},kv (a++b)↔kv a/\kv b
 | [],b=>by simp[kv]
 | x::a,b=>by simp[kv,yT (a:=a),and_assoc]
theorem yU:∀{a b:List RX},fo (a++b)=fo a+fo b
 | [],b=>by simp[fo]
 | x::a,b=>by simp[fo,yU (a:=a)];omega
mutual
theorem aeg:∀{k nest:Nat} {t r:LB} {x:RX},gz k nest t=some (x,r)->vV x/\jh x+r.length<=t.length
 | 0,nest,t,r,x,h=>by simp[gz]at h
 | k+1,nest,[],r,x,h=>by simp[gz]at h
 | k+1,nest,c::q,r,x,h=>by
   simp only[gz]at h
   split at h
   ·split at h
    ·simp at h
    split at h
    ·simp at h
    rename_i x1 r1 h1
    have e:=OE (acc:=[]) (by simp[kv]) h1
    split at h
    ·rename_i hc
     have e2:=eH hc;simp at h;obtain⟨rfl,rfl⟩:=h;simp[fo]at e;exact⟨e.1,by simp;omega⟩
    simp at h
   split at h
   ·split at h
    ·simp at h
    rename_i s r1 h1
    have e:=Fs h1;simp at h;obtain⟨rfl,rfl⟩:=h;exact⟨e.1,by simp[jh];omega⟩
   split at h
   ·simp at h
    obtain⟨rfl,rfl⟩:=h;exact⟨by simp only[vV,eT];decide,by simp[jh];omega⟩
   split at h
   ·cases q with
    | nil=>simp at h
    | cons d q2 =>
      simp at h;obtain⟨rfl,rfl⟩:=h;have:=d.toNat_lt;exact⟨a3e (by omega) (by omega),by simp[jh];omega⟩
   split at h
   ·simp at h
   simp at h;obtain⟨rfl,rfl⟩:=h;have:=c.toNat_lt;exact⟨a3e (by omega) (by omega),by simp[jh];omega⟩
theorem YZ:∀{k nest:Nat} {acc:List RX} {t r:LB} {x:RX},kv acc->iT k nest acc t=some (x,r)->vV x/\jh x+r.length<=fo acc+t.length
 | 0,nest,acc,t,r,x,_,h=>by simp[iT]at h
 | k+1,nest,acc,t,r,x,ha,h=>by
   simp only[iT]at h
   split at h
   ·simp at h
    obtain⟨rfl,rfl⟩:=h;exact⟨ha,by simp[jh]⟩
   split at h
   ·simp at h
   rename_i x1 r1 h1
   have e1:=aeg h1
   split at h
   ·simp at h
   rename_i y r2 h2
   have e2:=QB e1.1 h2;have e3:=YZ (acc:=acc++[y]) (yT.2 ⟨ha,e2.1,trivial⟩) h;rw[yU]at e3;simp only[fo]at e3;exact⟨e3.1,by omega⟩
theorem OE:∀{k nest:Nat} {acc:List RX} {t r:LB} {x:RX},kv acc->gX k nest acc t=some (x,r)->vV x/\jh x+r.length<=fo acc+acc.length+t.length
 | 0,nest,acc,t,r,x,_,h=>by simp[gX]at h
 | k+1,nest,acc,t,r,x,ha,h=>by
   simp only[gX]at h
   split at h
   ·simp at h
   rename_i x1 r1 h1
   have e1:=YZ (acc:=[]) trivial h1;simp only[fo]at e1
   split at h
   ·rename_i hc
    have e2:=eH hc;have e3:=OE (acc:=acc++[x1]) (yT.2 ⟨ha,e1.1,trivial⟩) h;rw[yU]at e3;simp only[fo,a0v,a1k]at e3;exact⟨e3.1,by omega⟩
   simp at h;obtain⟨rfl,rfl⟩:=h;refine⟨⟨yT.2 ⟨ha,e1.1,trivial⟩,by simp⟩,?_⟩;simp only[jh,yU,fo,a0v,a1k];omega
end
theorem yz {x:RX}(h:fD t=some x):vV x/\jh x<=t.length:=by
 unfold fD at h
 split at h
 ·rename_i y h1
  simp at h;subst h;have:=OE (acc:=[]) trivial h1;simp[fo]at this;exact this
 simp at h
open Go.RowKit
/-! The al8 answer on regular expressions: the reader. -/
def QP(w:World)(b:Nat)(t:LB)(ok:Bool):Prop :=
 w.heap[b]?=some (.cells #[.string (bs t),.bool ok] 116 (0,0))/\t.length<=1048576
theorem QP.c0 {b:Nat} {ok:Bool}(h:QP w b t ok):w.cell? ⟨b,0,none⟩=some (.string (bs t)):=by
 simp[World.cell?,h.1]
theorem QP.c1 {b:Nat} {ok:Bool}(h:QP w b t ok):w.cell? ⟨b,1,none⟩=some (.bool ok):=by
 simp[World.cell?,h.1]
theorem QP.fz {b:Nat} {ok:Bool}(h:QP w b t ok)(o:Nat):w.frozen? ⟨b,o,none⟩=false:=by
 simp[World.frozen?,h.1]
theorem QP.lt {b:Nat} {ok:Bool}(h:QP w b t ok):b<w.heap.size :=
 (a0d.1 h.1).1
theorem QP.aB {b:Nat} {ok:Bool}(h:QP w b t ok)(f:aA S w w')(hS:b∉S):QP w' b t ok :=
 ⟨(f.block b h.lt hS).trans h.1,h.2⟩
theorem QP.off {b:Nat} {ok:Bool}(h:QP w b t ok):QP (w.setCell ⟨b,1,none⟩ (.bool false)) b t false:=by
 refine⟨?_,h.2⟩;simp[World.setCell,a0t,h.1]
theorem QP.go {b:Nat} {ok:Bool}(h:QP w b t ok)(r:LB)(hr:r.length<=t.length):QP (w.setCell ⟨b,0,none⟩ (.string (bs r))) b r ok:=by
 refine⟨?_,a0e hr h.2⟩;simp[World.setCell,a0t,h.1]
def iA:LB->Nat
 | []=>0
 | c::_=>c.toNat
theorem tV(b:Nat)(t:LB)(ok:Bool)(w:World)(h:QP w b t ok) :
 Calls Tryz.prog 52 #[.pointer (some ⟨b,0,none⟩)] w λe w'=>e=.returned (.tuple #[.int .u8 (iA t),.bool (!t.isEmpty)])/\w=w':=by
 have h0:=h.c0;have hl:=h.2;have fM:=bS t;cases t with
 | nil =>
   have e:bs []=⟨#[]⟩:=rfl;go_enter Tryz.func52,Tryz.ntmps52
   go_wp2;go_ret2;exact⟨rfl,rfl⟩
 | cons c r =>
   have hb:(bs (c::r))[0]'(by rw[bS];simp)=c:=rfl;simp only[a0o]at fM hl;go_enter Tryz.func52,Tryz.ntmps52
   go_wp2;go_ret2;exact⟨rfl,rfl⟩
theorem jk(b:Nat)(t:LB)(ok:Bool)(w:World)(h:QP w b t ok) :
 Calls Tryz.prog 53 #[.pointer (some ⟨b,0,none⟩)] w λe w'=>e=.returned (.int .u8 (iA t))/\QP w' b t.tail (ok&&!t.isEmpty)/\aA [b] w w':=by
 have h0:=h.c0;have h1:=h.c1;have Fu:=h.fz 0;have aZ:=h.fz 1;have hl:=h.2;have fM:=bS t;cases t with
 | nil =>
   have H:=aj h.off;clear h;go_enter Tryz.func53,Tryz.ntmps53
   go_wp2;go_ret;refine⟨rfl,?_,(aA.refl _ _).setCell (.inl (by simp)) _⟩;simp only[List.isEmpty_nil,a2q,a3o,List.tail_nil];exact H
 | cons c r =>
   have H:=aj (h.go r (by simp));have he:=qF (c::r) 1 (r.length+1);have hd:((c::r).take (r.length+1)).drop 1=r:=by simp
   rw[hd]at he;clear hd;have hb:(bs (c::r))[0]'(by rw[bS];simp)=c:=rfl;simp only[a0o]at fM hl;clear h;go_enter Tryz.func53,Tryz.ntmps53
   go_wp2;go_ret;refine⟨rfl,?_,(aA.refl _ _).setCell (.inl (by simp)) _⟩;simp only[a1J,a1y,a2r,a1z];exact H
def nv(k:IntKind)(L:LN):List Value:=L.map λ(n:Nat)=>.int k n
theorem Ur:(Tryz.prog.info? 3).map (λi=>(i.zero,i.size,i.bytes))=some (some (.int .i64 0),1,8):=by kernel_rfl
theorem bK(w:World)(a:Obj):(w.alloc a).heap[w.heap.size]?=some a:=heap_alloc_new w a
def AB(w:World)(ab:Nat)(n:Int)(cl:LN)(va vn:Value):Prop :=
 w.heap[ab]?=some (.cells (.int .i64 n::(nv .u8 cl++[va,vn])).toArray 157 (0,0))/\cl.length=256
theorem AB.lt {cl:LN}(h:AB w ab n cl va vn):ab<w.heap.size:=(a0d.1 h.1).1
theorem AB.fz {cl:LN}(h:AB w ab n cl va vn)(o:Nat):w.frozen? ⟨ab,o,none⟩=false:=by simp[World.frozen?,h.1]
theorem AB.aB {cl:LN}(h:AB w ab n cl va vn)(f:aA S w w')(hS:ab∉S):AB w' ab n cl va vn:=⟨(f.block ab h.lt hS).trans h.1,h.2⟩
theorem AB.c0 {cl:LN}(h:AB w ab n cl va vn):w.cell? ⟨ab,0,none⟩=some (.int .i64 n):=by
 simp[World.cell?,h.1]
theorem AB.cell {cl:LN}(h:AB w ab n cl va vn)(c:Nat)(hc:c<256):w.cell? ⟨ab,1+c,none⟩=some (.int .u8 (cl.getD c 0)):=by
 have hl:c<cl.length:=by rw[h.2];exact hc
 have e:(.int .i64 n::(nv .u8 cl++[va,vn]))[1+c]?=some (.int .u8 (cl.getD c 0)):=by
  rw[a2m,a1u,a0u (by simp[nv];exact hl)];simp[nv,hl]
 simp[World.cell?,h.1];simpa using e
theorem AB.set {cl:LN}(h:AB w ab n cl va vn)(c m:Nat)(hc:c<256):AB (w.setCell ⟨ab,1+c,none⟩ (.int .u8 m)) ab n (cl.set c m) va vn:=by
 refine⟨?_,by rw[a3k];exact h.2⟩;have hl:c<cl.length:=by rw[h.2];exact hc
 have e:(.int .i64 n::(nv .u8 cl++[va,vn])).set (1+c) (.int .u8 m)=.int .i64 n::(nv .u8 (cl.set c m)++[va,vn]):=by
  rw[a2m,a1N,a3f _ _ (by simp[nv];exact hl)];simp[nv,a2n]
 have h1:=h.1;simp only[World.setCell,a0t,h1,a0C,a1x];rw[<-e];simp
theorem AB.set0 {cl:LN}(h:AB w ab n cl va vn)(m:Int):AB (w.setCell ⟨ab,0,none⟩ (.int .i64 m)) ab m cl va vn:=by
 refine⟨?_,h.2⟩;have h1:=h.1;simp only[World.setCell,a0t,h1,a0C,a1x];simp
theorem AB.Fv {cl:LN}(h:AB w ab n cl va vn)(v:Value):AB (w.setCell ⟨ab,258,none⟩ v) ab n cl va v:=by
 refine⟨?_,h.2⟩;have e:(.int .i64 n::(nv .u8 cl++[va,vn])).set 258 v=.int .i64 n::(nv .u8 cl++[va,v]):=by
  rw[a1N,a1t _ _ (by simp[nv,h.2])];simp[nv,h.2]
 have h1:=h.1;simp only[World.setCell,a0t,h1,a0C,a1x];rw[<-e];simp
theorem AB.abV {cl:LN}(h:AB w ab n cl va vn)(v:Value):AB (w.setCell ⟨ab,257,none⟩ v) ab n cl v vn:=by
 refine⟨?_,h.2⟩;have e:(.int .i64 n::(nv .u8 cl++[va,vn])).set 257 v=.int .i64 n::(nv .u8 cl++[v,vn]):=by
  rw[a1N,a1t _ _ (by simp[nv,h.2])];simp[nv,h.2]
 have h1:=h.1;simp only[World.setCell,a0t,h1,a0C,a1x];rw[<-e];simp
theorem AB.cN {cl:LN}(h:AB w ab n cl va vn):w.cell? ⟨ab,257,none⟩=some va/\w.cell? ⟨ab,258,none⟩=some vn:=by
 have e1:(.int .i64 n::(nv .u8 cl++[va,vn]))[257]?=some va:=by
  rw[a1u,a0R (by simp[nv,h.2])];simp[nv,h.2]
 have e2:(.int .i64 n::(nv .u8 cl++[va,vn]))[258]?=some vn:=by
  rw[a1u,a0R (by simp[nv,h.2])];simp[nv,h.2]
 simp only[World.cell?,h.1];exact⟨by simpa using e1,by simpa using e2⟩
theorem Dv:(Tryz.prog.info? 157).map (·.size)=some 259:=by kernel_rfl
theorem aeh:Tryz.zeroCells157=(Value.int .i64 0::(nv .u8 (List.replicate 256 0)++[.slice none 0 0,.slice none 0 0])).toArray:=by kernel_rfl
theorem iC:Tryz.zeroCells157.size=259:=by kernel_rfl
theorem vC:Tryz.zeroCells157.all (·.oneCell')=true:=by kernel_rfl
theorem AB.new(w:World):AB (w.alloc (Obj.cells Tryz.zeroCells157 157)) w.heap.size 0 (List.replicate 256 0) (.slice none 0 0) (.slice none 0 0):=by
 refine⟨?_,List.length_replicate⟩;rw[aeh];exact bK _ _
theorem bH {fn:Func} {p u:Tmp} {ty:TypeId}(h:fn.results=#[.cell p ty,.tmp u])(tmps:Array Value)(w:World)(g:Nat)(cs:Array Value)
 (hp:tmps.getD p undef=.pointer (some ⟨g,0,none⟩)) (hl:(loadVar ty ⟨g,0,none⟩).run Tryz.prog w=.ok (.agg cs) w) :
 (results fn tmps).run Tryz.prog w=.ok (.tuple #[.agg cs,tmps.getD u undef]) w:=by
 have Sd:tmps[p]?.getD undef=.pointer (some ⟨g,0,none⟩):=by simpa using hp
 simp[results,h,Sd,asAddr,hl]
theorem pU {t:TypeId} {fr:Nat × Nat}(hg:w.heap[g]?=some (.cells cs t fr))(hs:cs.size=259):(loadVar 157 ⟨g,0,none⟩).run Tryz.prog w=.ok (.agg cs) w :=
 run_loadVar_row w g t 157 cs fr _ hg Tryz.underlying157 rfl (by rw[hs];exact Dv)
theorem aA.setRow(w:World)(g:Nat)(cs:Array Value):aA [g] w (w.setRow g cs):=by
 refine⟨rfl,rfl,rfl,by simp[World.setRow],λk hk hS=>?_⟩;simp at hS;simp only[World.setRow,a0t];rw[a0g (λe=>hS e.symm)]
theorem tZ {t:TypeId}(h:w.heap[g]?=some (.cells old t (0,0))):(w.setRow g cs).heap[g]?=some (.cells cs t (0,0)):=by
 simp only[World.setRow,a0t,h,a0C,a1x]
theorem uf {t:TypeId}(h:w.heap[g]?=some (.cells old t (0,0)))(hs:cs.size=old.size)(h1:cs.all (·.oneCell')=true):(storeCells ⟨g,0,none⟩ cs.toList).run Tryz.prog w=.ok () (w.setRow g cs):=by
 have:=run_storeCells_from (P:=Tryz.prog) g t cs.toList 0 old w h (by simp;omega) (λv hv=>(a2g.1 h1) v (by simpa using hv));simpa using this
theorem Y0:(Tryz.prog.info? 4).map (λi=>(i.zero,i.size,i.bytes))=some (some (.bool false),1,1):=by kernel_rfl
theorem Dw {o:Oper} {a:Act} {K:Act->World->Prop} {Q:Exit->Act->World->Prop}(x:Operand)(ho:o.op=.load 157 x)(g:Nat)(hx:a.eval x=.pointer (some ⟨g,0,none⟩))(cs:Array Value)(hl:(loadVar 157 ⟨g,0,none⟩).run Tryz.prog w=.ok (.agg cs) w)(h:K (a.put o.dst (.agg cs)) w):o.wp Tryz.prog a w K Q:=by
 unfold Oper.wp execOp;simp only[ho,hx,Instr.loadAt,Instr.sureAddr,Sem.run_bind,Sem.run_pure,Result.andThen_ok,hl];exact h
set_option linter.unusedVariables false
set_option linter.unusedSimpArgs false
def iU:NF->Bool | .sum _=>true|_=>false
mutual
def hsk:List NF->NF->List (NF × List NF)
 | _,.zero=>[]
 | _,.one=>[]
 | _,.set _=>[]
 | k,.pair a b=>hsk (elems b++k) a++hsk k b
 | k,.sum l=>(if k.isEmpty then [] else [(.sum l,k)])++QE k l
 | k,.star a=>(if iU a then [] else [(a,.star a::k)])++hsk (.star a::k) a
def QE:List NF->List NF->List (NF × List NF)
 | _,[]=>[]
 | k,x::r=>hsk k x++QE k r
end
theorem Il:∀{l k:List NF} {o:NF × List NF},o∈QE k l↔∃x∈l,o∈hsk k x
 | [],k,o=>by simp[QE]
 | x::r,k,o=>by simp[QE,Il (l:=r)]
theorem aim(Y:NF):∀(k t s:List NF) (Z:NF),(Z,s)∈hsk k Y->(Z,s++t)∈hsk (k++t) Y:=by
 refine NF.ind (P:=λY=>∀(k t s:List NF) (Z:NF),(Z,s)∈hsk k Y->(Z,s++t)∈hsk (k++t) Y) ?_ Y;intro Y ih k t s Z h;cases Y with
 | zero=>simp[hsk]at h
 | one=>simp[hsk]at h
 | set n=>simp[hsk]at h
 | pair a b =>
   simp only[hsk,a0b]at h |-;rcases h with h|h
   ·left
    rw[<-a0K];exact ih a (by simp[NF.size];have:=NF.size_pos b;omega) _ t s Z h
   exact .inr (ih b (by simp[NF.size];have:=NF.size_pos a;omega) _ t s Z h)
 | sum l =>
   simp only[hsk,a0b]at h |-;rcases h with h|h
   ·left
    cases k with
    | nil=>simp at h
    | cons x k=>simp at h |-;obtain⟨rfl,rfl⟩:=h;simp
   right
   rw[Il]at h |-;obtain⟨x,hx,h⟩:=h;exact⟨x,hx,ih x (by have:=dK hx;simp[NF.size];omega) _ t s Z h⟩
 | star a =>
   simp only[hsk,a0b]at h |-;rcases h with h|h
   ·left
    split at h
    ·simp at h
    rename_i hn
    rw[a0g hn];simp at h |-;obtain⟨rfl,rfl⟩:=h;simp
   exact .inr (ih a (by simp[NF.size]) (.star a::k) t s Z h)
theorem Mk(X:NF):∀(Y:NF) (t k s:List NF) (Z:NF),(Y,t)∈bq X->(Z,s)∈hsk (t++k) Y->(Z,s)∈hsk k X:=by
 refine NF.ind (P:=λX=>∀(Y:NF) (t k s:List NF) (Z:NF),(Y,t)∈bq X->(Z,s)∈hsk (t++k) Y->(Z,s)∈hsk k X) ?_ X;intro X ih Y t k s Z ho h;cases X with
 | zero=>simp[bq]at ho;obtain⟨rfl,rfl⟩:=ho;simpa using h
 | one=>simp[bq]at ho;obtain⟨rfl,rfl⟩:=ho;simpa using h
 | set n=>simp[bq]at ho;obtain⟨rfl,rfl⟩:=ho;simpa using h
 | pair a b =>
   simp only[bq,a0l,a0b,a0s,Prod.mk.injEq]at ho;rcases ho with⟨rfl,rfl⟩|⟨⟨Y',s'⟩,ho,rfl,rfl⟩|ho
   ·simpa using h
   ·simp only[hsk,a0b]
    left
    refine ih a (by simp[NF.size];have:=NF.size_pos b;omega) _ s' _ s Z ho ?_;rw[<-a0K];exact h
   simp only[hsk,a0b];exact .inr (ih b (by simp[NF.size];have:=NF.size_pos a;omega) _ t _ s Z ho h)
 | sum l =>
   simp only[bq,a0l,Prod.mk.injEq]at ho;rcases ho with⟨rfl,rfl⟩|ho
   ·simpa using h
   rw[BN]at ho;obtain⟨x,hx,ho⟩:=ho;simp only[hsk,a0b]
   right
   rw[Il];exact⟨x,hx,ih x (by have:=dK hx;simp[NF.size];omega) _ t _ s Z ho h⟩
 | star a =>
   simp only[bq,a0l,a0s,Prod.mk.injEq]at ho;rcases ho with⟨rfl,rfl⟩|⟨⟨Y',s'⟩,ho,rfl,rfl⟩
   ·simpa using h
   simp only[hsk,a0b]
   right
   refine ih a (by simp[NF.size]) _ s' _ s Z ho ?_;simpa using h
def Se(X:NF)(w:LN)(p:NF):Prop :=
 di p=true\/p=.one\/(∃Y t,(Y,t)∈bq X/\dE Y=true/\p=mk Y t) \/
 ∃Y t v,(Y,t)∈bq X/\(Y,t)∈hsk [] X/\t≠[]/\v≠[]/\v <:+ w/\dE (dW Y v)=true/\p=mk (dW Y v) t/\∀u,u <+: v->u≠[]->vU (dW Y u)=true
theorem agF{w:LN}(ho:(Y,[])∈bq X)(hv:v <:+ w)(h:Se Y v p):Se X w p:=by
 rcases h with h|h|⟨Z,t,h1,h2,h3⟩|⟨Z,t,u,h1,TQ,ht,h0,h2,h3,h4,h5⟩
 ·exact .inl h
 ·exact .inr (.inl h)
 ·have:=jw ho h1
  rw[a0Q]at this;exact .inr (.inr (.inl ⟨Z,t,this,h2,h3⟩))
 have:=jw ho h1;rw[a0Q]at this;exact .inr (.inr (.inr ⟨Z,t,u,this,Mk X Y [] [] t Z ho (by simpa using TQ),ht,h0,h2.trans hv,h3,h4,h5⟩))
theorem Us(hx:wf x)(ho:(x,[])∈bq X)(w:LN)(hp:p∈parts x):Se X w p:=by
 have hpo:(p,[])∈bq X:=by
  cases x with
  | zero=>simp[parts]at hp
  | sum l=>have:=jw ho (E6 (l:=l) hp (eP p));simpa using this
  | one=>simp[parts]at hp;subst hp;exact ho
  | set s=>simp[parts]at hp;subst hp;exact ho
  | pair a b=>simp[parts]at hp;subst hp;exact ho
  | star a=>simp[parts]at hp;subst hp;exact ho
 have hw:=uy hx hp;have ha:=lq hx hp;clear hp ho hx;cases p with
 | zero=>simp[ik]at ha
 | sum l=>simp[ik]at ha
 | one=>exact .inr (.inl rfl)
 | set s=>exact .inl rfl
 | pair a b =>
   have h1:=jw hpo (zb (b:=b) (eP a));simp only[a1a,a0Q]at h1;refine .inr (.inr (.inl ⟨a,elems b,h1,hw.2.2.1,?_⟩));rw[jS (BI b),uW hw.2.1]
 | star a=>exact .inr (.inr (.inl ⟨.star a,[],hpo,rfl,rfl⟩))
theorem Ut {t:List NF}(hX:wf X)(ho:(Y,t)∈bq X)(w:LN)(hp:p∈parts (chain t)):Se X w p:=by
 match t,ho,hp with
 | [],_,hp=>simp[chain,parts]at hp;exact .inr (.inl hp)
 | [x],ho,hp =>
   have h1:=qY (u:=[]) ho rfl;exact Us (bJ hX h1).1 h1 w hp
 | x::y::r,ho,hp =>
   have h1:=qY (u:=[]) ho rfl;have h2:=(bJ hX ho).2 x (by simp);simp[chain,parts]at hp;exact .inr (.inr (.inl ⟨x,y::r,h1,h2.2,hp⟩))
theorem OG {t:List NF} {w u:LN}(hX:wf X)(ho:(Y,t)∈bq X)(hk:(Y,t)∈hsk [] X)(ht:t≠[])(hu0:u≠[])(hu:u <:+ w)
 (Eo:∀u',u' <+: u->u'≠[]->u'≠u->vU (dW Y u')=true) (ih:∀p∈parts (dW Y u),Se Y u p) (hp:p∈parts (aH (dW Y u) (chain t))):Se X w p:=by
 have hg:=bJ hX ho;have hpre':vU (dW Y u)=true->∀u',u' <+: u->u'≠[]->vU (dW Y u')=true:=by
  intro h u' h1 h2
  by_cases e:u'=u
  ·rw[e];exact h
  exact Eo u' h1 h2 e
 have Ou:∀F:NF,dW Y u=F->ik F=true->di F=false->F≠.one->Se X w p:=by
  intro F hF ha hs sw;have hpF:F∈parts F:=by rw[uw ha];simp
  rcases ih F (by rw[hF];exact hpF) with h|h|⟨Z,s,h1,h3,h4⟩|⟨Z,s,v,h1,TQ,hs0,h0,h2,h3,h4,h5⟩
  ·rw[hs]at h;contradiction
  ·contradiction
  ·have Sb:=(bJ hg.1 h1).2
   rw[hF,h4,Oq h3 Sb hg.2,jS (by simp[ht])]at hp;simp only[parts,a0y]at hp;exact .inr (.inr (.inl ⟨Z,s++t,jw ho h1,h3,by rw[hp,jS (by simp[ht])]⟩))
  have Sb:=(bJ hg.1 h1).2;rw[hF,h4,Oq h3 Sb hg.2,jS (by simp[ht])]at hp;simp only[parts,a0y]at hp;have hh:(Z,s++t)∈hsk [] X:=Mk X Y t [] (s++t) Z ho (by simpa using aim Y [] t s Z TQ);exact .inr (.inr (.inr ⟨Z,s++t,v,jw ho h1,hh,by simp[ht],h0,h2.trans hu,h3,by rw[hp,jS (by simp[ht])],h5⟩))
 cases hF:dW Y u with
 | zero=>rw[hF]at hp;simp[aH,parts]at hp
 | one=>rw[hF]at hp;exact Ut hX ho w hp
 | set s =>
   have hh:dE (dW Y u)=true:=by rw[hF];rfl
   rw[aU hh (eG hg.2 ht)]at hp;simp only[parts,a0y]at hp;exact .inr (.inr (.inr ⟨Y,t,u,ho,hk,ht,hu0,hu,hh,by rw[hp,jS ht],hpre' (by rw[hF];rfl)⟩))
 | sum l =>
   have hh:dE (dW Y u)=true:=by rw[hF];rfl
   rw[aU hh (eG hg.2 ht)]at hp;simp only[parts,a0y]at hp;exact .inr (.inr (.inr ⟨Y,t,u,ho,hk,ht,hu0,hu,hh,by rw[hp,jS ht],hpre' (by rw[hF];rfl)⟩))
 | pair a b=>exact Ou _ hF rfl rfl (by simp)
 | star a=>exact Ou _ hF rfl rfl (by simp)
theorem aei(X:NF):wf X->∀(w:LN) (p:NF),p∈parts (dW X w)->Se X w p:=by
 refine NF.ind (P:=λX=>wf X->∀(w:LN) (p:NF),p∈parts (dW X w)->Se X w p) ?_ X;intro X ih hX w;have elem:∀(w:LN) (c:Nat) (c1:NF) (r:List NF) (p:NF),(c1,r)∈bq X->dE c1=true->(∀l,c1=.sum l->r=[]->c1.size<X.size)->p∈parts (aH (left c c1) (chain r))->Se X (w++[c]) p:=by
  intro w c c1 r p ho hh fM hp;have hg:=bJ hX ho;have JE:∀Y:NF,dW Y [c]=left c Y:=λY=>rfl
  have TY:[c] <:+ w++[c]:=List.suffix_append _ _;have TZ:∀(Y:NF) (u':LN),u' <+: [c]->u'≠[]->u'≠[c]->vU (dW Y u')=true:=by
   intro Y u' h1 h2 h3;rcases List.prefix_cons_iff.1 h1 with h|⟨t,rfl,h⟩
   ·contradiction
   have:=List.prefix_nil.1 h;subst this;contradiction
  cases c1 with
  | zero=>simp[dE]at hh
  | one=>simp[dE]at hh
  | pair a b=>simp[dE]at hh
  | set s =>
    simp only[left]at hp
    split at hp
    ·exact Ut hX ho _ hp
    simp[aH,parts]at hp
  | star Z =>
    have hZ:(Z,.star Z::r)∈bq X:=by
     have:=jw ho (uz (eP Z));simpa using this
    have hZk:(Z,.star Z::r)∈hsk [] X:=Mk X (.star Z) r [] _ Z ho (by
     simp only[hsk,a0Q,a0b];cases Z with
     | sum l=>right;simp[hsk]
     | _=>left;simp[iU])
    have aid:=(nK ho).1;have aO:Z.size<X.size:=by simp[NF.size]at aid;omega
    have BO:wf Z:=hg.1.1;have e:aH (left c (.star Z)) (chain r)=aH (dW Z [c]) (chain (.star Z::r)):=by
     rw[JE];simp only[left];rw[Dm _ _ _ (gK c Z BO) hg.1]
     congr 1
     exact qX (s:=[.star Z]) (t:=r) (by intro x hx;simp at hx;subst hx;exact⟨hg.1,rfl⟩) hg.2
    rw[e]at hp;exact OG hX hZ hZk (by simp) (by simp) TY (TZ Z) (ih Z aO BO [c]) hp
  | sum l =>
    by_cases hr:r=[]
    ·subst hr
     have aO:=fM l rfl rfl;rw[show chain []=.one from rfl,bz,<-JE]at hp;exact agF ho TY (ih _ aO hg.1 [c] p hp)
    have aO:=(nK ho).2 hr;have aoi:(NF.sum l,r)∈hsk [] X:=Mk X (.sum l) r [] _ _ ho (by
     cases r with
     | nil=>exact absurd rfl hr
     | cons x r=>simp[hsk])
    rw[<-JE]at hp;exact OG hX ho aoi hr (by simp) TY (TZ _) (ih _ aO hg.1 [c]) hp
 have main:∀n (w:LN),w.length=n->∀p,p∈parts (dW X w)->Se X w p:=by
  intro n
  induction n with
  | zero =>
    intro w hw p hp;have:=a1l hw;subst this;exact Us hX (eP X) [] hp
  | succ n ihn =>
    intro w hw p hp;obtain⟨w',c,rfl⟩:∃w' c,w=w'++[c]:=by
     have bL:w≠[]:=by intro e;subst e;simp at hw
     exact⟨w.dropLast,w.getLast bL,(a2w bL).symm⟩
    have L8:w'.length=n:=by simp at hw;exact hw
    rw[su]at hp;have hq:=A9 hX w';rcases Qs hq hp with h|⟨p0,hp0,hp⟩
    ·exact .inl h
    have T9:=lq hq hp0;have ain:∀(Y:NF) (t u:List NF) (c1:NF) (r:List NF),(Y,t)∈bq X->t=u++c1::r->p∈parts (aH (left c c1) (chain r))->Se X (w'++[c]) p:=by
     intro Y t u c1 r ho hu h;have hg:=bJ hX ho;have sw:=qY ho hu;have nL:=hg.2 c1 (by rw[hu];simp);refine elem w' c c1 r p sw nL.2 ?_ h;rintro l rfl rfl;rcases JD ho (.sum l) (by rw[hu];simp) with h|⟨a,e,_⟩
     ·exact h
     simp at e
    rcases ihn w' L8 p0 hp0 with h|h|⟨Y,t,ho,hh,rfl⟩|⟨Y,t,v,ho,hk,ht,Yb,hv,hh,rfl,Eo⟩
    ·cases p0<;>simp[di]at h
     simp only[left]at hp
     split at hp<;>simp[parts]at hp
     exact .inr (.inl hp)
    ·subst h;simp[left,parts]at hp
    ·have hg:=bJ hX ho
     rcases LZ hg.1 hg.2 hp with h|h|⟨u,c1,r,hu,h⟩
     ·exact .inl h
     ·refine elem w' c Y t p ho hh ?_ h
      rintro l rfl rfl;simp[mk,ik]at T9
     exact ain Y t u c1 r ho hu h
    have hg:=bJ hX ho;rcases LZ (A9 hg.1 v) hg.2 hp with h|h|⟨u,c1,r,hu,h⟩
    ·exact .inl h
    ·have aO:=(nK ho).2 ht
     rw[<-su]at h;refine OG hX ho hk ht (u:=v++[c]) (by simp) ?_ ?_ (ih Y aO hg.1 (v++[c])) h
     ·obtain⟨z,rfl⟩:=hv;exact⟨z,by simp⟩
     intro u' h1 h2 h3;rcases List.prefix_concat_iff.1 h1 with e|e
     ·contradiction
     exact Eo u' e h2
    exact ain Y t u c1 r ho hu h
 exact main _ w rfl
set_option linter.unusedVariables false
set_option linter.unusedSimpArgs false
def nl(x:NF):Nat:=(name x).length
def tn(t:List NF):Nat:=(t.map λx=>nl x+3).sum
theorem afB(s t:List NF):tn (s++t)=tn s+tn t:=by simp[tn]
theorem BZ(a b:NF):nl (.pair a b)=nl a+nl b+3:=by simp[nl,name];omega
theorem Uu(a:NF):nl (.star a)=nl a+1:=by simp[nl,name]
theorem OH:∀{t:List NF},t≠[]->tn t=nl (chain t)+3
 | [x],_=>by simp[tn,chain]
 | x::y::r,_=>by
   have h:=OH (t:=y::r) (by simp);rw[show tn (x::y::r)=nl x+3+tn (y::r) by simp[tn],h,show chain (x::y::r)=.pair x (chain (y::r)) from rfl,BZ];omega
theorem aio(h:NF)(t:List NF):nl (mk h t)=nl h+tn t:=by
 cases t with
 | nil=>simp[mk,tn]
 | cons x r=>rw[jS (by simp),BZ,OH (by simp)];omega
theorem Y1(hb:wf b):tn (elems b)=nl b+3:=by rw[OH (BI b),uW hb]
theorem Dx(s:Nat):∀k,(setName s k).length<=2*k
 | 0=>by simp[setName]
 | k+1=>by
   have:=Dx s k;simp only[setName,a0v]
   split<;>simp<;>omega
theorem Tt(s:Nat):nl (.set s)<=513:=by
 have:=Dx s 256;simp[nl,name];omega
def rf:NF->Bool | .one=>true|_=>false
def lW:NF->Bool | .set _=>true | .star _=>true|_=>false
def EI(l:List NF):Bool:=match l.filter (λx=>!rf x) with | [x]=>!lW x|_=>true
def fB:NF->Bool | .pair _ _=>true|_=>false
def sumTo(f:Nat->Nat):Nat->Nat
 | 0=>0
 | n+1=>sumTo f n+f (n+1)
mutual
/-- What pieces that stand in a form cost,k behind them. -/
def oG:NF->Nat->Nat
 | .zero,_=>0
 | .one,_=>0
 | .set s,k=>nl (.set s)+k+1
 | .pair a b,k=>oG a (k+nl b+3)+oG b k
 | .sum l,k=>(if k=0 then 0 else nl (.sum l)+k+1)+Sf l k
 | .star a,k=>nl (.star a)+k+1+oG a (k+nl (.star a)+3)
def Sf:List NF->Nat->Nat
 | [],_=>0
 | x::r,k=>oG x k+Sf r k
end
mutual
/-- What heads that are left of cost. -/
def hG:NF->Nat->Nat->Nat
 | .zero,_,_=>0
 | .one,_,_=>0
 | .set _,_,_=>0
 | .pair a b,k,n=>hG a (k+nl b+3) n+hG b k n
 | .sum l,k,n=>(if k=0 then 0 else if EI l then sumTo (λj=>518+Sf l 0+Sg l 0 j+k+1) n else 0)+Sg l k n
 | .star a,k,n=>(if fB a then sumTo (λj=>518+oG a 0+hG a 0 j+(k+nl (.star a)+3)+1) n else 0)+hG a (k+nl (.star a)+3) n
def Sg:List NF->Nat->Nat->Nat
 | [],_,_=>0
 | x::r,k,n=>hG x k n+Sg r k n
end
def nB(X:NF)(n:Nat):Nat:=518+oG X 0+hG X 0 n
theorem oD {f g:Nat->Nat}:∀{n},(∀j,1<=j->j<=n->f j<=g j)->sumTo f n<=sumTo g n
 | 0,_=>a0a _
 | n+1,h=>by
   have h1:=oD (n:=n) (λj a b=>h j a (by omega));have h2:=h (n+1) (by omega) (by omega);simp only[sumTo];omega
theorem sumTo_le {f:Nat->Nat}:∀{m n},m<=n->sumTo f m<=sumTo f n
 | m,0,h=>by have:m=0:=by omega
             subst this;exact a0a _
 | m,n+1,h=>by
   by_cases e:m=n+1
   ·subst e;exact a0a _
   have:=sumTo_le (f:=f) (m:=m) (n:=n) (by omega);simp only[sumTo];omega
def sW(l:List NF):Nat:=(l.map λp=>nl p+1).sum
theorem Im(a b:List NF):sW (a++b)=sW a+sW b:=by simp[sW]
theorem zh(p:NF)(r:List NF):sW (p::r)=nl p+1+sW r:=by simp[sW]
theorem aaE:∀{l M:List NF},l.Nodup->(∀p∈l,p∈M)->sW l<=sW M
 | [],M,_,_=>by simp[sW]
 | p::r,M,hn,h=>by
   rw[List.nodup_cons]at hn;obtain⟨A,B,rfl⟩:=a2R (h p (by simp));have h1:=aaE (l:=r) (M:=A++B) hn.2 (λq hq=>by
    have:=h q (by simp[hq]);simp only[a0b,a0l]at this |-;rcases this with h1|rfl|h1
    ·exact .inl h1
    ·exact absurd hq hn.1
    exact .inr h1)
   rw[zh,Im,zh];rw[Im]at h1;omega
theorem Io(l:List NF):nl (.sum l)=sW l+2:=by
 have:∀l:List NF,(dI l).length=sW l:=by
  intro l
  induction l with
  | nil=>simp[dI,sW]
  | cons x r ih=>rw[zh];simp[dI,ih,nl];omega
 simp[nl,name,this l]
theorem agG(hx:wf x):nl x<=sW (parts x)+2:=by
 cases x with
 | zero=>simp[nl,name,parts,sW]
 | sum l=>rw[Io];simp[parts]
 | one=>simp[parts,sW];omega
 | set s=>simp[parts,sW];omega
 | pair a b=>simp[parts,sW];omega
 | star a=>simp[parts,sW];omega
end Go.Proofs.YtgbdcmpmmkfbhaaGreat
