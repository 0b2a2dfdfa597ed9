import Derived.Test.YtgbdcmpmmkfbhaaGreatJ3
import Derived.Test.YtgbdcmpmmkfbhaaGreatJ8
import Derived.Test.YtgbdcmpmmkfbhaaGreatJ9
import Derived.Test.YtgbdcmpmmkfbhaaGreatJ7
import Derived.Test.YtgbdcmpmmkfbhaaGreatJ2
import Derived.Deep.WholeRow
import Derived.Laws.Bits64
import Derived.Laws.Bits64b
import Derived.RegionTactic
import Derived.BigRegion
import Derived.Test.YtgbdcmpmmkfbhaaGreatJ1
set_option linter.unusedVariables false
set_option linter.unusedSimpArgs false
set_option linter.unnecessarySimpa false
set_option maxRecDepth 100000
set_option maxHeartbeats 4000000
namespace Go.Proofs.YtgbdcmpmmkfbhaaGreat
variable {U:List NF} {w w' x:World} {b i n p:Nat} {a:NF} {l t:LB} {α β:Type} {hi:Option Nat} {e:RX} {F S:LN} {w0 w1 w2 w3:Int} {tmps:Array Value} {vs:Value}
set_option linter.unusedVariables false
set_option linter.unusedSimpArgs false
theorem Wd(a:NF):∀k t,eQ a k (aH a t)=aH a (eQ a k t)
 | 0,t=>rfl
 | k+1,t=>by rw[eQ,Wd a k (aH a t)];rfl
theorem We(a:NF)(k:Nat)(t:NF):eQ a (k+1) t=aH a (eQ a k t):=Wd a k t
theorem Wh(a:NF):∀k t,dD a k (dZ (aH a t) .one)=dZ (aH a (dD a k t)) .one
 | 0,t=>rfl
 | k+1,t=>by rw[dD,Wh a k (dZ (aH a t) .one)];rfl
theorem aeR(a:NF)(k:Nat)(t:NF):dD a (k+1) t=dZ (aH a (dD a k t)) .one:=Wh a k t
def wU(a:NF)(lo:Nat):Option Nat->NF
 | none=>iI a
 | some n=>dD a (n-lo) .one
theorem aeS(a:NF)(lo:Nat)(hi:Option Nat):jM a lo hi=eQ a lo (wU a lo hi):=by cases hi<;>rfl
def aeT(U:List NF)(a:NF)(lo:Nat)(hi:Option Nat):Prop :=
 (hi=none->iI a∈U) /\
 (∀n,hi=some n->∀k,k<n-lo->(∀f∈sD a (dD a k .one),f∈U)/\Cb U [aH a (dD a k .one),.one]) /\
 (∀k,k<lo->∀f∈sD a (eQ a k (wU a lo hi)),f∈U)
def Li(U:List NF):List RX->Prop
 | []=>True
 | x::r=>(∀f∈sD (bn x) (sF r),f∈U)/\Li U r
theorem Li.get:∀{l:List RX},Li U l->∀i (hi:i<l.length),∀f∈sD (bn l[i]) (sF (l.drop (i+1))),f∈U
 | x::r,h,0,_=>h.1
 | x::r,h,i+1,hi=>by simpa using Li.get h.2 i (by simpa using hi)
mutual
def Wi(U:List NF):RX->Prop
 | .one s=>s≠0->.set s∈U
 | .seq l=>xq U l/\Li U l
 | .alt l=>xq U l/\Cb U (ji l)
 | .rep x lo hi=>Wi U x/\aeT U (bn x) lo hi
def xq(U:List NF):List RX->Prop
 | []=>True
 | x::r=>Wi U x/\xq U r
end
theorem Gi:∀{l:List RX},xq U l↔∀x∈l,Wi U x
 | []=>by simp[xq]
 | x::r=>by simp only[xq,a0l,forall_eq_or_imp,Gi]
def Nh(ls:List NF):List NF:=[.set (aY (ls.flatMap parts)),bI ls]
def ZD(lo:Nat):Option Nat->Nat
 | none=>0
 | some n=>n-lo
def Lj(a:NF)(lo:Nat)(hi:Option Nat):List NF :=
 iI a::((List.range (ZD lo hi)).flatMap (λk=>sD a (dD a k .one)++Nh [aH a (dD a k .one),.one]) ++
  (List.range lo).flatMap λk=>sD a (eQ a k (wU a lo hi)))
mutual
/-- What normal makes. -/
def Ni:RX->List NF
 | .one s=>[.set s]
 | .seq l=>Wj l
 | .alt l=>Wk l++Nh (ji l)
 | .rep x lo hi=>Ni x++Lj (bn x) lo hi
def Wk:List RX->List NF
 | []=>[]
 | x::r=>Ni x++Wk r
def Wj:List RX->List NF
 | []=>[]
 | x::r=>(Ni x++Wj r)++sD (bn x) (sF r)
end
theorem Wl:∀(a b:NF),wf a->(sD a b).length<=cl a:=by
 intro a;refine NF.ind (P:=λa=>∀b,wf a->(sD a b).length<=cl a) ?_ a;intro a ih b hw
 by_cases hb:aM b=true
 ·cases a with
  | zero=>simp[sD]
  | one=>simp[sD]
  | set s=>rw[lF rfl hb];exact Mh _
  | sum l=>rw[lF rfl hb];exact Mh _
  | star x=>rw[lF rfl hb];exact Mh _
  | pair x y =>
    have ht:aM (aH y b)=true:=dO hw.2.1 hw.2.2.2 hb;rw[BS hb,lF hw.2.2.1 ht];have:=ih y (by simp[NF.size];omega) b hw.2.1;simp[cl,elems]at this |-;omega
 rcases fC hb with e|e<;>subst e<;>cases a<;>simp[sD]
def UE(x:NF):Prop:=∃p t,Bc x p t/\p<=40/\t<=100
theorem UE.wc {x:NF}(h:UE x):WC x:=by obtain⟨p,t,h,_⟩:=h;exact h.1
theorem UE.cl {x:NF}(h:UE x):cl x<=40:=by
 obtain⟨p,t,h,hp,ht⟩:=h
 by_cases h0:p=0
 ·rw[h.2.1 h0];decide
 exact a0e ((h.2.2 (by omega)).cp.cl (by omega)) hp
theorem UE.size {x:NF}(h:UE x):x.size<=8080:=by
 obtain⟨p,t,h,hp,ht⟩:=h
 by_cases h0:p=0
 ·rw[h.2.1 h0];decide
 refine a0e (h.2.2 (by omega)).sz ?_;have:2*p*(t+1)<=80*101:=a0E (by omega) (by omega);omega
theorem Wm:∀l:List NF,l.length<=bB l
 | []=>a1C _
 | x::r=>by have:=x.size_pos;have:=Wm r;simp only[bB,a0o];omega
theorem aeU {x:NF}(h:x.size<=n):(parts x).length<=n:=a0e (Wm _) (a0e (QA x) h)
theorem acS{ls:List NF}(hU:∀f∈Nh ls,f∈U)(h:∀x∈ls,x.size<=n)(hl:ls.length<=1000)(hn:n<=1000000):Cb U ls:=by
 refine⟨λ_=>hU _ (by simp[Nh]),λ_=>hU _ (by simp[Nh]),?_,by omega⟩;have h1:=Y4 (ls:=ls) (n:=n) λx hx=>aeU (h x hx)
 have h2:ls.length*n<=1000*1000000:=a0E hl hn;omega
theorem ahe(lo:Nat)(hi:Option Nat):gG lo hi<=3:=by
 cases hi<;>simp only[gG]<;>split<;>omega
theorem ajv{t lo:Nat}(ha:Bc a p t)(ht:1<=p->1<=t)(h:p*n<=40)(htt:t<=90) {k:Nat}(hk:k<=n-lo):UE (dD a k .one):=by
 have:=aaD ha ht 0 (some k) (by simp);refine⟨_,_,this,?_,?_⟩
 ·exact a0e (a0m _ (show times 0 (some k)<=n by simp[times];omega)) h
 have:=ahe 0 (some k);omega
theorem Aw(f:α->List β)(n:Nat):∀l:List α,(∀a∈l,(f a).length<=n)->(l.flatMap f).length<=l.length*n
 | [],_=>by simp
 | a::r,h=>by
   have h1:=h a (by simp);have h2:=Aw f n r λx hx=>h x (by simp[hx])
   simp only[a0Z,a0v,a0o,a0r,a1U];omega
theorem ahf{b:NF}(ha:a.size<=8080)(hb:b.size<=8080):(aH a b).size<=16161:=by have:=Du a b;omega
theorem alE{t lo:Nat}(ha:Bc a p t)(hp:p<=40)(ht:1<=p->1<=t)(h:p*times lo hi<=40)(htt:t<=90)(hlh:∀n,hi=some n->lo<=n)(hU:∀f∈Lj a lo hi,f∈U):aeT U a lo hi:=by
 have hF:UE a:=⟨p,t,ha,hp,by omega⟩;refine⟨λ_=>hU _ (by simp[Lj]),?_,?_⟩
 ·rintro n rfl k hk
  have hm:∀f∈sD a (dD a k .one)++Nh [aH a (dD a k .one),.one],f∈U:=λf hf=>hU f (by
   unfold Lj;exact a2a _ (a1g _ (a0U.2 ⟨k,a1Z.2 hk,hf⟩)))
  refine⟨λf hf=>hm f (a1g _ hf),acS (n:=16161) (λf hf=>hm f (a1b _ hf)) ?_ (by simp) (by omega)⟩;have h1:=(ajv (lo:=lo) ha ht h htt (Nat.le_of_lt hk)).size;intro x hx;simp at hx;rcases hx with rfl|rfl
  ·exact ahf hF.size h1
  decide
 intro k hk f hf;exact hU f (by
  unfold Lj;exact a2a _ (a1b _ (a0U.2 ⟨k,a1Z.2 hk,hf⟩)))
theorem aeV {lo:Nat}(hF:UE a)(h1:lo<=9)(h2:∀n,hi=some n->n<=9):(Lj a lo hi).length<=800:=by
 have hc:=hF.cl;have hw:=hF.wc.1;have e1:=Aw (λk=>sD a (dD a k .one)++Nh [aH a (dD a k .one),.one]) 42 (List.range (ZD lo hi)) (λk _=>by
  have:=Wl a (dD a k .one) hw;simp[Nh];omega)
 have e2:=Aw (λk=>sD a (eQ a k (wU a lo hi))) 40 (List.range lo) (λk _=>by
  have:=Wl a (eQ a k (wU a lo hi)) hw;omega)
 have e3:ZD lo hi<=9:=by
  cases hi with
  | none=>simp[ZD]
  | some n=>have:=h2 n rfl;simp only[ZD];omega
 have e4:ZD lo hi*42<=9*42:=a0w _ e3;have e5:lo*40<=9*40:=a0w _ (by omega);rw[List.length_range]at e1 e2;unfold Lj;simp only[a0o,a0v];omega
theorem Wn(h:vV e)(hp:dx e<=40)(ht:jh e<=90):UE (bn e):=⟨_,_,uZ h,by rw[pV hp];exact hp,by omega⟩
theorem Wo:∀{l:List RX} {e:RX},e∈l->dx e<=bM l
 | x::r,e,h=>by
   simp only[bM];rcases a0l.1 h with rfl|h
   ·omega
   have:=Wo h;omega
theorem IM:∀{l:List RX} {e:RX},kv l->e∈l->vV e
 | x::r,e,hl,h=>by
   rcases a0l.1 h with rfl|h
   ·exact hl.1
   exact IM hl.2 h
mutual
/-- What normal makes is little,and enough. -/
theorem Ty:∀{e:RX} {U:List NF},vV e->rM e->dx e<=40->jh e<=90->(∀f∈Ni e,f∈U)->Wi U e
 | .one s,U,ho,hd,hp,ht,hU=>λ_=>hU _ (by simp[Ni])
 | .seq l,U,ho,hd,hp,ht,hU=>acT (show kv l from ho) (show lz l from hd) (show bM l<=40 from hp) (show fo l<=90 from ht) hU
 | .alt l,U,ho,hd,hp,ht,hU=>by
   have LW:fo l+(l.length-1)<=90:=ht;have Sd:bM l<=40:=hp;simp only[Ni]at hU;refine⟨acU ho.1 (show lz l from hd) Sd (by omega) λf hf=>hU f (a1g _ hf),?_⟩;refine acS (n:=8080) (λf hf=>hU f (a1b _ hf)) ?_ (by rw[q9,a0B];omega) (by omega);intro x hx;rw[q9]at hx;obtain⟨e,he,rfl⟩:=a0s.1 hx;exact(Wn (IM ho.1 he) (by have:=Wo he;omega) (by have:=(yS he).2;omega)).size
 | .rep x lo hi,U,ho,hd,hp,ht,hU=>by
   have LW:jh x+gG lo hi<=90:=ht;simp only[Ni]at hU;have VW:dx x<=40:=by
    simp only[dx]at hp
    by_cases h:40<dx x
    ·rw[a0j h]at hp;omega
    omega
   have hpt:kJ x*times lo hi<=40:=by
    simp only[dx]at hp;rw[a0g (by omega)]at hp;rw[pV VW];exact hp
   exact⟨Ty ho.1 hd.1 VW (by omega) λf hf=>hU f (a1g _ hf),
    alE (uZ ho.1) (by rw[pV VW];exact VW) Fp hpt (by omega) ho.2 λf hf=>hU f (a1b _ hf)⟩
theorem acU:∀{l:List RX} {U:List NF},kv l->lz l->bM l<=40->fo l<=90->(∀f∈Wk l,f∈U)->xq U l
 | [],U,_,_,_,_,_=>trivial
 | x::r,U,ho,hd,hp,ht,hU=>by
   simp only[bM]at hp;simp only[fo]at ht;simp only[Wk]at hU;exact⟨Ty ho.1 hd.1 (by omega) (by omega) λf hf=>hU f (a1g _ hf),acU ho.2 hd.2 (by omega) (by omega) λf hf=>hU f (a1b _ hf)⟩
theorem acT:∀{l:List RX} {U:List NF},kv l->lz l->bM l<=40->fo l<=90->(∀f∈Wj l,f∈U)->xq U l/\Li U l
 | [],U,_,_,_,_,_=>⟨trivial,trivial⟩
 | x::r,U,ho,hd,hp,ht,hU=>by
   simp only[bM]at hp;simp only[fo]at ht;simp only[Wj]at hU;have h1:=acT (U:=U) ho.2 hd.2 (by omega) (by omega) λf hf=>hU f (a1g _ (a1b _ hf))
   exact⟨⟨Ty ho.1 hd.1 (by omega) (by omega) λf hf=>hU f (a1g _ (a1g _ hf)),h1.1⟩,λf hf=>hU f (a1b _ hf),h1.2⟩
end
mutual
def zX:RX->Nat
 | .one _=>1
 | .seq l=>uG l+1
 | .alt l=>uG l+1
 | .rep x _ _=>zX x+1
def uG:List RX->Nat
 | []=>0
 | x::r=>zX x+uG r
end
theorem IQ:∀(a b:List RX),uG (a++b)=uG a+uG b
 | [],b=>by simp[uG]
 | x::a,b=>by simp only[a0J,uG,IQ a b];omega
theorem Q8:∀{k:Nat} {x y:RX} {t r:LB},dF k x t=some (y,r)->zX y+r.length<=zX x+t.length
 | 0,x,y,t,r,h=>by simp[dF]at h
 | k+1,x,y,t,r,h=>by
   simp only[dF]at h
   split at h
   ·split at h
    ·simp at h
    rename_i b r' hb
    have h1:=BV hb;have h2:=tT b.1 b.2;have h3:=Q8 (k:=k) h;simp only[zX]at h3;omega
   simp only[Option.some.injEq,Prod.mk.injEq]at h;obtain⟨rfl,rfl⟩:=h;omega
mutual
theorem aeW:∀{k nest:Nat} {t r:LB} {x:RX},gz k nest t=some (x,r)->zX x+3*r.length<=3*t.length
 | 0,nest,t,r,x,h=>by simp[gz]at h
 | k+1,nest,[],r,x,h=>by simp[gz]at h
 | k+1,nest,c::q,r,x,h=>by
   simp only[gz]at h
   split at h
   ·split at h
    ·simp at h
    split at h
    ·simp at h
    rename_i x1 r1 h1
    have e:=Pw (acc:=[]) h1
    split at h
    ·rename_i hc
     have e2:=eH hc;simp at h;obtain⟨rfl,rfl⟩:=h;simp only[uG,a0o]at e |-;simp only[List.length_tail]at e2;simp;omega
    simp at h
   split at h
   ·split at h
    ·simp at h
    rename_i h1
    have e:=Fs h1;simp at h;obtain⟨rfl,rfl⟩:=h;simp only[zX,a0o];omega
   split at h
   ·simp at h
    obtain⟨rfl,rfl⟩:=h;simp only[zX,a0o];omega
   split at h
   ·cases q with
    | nil=>simp at h
    | cons d q2 =>
      simp at h;obtain⟨rfl,rfl⟩:=h;simp only[zX,a0o];omega
   split at h
   ·simp at h
   simp at h;obtain⟨rfl,rfl⟩:=h;simp only[zX,a0o];omega
theorem ZE:∀{k nest:Nat} {acc:List RX} {t r:LB} {x:RX},iT k nest acc t=some (x,r)->zX x+3*r.length<=1+uG acc+3*t.length
 | 0,nest,acc,t,r,x,h=>by simp[iT]at h
 | k+1,nest,acc,t,r,x,h=>by
   simp only[iT]at h
   split at h
   ·simp at h
    obtain⟨rfl,rfl⟩:=h;simp only[zX];omega
   split at h
   ·simp at h
   rename_i x1 r1 h1
   have e1:=aeW h1
   split at h
   ·simp at h
   rename_i y r2 h2
   have e2:=Q8 h2;have e3:=ZE (acc:=acc++[y]) h;have e4:=(vD h2).2;rw[IQ]at e3;simp only[uG]at e3;omega
theorem Pw:∀{k nest:Nat} {acc:List RX} {t r:LB} {x:RX},gX k nest acc t=some (x,r)->zX x+3*r.length<=2+uG acc+3*t.length
 | 0,nest,acc,t,r,x,h=>by simp[gX]at h
 | k+1,nest,acc,t,r,x,h=>by
   simp only[gX]at h
   split at h
   ·simp at h
   rename_i x1 r1 h1
   have e1:=ZE (acc:=[]) h1;simp only[uG]at e1
   split at h
   ·rename_i hc
    have e2:=eH hc;have e3:=Pw (acc:=acc++[x1]) h;rw[IQ]at e3;simp only[uG]at e3;omega
   simp at h;obtain⟨rfl,rfl⟩:=h;simp only[zX,IQ,uG];omega
end
theorem acV {x:RX}(h:fD t=some x):zX x<=3*t.length+2:=by
 unfold fD at h
 split at h
 ·rename_i y h1
  simp at h;subst h;have:=Pw (acc:=[]) h1;simp only[uG]at this;omega
 simp at h
mutual
theorem Nj:∀{e:RX},vV e->rM e->dx e<=40->jh e<=90->(Ni e).length+40<=1000*zX e
 | .one s,ho,hd,hp,ht=>by simp[Ni,zX]
 | .seq l,ho,hd,hp,ht=>by
   have:=ZF (show kv l from ho) (show lz l from hd) (show bM l<=40 from hp) (show fo l<=90 from ht);simp only[Ni,zX];omega
 | .alt l,ho,hd,hp,ht=>by
   have LW:fo l+(l.length-1)<=90:=ht;have h1:=ZG ho.1 (show lz l from hd) (show bM l<=40 from hp) (by omega);simp only[Ni,zX,a0v];simp[Nh];omega
 | .rep x lo hi,ho,hd,hp,ht=>by
   have LW:jh x+gG lo hi<=90:=ht;have VW:dx x<=40:=by
    simp only[dx]at hp
    by_cases h:40<dx x
    ·rw[a0j h]at hp;omega
    omega
   have h1:=Nj ho.1 hd.1 VW (by omega);have h2:=aeV (Wn ho.1 VW (by omega)) hd.2.1 hd.2.2;simp only[Ni,zX,a0v];omega
theorem ZG:∀{l:List RX},kv l->lz l->bM l<=40->fo l<=90->(Wk l).length<=1000*uG l
 | [],_,_,_,_=>by simp[Wk]
 | x::r,ho,hd,hp,ht=>by
   simp only[bM]at hp;simp only[fo]at ht;have h1:=Nj ho.1 hd.1 (by omega) (by omega);have h2:=ZG ho.2 hd.2 (by omega) (by omega);simp only[Wk,uG,a0v];omega
theorem ZF:∀{l:List RX},kv l->lz l->bM l<=40->fo l<=90->(Wj l).length<=1000*uG l
 | [],_,_,_,_=>by simp[Wj]
 | x::r,ho,hd,hp,ht=>by
   simp only[bM]at hp;simp only[fo]at ht;have h1:=Nj ho.1 hd.1 (by omega) (by omega);have h2:=ZF ho.2 hd.2 (by omega) (by omega);have h3:=Wl (bn x) (sF r) (uZ ho.1).1.1;have h4:=(Wn ho.1 (show dx x<=40 by omega) (by omega)).cl;simp only[Wj,uG,a0v];omega
end
set_option linter.unusedVariables false
set_option linter.unusedSimpArgs false
def Gj(X:NF)(St:List LN)(v:LN):Nat:=St.findIdx λu=>name (dW X u)==name (dW X v)
def rQ(X:NF)(w:LN):LN->List LN->LN->Bool × List LN × LN
 | [],St,nx=>(true,St,nx)
 | c::F,St,nx=>if Gj X St (w++[c])=40 then (false,St,nx) else rQ X w F (if Gj X St (w++[c])=St.length then St++[w++[c]] else St) (nx++[Gj X St (w++[c])])
def yu(X:NF)(F:LN):Nat->Nat->List LN->LN->Bool × List LN × LN
 | 0,_,St,nx=>(true,St,nx)
 | k+1,i,St,nx=>match St[i]? with
   | none=>(true,St,nx)
   | some w=>match rQ X w F St nx with
     | (false,r)=>(false,r)
     | (true,St',nx')=>yu X F k (i+1) St' nx'
def qR(X:NF)(F:LN):Bool × List LN × LN:=yu X F 41 0 [[]] []
theorem alF(X:NF)(St:List LN)(v:LN):Gj X St v<=St.length:=List.findIdx_le_length
def WB(St:List LN):Prop:=St.length<=40/\∀(j:Nat) (u:LN),St[j]?=some u->u.length<=j
theorem WB.one:WB [[]]:=by
 refine⟨by simp,λj u h=>?_⟩;cases j with
 | zero=>simp at h;subst h;simp
 | succ j=>simp at h
theorem WB.add {St:List LN} {w:LN}{c:Nat}(h:WB St)(hi:St[i]?=some w)(hl:St.length≠40):WB (St++[w++[c]]):=by
 have h1:=h.1;have h2:=h.2 i w hi;have h3:=(a0i.1 hi).1;refine⟨by simp;omega,λj u hj=>?_⟩
 by_cases aO:j<St.length
 ·rw[a0u aO]at hj;exact h.2 j u hj
 rw[a0R (by omega)]at hj;have:j-St.length=0:=by
  rcases Nat.eq_zero_or_pos (j-St.length) with e|e
  ·exact e
  rw[a1W (by simp;omega)]at hj;simp at hj
 rw[this]at hj;simp at hj;subst hj;simp;omega
theorem Px(X:NF)(w:LN):∀(F:LN) (St:List LN) (nx:LN),St <+: (rQ X w F St nx).2.1
 | [],St,nx=>a2K _
 | c::F,St,nx=>by
   unfold rQ
   split
   ·exact a2K _
   refine List.IsPrefix.trans ?_ (Px X w F _ _)
   split
   ·exact a2U _ _
   exact a2K _
theorem Gl {a b:List α}(h:a <+: b) {x:α}(hi:a[i]?=some x):b[i]?=some x:=by
 obtain⟨t,rfl⟩:=h;rw[a0u (a0i.1 hi).1];exact hi
theorem acW(X:NF)(w:LN)(i:Nat):∀(F:LN) (St:List LN) (nx:LN),WB St->St[i]?=some w->WB (rQ X w F St nx).2.1
 | [],St,nx,h,_=>h
 | c::F,St,nx,h,hi=>by
   unfold rQ
   split
   ·exact h
   rename_i bL
   refine acW X w i F _ _ ?_ ?_
   ·split
    ·rename_i he;exact h.add hi (by rw[he]at bL;exact bL)
    exact h
   split
   ·exact Gl (a2U _ _) hi
   exact hi
theorem ZH(X:NF)(F:LN):∀(k i:Nat) (St:List LN) (nx:LN),St <+: (yu X F k i St nx).2.1
 | 0,i,St,nx=>a2K _
 | k+1,i,St,nx=>by
   unfold yu
   split
   ·exact a2K _
   rename_i w hw
   have h:=Px X w F St nx
   split
   ·rename_i r hr;rw[hr]at h;exact h
   rename_i St' nx' hr;rw[hr]at h;exact h.trans (ZH X F k (i+1) St' nx')
theorem acX(X:NF)(F:LN):∀(k i:Nat) (St:List LN) (nx:LN),WB St->WB (yu X F k i St nx).2.1
 | 0,i,St,nx,h=>h
 | k+1,i,St,nx,h=>by
   unfold yu
   split
   ·exact h
   rename_i w hw
   have h1:=acW X w i F St nx h hw
   split
   ·rename_i r hr;rw[hr]at h1;exact h1
   rename_i St' nx' hr;rw[hr]at h1;exact acX X F k (i+1) St' nx' h1
theorem acY(X:NF)(F:LN):WB (qR X F).2.1:=acX X F 41 0 [[]] [] WB.one
def Ay(e:RX)(F:LN):List NF:=[.zero,.one]++Ni e++(qR (bn e) F).2.1.flatMap λw=>F.flatMap λc=>Ff (bn e) w c
theorem acZ(f:α->List β)(n:Nat)(l:List α)(h:∀a∈l,(f a).length<=n):(l.flatMap f).length<=l.length*n:=Aw f n l h
theorem ahg(ho:vV e)(hd:rM e)(hp:dx e<=40)(ht:jh e<=40)(hn:zX e<=200)(hF:F.length<=256):(Ay e F).length<=1000000000000:=by
 have h1:=Nj ho hd hp (by omega);have bR:kJ e<=40:=by rw[pV hp];exact hp
 have hb:=Kj ho bR ht;have Gm:=acY (bn e) F;have h2:∀w∈(qR (bn e) F).2.1,(F.flatMap λc=>Ff (bn e) w c).length<=16256204800:=by
  intro w hw;obtain⟨j,hj⟩:=a3h hw;have hl:=Gm.2 j w hj;have qM:=(a0i.1 hj).1;have h3:=acZ (λc=>Ff (bn e) w c) (121*524800) F (λc hc=>a0e (aed (bn e) w c (by have:=Gm.1;omega)) (a0m _ hb));have h4:F.length*(121*524800)<=256*(121*524800):=a0w _ hF;omega
 have h5:=acZ (λw=>F.flatMap λc=>Ff (bn e) w c) 16256204800 (qR (bn e) F).2.1 h2;have h6:(qR (bn e) F).2.1.length*16256204800<=40*16256204800:=a0w _ Gm.1;unfold Ay;simp only[a0v,a0o,a1f];omega
theorem ahh:∀f∈Ni e,f∈Ay e F:=λf hf=>by unfold Ay;simp[hf]
theorem ahi:NF.zero∈Ay e F/\NF.one∈Ay e F:=by unfold Ay;simp
theorem aeX(ho:vV e)(hp:dx e<=40)(ht:jh e<=40) {w:LN}(hw:w∈(qR (bn e) F).2.1) {c:Nat}(hc:c∈F):Cc c (Ay e F) (dW (bn e) w):=by
 have bR:kJ e<=40:=by rw[pV hp];exact hp
 have hb:=Kj ho bR ht;have Gm:=acY (bn e) F;obtain⟨j,hj⟩:=a3h hw;have hl:=Gm.2 j w hj;have qM:=(a0i.1 hj).1;have hB:=uZ ho;have hs:(bn e).size<=3280:=by
  by_cases h0:kJ e=0
  ·rw[hB.2.1 h0];simp[NF.size]
  have h1:=(hB.2.2 (by omega)).sz;have h2:2*kJ e*(jh e+1)<=2*40*41:=a0E (by omega) (by omega);omega
 refine agL hB.1 hs hb (by have:=Gm.1;omega) (λf hf=>?_) (dW (bn e) w) (Ig (eP (bn e)) (List.suffix_refl w));unfold Ay;refine a0b.2 (.inr (a0U.2 ⟨w,hw,a0U.2 ⟨c,hc,abQ hf⟩⟩))
open Go.RowKit
theorem ajw(X:NF)(St:List LN)(v:LN):(ma (St.map λu=>name (dW X u)) (name (dW X v))<0/\Gj X St v=St.length)\/(0<=ma (St.map λu=>name (dW X u)) (name (dW X v))/\Gj X St v<St.length):=by
 unfold ma Gj;rw[List.findIdx?_map];cases hf:List.findIdx? ((λx=>x==name (dW X v)) ∘ λu=>name (dW X u)) St with
 | none =>
   left
   refine⟨by simp,?_⟩;rw[a2k]at hf;rw[a2V];intro x hx;exact hf x hx
 | some i =>
   right
   refine⟨by simp,?_⟩;rw[a1S]at hf;obtain⟨hi,h1,_⟩:=hf;rw[List.findIdx_lt_length];exact⟨St[i],a0z hi,h1⟩
theorem anF {X:NF}(h:WC X):∀u:LN,WC (dW X u)
 | u=>by
   have key:∀(u:LN) (y:NF),WC y->WC (dW y u):=by
    intro u
    induction u with
    | nil=>intro y hy;exact hy
    | cons a r ih=>intro y hy;exact ih _ (hy.left a)
   exact key u X h
theorem ahj(h:fD t=some e)(ht:t.length<=40)(hp:dx e<=40)(u:LN)(hu:u.length<=39)(c:Nat) :
 WC (dW (bn e) u)/\vH c (dW (bn e) u)/\nl (left c (dW (bn e) u))<9223372036854775807:=by
 have hg:=yz h;have wX:WC (bn e):=tJ hg.1;have hs:=Kj hg.1 (by rw[pV hp];exact hp) (by omega);refine⟨anF wX u,ag8 wX hs (u:=u) (by omega) c _ (.inr (.inr (Ig (eP _) (List.suffix_refl u)))),?_⟩;rw[<-su];exact acR h ht hp (u++[c]) (by simp;omega)
def wd(s i:Nat):Nat:=s / 2 ^ (64*i) % 2 ^ 64
theorem iL(s i:Nat):wd s i<18446744073709551616:=Nat.mod_lt _ (by decide)
theorem xu(s q r:Nat)(hr:r<64):(wd s q).testBit r=s.testBit (64*q+r):=by
 unfold wd;rw[Nat.testBit_mod_two_pow,Nat.testBit_div_two_pow];simp[hr,a2m]
def bv(s:Nat):Value:=.agg #[.int .u64 (wd s 0),.int .u64 (wd s 1),.int .u64 (wd s 2),.int .u64 (wd s 3)]
theorem xL(w r:Nat)(hw:w<18446744073709551616):(Go.bits BinOp.and IntKind.u64 ((w:Int) / 2 ^ r) 1==1)=w.testBit r:=by
 have h1:((w:Int) / 2 ^ r)=((w / 2 ^ r:Nat):Int):=by simp
 have h2:w / 2 ^ r<18446744073709551616:=a2j (Nat.div_le_self _ _) hw;rw[h1,show(1:Int)=((1:Nat):Int) from rfl,bits_and_u64_nat _ _ h2 (by decide),Nat.testBit_eq_decide_div_mod_eq,Nat.and_one_is_mod];rw[a0P];simp;omega
theorem ac0(w0 w1 w2 w3:Nat)(q r:Nat)(w:World)(hq:q<4)(hr:r<64)(h0:w0<18446744073709551616)(h1:w1<18446744073709551616)(h2:w2<18446744073709551616)(h3:w3<18446744073709551616) :
 Calls Tryz.prog 127 #[.agg #[.int .u64 w0,.int .u64 w1,.int .u64 w2,.int .u64 w3],.int .u8 (64*q+r:Nat)] w λe w'=>e=.returned (.bool ((if q=0 then w0 else if q=1 then w1 else if q=2 then w2 else w3).testBit r))/\aA [] w w':=by
 have hd:((64*q+r:Nat):Int).tdiv 64=q:=by rw[a2D (by omega)];omega
 have hm:((64*q+r:Nat):Int).tmod 64=r:=by rw[a2f (by omega)];omega
 have aO:64*q+r<256:=by omega
 generalize 64*q+r=c at *;rcases(by omega:q=0\/q=1\/q=2\/q=3) with rfl|rfl|rfl|rfl
 ·go_enter Tryz.func127,Tryz.ntmps127
  go_wp2;go_ret;exact⟨by rw[<-xL _ _ h0];rfl,(aA.refl _ _).alloc _⟩
 ·go_enter Tryz.func127,Tryz.ntmps127
  go_wp2;go_ret;exact⟨by rw[<-xL _ _ h1];rfl,(aA.refl _ _).alloc _⟩
 ·go_enter Tryz.func127,Tryz.ntmps127
  go_wp2;go_ret;exact⟨by rw[<-xL _ _ h2];rfl,(aA.refl _ _).alloc _⟩
 go_enter Tryz.func127,Tryz.ntmps127
 go_wp2;go_ret;exact⟨by rw[<-xL _ _ h3];rfl,(aA.refl _ _).alloc _⟩
theorem ahk(s:Nat)(c:Nat)(w:World)(hc:c<256) :
 Calls Tryz.prog 127 #[bv s,.int .u8 c] w λe w'=>e=.returned (.bool (s.testBit c))/\aA [] w w':=by
 have h:=ac0 (wd s 0) (wd s 1) (wd s 2) (wd s 3) (c / 64) (c % 64) w (by omega) (Nat.mod_lt _ (by decide)) (iL _ _) (iL _ _) (iL _ _) (iL _ _);rw[show 64*(c / 64)+c % 64=c by omega]at h;have e:(if c / 64=0 then wd s 0 else if c / 64=1 then wd s 1 else if c / 64=2 then wd s 2 else wd s 3).testBit (c % 64)=s.testBit c:=by
  have h1:c / 64<4:=by omega
  have key:(wd s (c / 64)).testBit (c % 64)=s.testBit c:=by
   rw[xu _ _ _ (Nat.mod_lt _ (by decide)),show 64*(c / 64)+c % 64=c by omega]
  rw[<-key];rcases(by omega:c / 64=0\/c / 64=1\/c / 64=2\/c / 64=3) with h|h|h|h<;>simp[h]
 rw[e]at h;exact h
def SB(w:World)(b:Nat)(w0 w1 w2 w3:Int):Prop:=w.heap[b]?=some (.cells #[.int .u64 w0,.int .u64 w1,.int .u64 w2,.int .u64 w3] 192 (0,0))
theorem SB.new(hb:b=w.heap.size):SB (w.alloc (Obj.cells #[.int .u64 w0,.int .u64 w1,.int .u64 w2,.int .u64 w3] 192)) b w0 w1 w2 w3:=by
 subst hb;exact bK w _
theorem SB.cells(h:SB w b w0 w1 w2 w3) :
 w.cell? ⟨b,0,none⟩=some (.int .u64 w0)/\w.cell? ⟨b,1,none⟩=some (.int .u64 w1)/\w.cell? ⟨b,2,none⟩=some (.int .u64 w2)/\w.cell? ⟨b,3,none⟩=some (.int .u64 w3):=by
 unfold SB at h;refine⟨?_,?_,?_,?_⟩<;>simp[World.cell?,h]
theorem SB.fz(h:SB w b w0 w1 w2 w3)(o:Nat):w.frozen? ⟨b,o,none⟩=false:=by
 unfold SB at h;simp[World.frozen?,h]
theorem SB.lt(h:SB w b w0 w1 w2 w3):b<w.heap.size:=(a0d.1 h).1
theorem SB.aB(h:SB w b w0 w1 w2 w3)(f:aA S w w')(hS:b∉S):SB w' b w0 w1 w2 w3:=(f.block b h.lt hS).trans h
theorem SB.drew(h:SB w b w0 w1 w2 w3):SB w.drew b w0 w1 w2 w3:=h
theorem SB.set0(h:SB w b w0 w1 w2 w3)(v:Int):SB (w.setCell ⟨b,0,none⟩ (.int .u64 v)) b v w1 w2 w3:=by
 unfold SB at h |-;simp[World.setCell,h,a0t]
theorem SB.set1(h:SB w b w0 w1 w2 w3)(v:Int):SB (w.setCell ⟨b,1,none⟩ (.int .u64 v)) b w0 v w2 w3:=by
 unfold SB at h |-;simp[World.setCell,h,a0t]
theorem SB.set2(h:SB w b w0 w1 w2 w3)(v:Int):SB (w.setCell ⟨b,2,none⟩ (.int .u64 v)) b w0 w1 v w3:=by
 unfold SB at h |-;simp[World.setCell,h,a0t]
theorem SB.ac1(h:SB w b w0 w1 w2 w3)(v:Int):SB (w.setCell ⟨b,3,none⟩ (.int .u64 v)) b w0 w1 w2 v:=by
 unfold SB at h |-;simp[World.setCell,h,a0t]
theorem SB.far{b' o:Nat}(h:SB w b w0 w1 w2 w3)(v:Value)(hb:b≠b'):SB (w.setCell ⟨b',o,none⟩ v) b w0 w1 w2 w3:=by
 unfold SB at h |-;rw[Below.heap_setCell _ _ _ _ hb];exact h
theorem SB.load(h:SB w b w0 w1 w2 w3):(loadVar 192 ⟨b,0,none⟩).run Tryz.prog w=.ok (.agg #[.int .u64 w0,.int .u64 w1,.int .u64 w2,.int .u64 w3]) w:=by
 obtain⟨h0,h1,h2,h3⟩:=h.cells;simp[go_sem,h0,h1,h2,h3]
theorem SI(h:SB w b w0 w1 w2 w3)(h4:tmps.getD 4 undef=.pointer (some ⟨b,0,none⟩)) :
 (results Tryz.f131 tmps).run Tryz.prog w=.ok (.agg #[.int .u64 w0,.int .u64 w1,.int .u64 w2,.int .u64 w3]) w:=by
 have h4':tmps[4]?.getD undef=.pointer (some ⟨b,0,none⟩):=by simpa using h4
 simp only[results,Tryz.results131];simp[Sem.run_bind,Result.andThen,h4',asAddr,h.load]
theorem Wp(s t i:Nat):wd (s ||| t) i=wd s i ||| wd t i:=by
 apply a1D;intro k
 by_cases hk:k<64
 ·rw[a2y,xu _ _ _ hk,xu _ _ _ hk,xu _ _ _ hk,a2y]
 have hl:∀x,(wd x i).testBit k=false:=λx=>a1B (a0x (iL x i) (by rw[show(18446744073709551616:Nat)=2 ^ 64 by decide];exact a1r (by omega) (by omega)))
 rw[a2y,hl,hl,hl];rfl
def jz(k i a b:Nat):Int:=if i<k then ((a ||| b:Nat):Int) else (a:Int)
theorem ac2(s t:Nat)(w:World)(hs:s<2 ^ 256)(ht:t<2 ^ 256) :
 Calls Tryz.prog 131 #[bv s,bv t] w λe w'=>e=.returned (bv (s ||| t))/\aA [] w w':=by
 unfold bv;have E0:=aj (Wp s t 0);have E1:=aj (Wp s t 1);have E2:=aj (Wp s t 2);have E3:=aj (Wp s t 3);have l0:=iL s 0;have l1:=iL s 1;have l2:=iL s 2;have l3:=iL s 3;have m0:=iL t 0;have m1:=iL t 1;have m2:=iL t 2;have m3:=iL t 3;generalize wd s 0=s0 at *;generalize wd s 1=s1 at *;generalize wd s 2=s2 at *;generalize wd s 3=s3 at *;generalize wd t 0=t0 at *;generalize wd t 1=t1 at *;generalize wd t 2=t2 at *;generalize wd t 3=t3 at *;go_enter Tryz.func131,Tryz.ntmps131
 go_wp2_with fail
 go_loopg [6] 4 (λk vi wr=>∃(j:Nat),j+k=4/\vi=.int .i64 j/\SB wr w.heap.size (jz j 0 s0 t0) (jz j 1 s1 t1) (jz j 2 s2 t2) (jz j 3 s3 t3)/\SB wr (w.heap.size+1) t0 t1 t2 t3/\SB wr (w.heap.size+1+1) 0 0 0 0/\aA [] w wr)
 case atStart=>exact⟨0,by omega,rfl,(SB.new (b:=w.heap.size) rfl).aB (S:=[]) (((aA.refl _ _).alloc _).alloc _) (by simp),(SB.new (by simp)).aB (S:=[]) ((aA.refl _ _).alloc _) (by simp),SB.new (by simp),(((aA.refl _ _).alloc _).alloc _).alloc _⟩
 case round =>
  obtain⟨j,hj,rfl,h0,h1,h2,hf⟩:=hrel;have F:=aj hf;clear hf;rcases(by omega:j=0\/j=1\/j=2\/j=3\/j=4) with rfl|rfl|rfl|rfl|rfl
  ·simp only[jz,a1s,Nat.reduceLT,a0C,a0G]at h0
   obtain⟨c0,c1,c2,c3⟩:=h0.cells;obtain⟨d0,d1,d2,d3⟩:=h1.cells;have z:=h0.fz;have H0:=aj h0;have H1:=aj h1;have H2:=aj h2;clear h0 h1 h2;go_wp2_with fail
   go_region
   go_wp2;go_roundg 3
   case measure=>omega
   case rel =>
    refine⟨1,by omega,by go_num,?_,(H1.o.far _ (by omega)).drew,(H2.o.far _ (by omega)).drew,(F.o.setCell (.inr (a0a _)) _).drew⟩;have:=(H0.o.set0 (Go.bits BinOp.or IntKind.u64 s0 t0)).drew;rw[bits_or_u64_nat _ _ l0 m0]at this |-;simpa only[jz,a1s,Nat.reduceLT,a0C,a0G] using this
  ·simp only[jz,a1s,Nat.reduceLT,a0C,a0G]at h0
   obtain⟨c0,c1,c2,c3⟩:=h0.cells;obtain⟨d0,d1,d2,d3⟩:=h1.cells;have z:=h0.fz;have H0:=aj h0;have H1:=aj h1;have H2:=aj h2;clear h0 h1 h2;go_wp2_with fail
   go_region
   go_wp2;go_roundg 2
   case measure=>omega
   case rel =>
    refine⟨2,by omega,by go_num,?_,(H1.o.far _ (by omega)).drew,(H2.o.far _ (by omega)).drew,(F.o.setCell (.inr (a0a _)) _).drew⟩;have:=(H0.o.set1 (Go.bits BinOp.or IntKind.u64 s1 t1)).drew;rw[bits_or_u64_nat _ _ l1 m1]at this |-;simpa only[jz,a1s,Nat.reduceLT,a0C,a0G] using this
  ·simp only[jz,a1s,Nat.reduceLT,a0C,a0G]at h0
   obtain⟨c0,c1,c2,c3⟩:=h0.cells;obtain⟨d0,d1,d2,d3⟩:=h1.cells;have z:=h0.fz;have H0:=aj h0;have H1:=aj h1;have H2:=aj h2;clear h0 h1 h2;go_wp2_with fail
   go_region
   go_wp2;go_roundg 1
   case measure=>omega
   case rel =>
    refine⟨3,by omega,by go_num,?_,(H1.o.far _ (by omega)).drew,(H2.o.far _ (by omega)).drew,(F.o.setCell (.inr (a0a _)) _).drew⟩;have:=(H0.o.set2 (Go.bits BinOp.or IntKind.u64 s2 t2)).drew;rw[bits_or_u64_nat _ _ l2 m2]at this |-;simpa only[jz,a1s,Nat.reduceLT,a0C,a0G] using this
  ·simp only[jz,a1s,Nat.reduceLT,a0C,a0G]at h0
   obtain⟨c0,c1,c2,c3⟩:=h0.cells;obtain⟨d0,d1,d2,d3⟩:=h1.cells;have z:=h0.fz;have H0:=aj h0;have H1:=aj h1;have H2:=aj h2;clear h0 h1 h2;go_wp2_with fail
   go_region
   go_wp2;go_roundg 0
   case measure=>omega
   case rel =>
    refine⟨4,by omega,by go_num,?_,(H1.o.far _ (by omega)).drew,(H2.o.far _ (by omega)).drew,(F.o.setCell (.inr (a0a _)) _).drew⟩;have:=(H0.o.ac1 (Go.bits BinOp.or IntKind.u64 s3 t3)).drew;rw[bits_or_u64_nat _ _ l3 m3]at this |-;simpa only[jz,a1s,Nat.reduceLT,a0C,a0G] using this
  simp only[jz,a1s,Nat.reduceLT,a0C,a0G]at h0;obtain⟨c0,c1,c2,c3⟩:=h0.cells;obtain⟨y0,y1,y2,y3⟩:=h2.cells;have y4:=h2.fz;have H2:=aj h2;clear h0 h1 h2;go_wp2;refine bodyPost_ret (SI (b:=w.heap.size+1+1) ((((H2.o.set0 _).set1 _).set2 _).ac1 _) (by rfl)) rfl ?_;refine⟨by rw[E0.o,E1.o,E2.o,E3.o],?_⟩;exact(((F.o.setCell (.inr (by simp;omega)) _).setCell (.inr (by simp;omega)) _).setCell (.inr (by simp;omega)) _).setCell (.inr (by simp;omega)) _
def afW(s:Nat):Nat:=s ^^^ (2 ^ 256-1)
theorem ajx(i:Nat)(hi:i<4):wd (2 ^ 256-1) i=18446744073709551615:=by
 rcases(by omega:i=0\/i=1\/i=2\/i=3) with rfl|rfl|rfl|rfl<;>decide +kernel
theorem alG(s t i:Nat):wd (s ^^^ t) i=wd s i ^^^ wd t i:=by
 apply a1D;intro k
 by_cases hk:k<64
 ·rw[a2p,xu _ _ _ hk,xu _ _ _ hk,xu _ _ _ hk,a2p]
 have hl:∀x,(wd x i).testBit k=false:=λx=>a1B (a0x (iL x i) (by rw[show(18446744073709551616:Nat)=2 ^ 64 by decide];exact a1r (by omega) (by omega)))
 rw[a2p,hl,hl,hl];rfl
theorem Nk(s i:Nat)(hi:i<4):wd (afW s) i=18446744073709551615-wd s i:=by
 unfold afW;rw[alG,ajx i hi];have h:=iL s i;generalize wd s i=x at *;rw[show(18446744073709551615:Nat)=2 ^ 64-1 by decide];apply a1D;intro k;rw[a2p,a3d];rw[show 2 ^ 64-1-x=2 ^ 64-(x+1) by omega,Nat.testBit_two_pow_sub_succ (by rw[show(2:Nat) ^ 64=18446744073709551616 by decide];exact h)]
 by_cases hk:k<64
 ·simp[hk]
 have:x.testBit k=false:=a1B (a0x h (by rw[show(18446744073709551616:Nat)=2 ^ 64 by decide];exact a1r (by omega) (by omega)));simp[hk,this]
theorem ahl(x:Nat)(h:x<18446744073709551616):18446744073709551615 ^^^ x=18446744073709551615-x:=by
 rw[show(18446744073709551615:Nat)=2 ^ 64-1 by decide];apply a1D;intro k;rw[a2p,a3d];rw[show 2 ^ 64-1-x=2 ^ 64-(x+1) by omega,Nat.testBit_two_pow_sub_succ (by rw[show(2:Nat) ^ 64=18446744073709551616 by decide];exact h)]
 by_cases hk:k<64
 ·simp[hk]
 have:x.testBit k=false:=a1B (a0x h (by rw[show(18446744073709551616:Nat)=2 ^ 64 by decide];exact a1r (by omega) (by omega)));simp[hk,this]
theorem Nl(x:Nat)(h:x<18446744073709551616):Go.bits BinOp.xor IntKind.u64 IntKind.u64.max (x:Int)=((18446744073709551615-x:Nat):Int):=by
 rw[show IntKind.u64.max=((18446744073709551615:Nat):Int) by decide,bits_xor_u64_nat _ _ (by decide) h,ahl x h]
theorem SK(h:SB w b w0 w1 w2 w3)(h4:tmps.getD 2 undef=.pointer (some ⟨b,0,none⟩)) :
 (results Tryz.f139 tmps).run Tryz.prog w=.ok (.agg #[.int .u64 w0,.int .u64 w1,.int .u64 w2,.int .u64 w3]) w:=by
 have h4':tmps[2]?.getD undef=.pointer (some ⟨b,0,none⟩):=by simpa using h4
 simp only[results,Tryz.results139];simp[Sem.run_bind,Result.andThen,h4',asAddr,h.load]
def oz(k i a:Nat):Int:=if i<k then ((18446744073709551615-a:Nat):Int) else (a:Int)
theorem Q9(s:Nat)(w:World) :
 Calls Tryz.prog 139 #[bv s] w λe w'=>e=.returned (bv (afW s))/\aA [] w w':=by
 unfold bv;have E0:=aj (Nk s 0 (by omega));have E1:=aj (Nk s 1 (by omega));have E2:=aj (Nk s 2 (by omega));have E3:=aj (Nk s 3 (by omega));have l0:=iL s 0;have l1:=iL s 1;have l2:=iL s 2;have l3:=iL s 3;generalize wd s 0=s0 at *;generalize wd s 1=s1 at *;generalize wd s 2=s2 at *;generalize wd s 3=s3 at *;go_enter Tryz.func139,Tryz.ntmps139
 go_wp2_with fail
 go_loopg [4] 4 (λk vi wr=>∃(j:Nat),j+k=4/\vi=.int .i64 j/\SB wr w.heap.size (oz j 0 s0) (oz j 1 s1) (oz j 2 s2) (oz j 3 s3)/\SB wr (w.heap.size+1) 0 0 0 0/\aA [] w wr)
 case atStart=>exact⟨0,by omega,rfl,(SB.new (b:=w.heap.size) rfl).aB (S:=[]) ((aA.refl _ _).alloc _) (by simp),SB.new (by simp),((aA.refl _ _).alloc _).alloc _⟩
 case round =>
  obtain⟨j,hj,rfl,h0,h2,hf⟩:=hrel;have F:=aj hf;clear hf;rcases(by omega:j=0\/j=1\/j=2\/j=3\/j=4) with rfl|rfl|rfl|rfl|rfl
  ·simp only[oz,a1s,Nat.reduceLT,a0C,a0G]at h0
   obtain⟨c0,c1,c2,c3⟩:=h0.cells;have z:=h0.fz;have H0:=aj h0;have H2:=aj h2;clear h0 h2;go_wp2;go_roundg 3
   case measure=>omega
   case rel =>
    refine⟨1,by omega,by go_num,?_,(H2.o.far _ (by omega)),(F.o.setCell (.inr (a0a _)) _)⟩;have:=H0.o.set0 (Go.bits BinOp.xor IntKind.u64 IntKind.u64.max s0);rw[Nl _ l0]at this |-;simpa only[oz,a1s,Nat.reduceLT,a0C,a0G] using this
  ·simp only[oz,a1s,Nat.reduceLT,a0C,a0G]at h0
   obtain⟨c0,c1,c2,c3⟩:=h0.cells;have z:=h0.fz;have H0:=aj h0;have H2:=aj h2;clear h0 h2;go_wp2;go_roundg 2
   case measure=>omega
   case rel =>
    refine⟨2,by omega,by go_num,?_,(H2.o.far _ (by omega)),(F.o.setCell (.inr (a0a _)) _)⟩;have:=H0.o.set1 (Go.bits BinOp.xor IntKind.u64 IntKind.u64.max s1);rw[Nl _ l1]at this |-;simpa only[oz,a1s,Nat.reduceLT,a0C,a0G] using this
  ·simp only[oz,a1s,Nat.reduceLT,a0C,a0G]at h0
   obtain⟨c0,c1,c2,c3⟩:=h0.cells;have z:=h0.fz;have H0:=aj h0;have H2:=aj h2;clear h0 h2;go_wp2;go_roundg 1
   case measure=>omega
   case rel =>
    refine⟨3,by omega,by go_num,?_,(H2.o.far _ (by omega)),(F.o.setCell (.inr (a0a _)) _)⟩;have:=H0.o.set2 (Go.bits BinOp.xor IntKind.u64 IntKind.u64.max s2);rw[Nl _ l2]at this |-;simpa only[oz,a1s,Nat.reduceLT,a0C,a0G] using this
  ·simp only[oz,a1s,Nat.reduceLT,a0C,a0G]at h0
   obtain⟨c0,c1,c2,c3⟩:=h0.cells;have z:=h0.fz;have H0:=aj h0;have H2:=aj h2;clear h0 h2;go_wp2;go_roundg 0
   case measure=>omega
   case rel =>
    refine⟨4,by omega,by go_num,?_,(H2.o.far _ (by omega)),(F.o.setCell (.inr (a0a _)) _)⟩;have:=H0.o.ac1 (Go.bits BinOp.xor IntKind.u64 IntKind.u64.max s3);rw[Nl _ l3]at this |-;simpa only[oz,a1s,Nat.reduceLT,a0C,a0G] using this
  simp only[oz,a1s,Nat.reduceLT,a0C,a0G]at h0;obtain⟨c0,c1,c2,c3⟩:=h0.cells;obtain⟨y0,y1,y2,y3⟩:=h2.cells;have y4:=h2.fz;have H2:=aj h2;clear h0 h2;go_wp2;refine bodyPost_ret (SK (b:=w.heap.size+1) ((((H2.o.set0 _).set1 _).set2 _).ac1 _) (by rfl)) rfl ?_;refine⟨by rw[E0.o,E1.o,E2.o,E3.o],?_⟩;exact(((F.o.setCell (.inr (by simp)) _).setCell (.inr (by simp)) _).setCell (.inr (by simp)) _).setCell (.inr (by simp)) _
def ny(s f:Nat):Nat->Nat
 | 0=>s
 | k+1=>ny s f k ||| 2 ^ (f+k)
theorem alH(c i:Nat)(hi:i<4)(hc:c<256):wd (2 ^ c) i=if i=c / 64 then 2 ^ (c % 64) else 0:=by
 apply a1D;intro k
 by_cases hk:k<64
 ·rw[xu _ _ _ hk,a2M]
  by_cases h:i=c / 64
  ·rw[a0j h,a2M]
   congr 1;apply propext;omega
  rw[a0g h];simp;omega
 have hp:(2:Nat) ^ 64<=2 ^ k:=a1r (by omega) (by omega);rw[a1B (a0x (iL _ _) hp)]
 split
 ·rw[a2M];simp;omega
 simp
theorem Tz(x c i:Nat)(hi:i<4)(hc:c<256):wd (x ||| 2 ^ c) i=if i=c / 64 then wd x i ||| 2 ^ (c % 64) else wd x i:=by
 rw[Wp,alH c i hi hc]
 split
 ·rfl
 simp
theorem or_bit(x r:Nat)(hx:x<18446744073709551616)(hr:r<64):Go.bits BinOp.or IntKind.u64 (x:Int) (IntKind.u64.wrap (2 ^ r))=((x ||| 2 ^ r:Nat):Int):=by
 have h1:(2:Nat) ^ r<18446744073709551616:=by
  rw[show(18446744073709551616:Nat)=2 ^ 64 by decide];exact a3e (by omega) hr
 have h2:IntKind.u64.wrap ((2:Int) ^ r)=((2 ^ r:Nat):Int):=by
  have e:((2:Int) ^ r)=((2 ^ r:Nat):Int):=by simp
  rw[e,IntKind.wrap_u64];generalize 2 ^ r=z at *;omega
 rw[h2,bits_or_u64_nat _ _ hx h1]
theorem Wq(b s f l:Nat)(w:World)(hl:l<256)(hf:f<256)(hb:SB w b (wd s 0) (wd s 1) (wd s 2) (wd s 3)) :
 Calls Tryz.prog 140 #[.pointer (some ⟨b,0,none⟩),.int .u8 f,.int .u8 l] w λe w'=>e=.returned (.tuple #[])/\SB w' b (wd (ny s f (l+1-f)) 0) (wd (ny s f (l+1-f)) 1) (wd (ny s f (l+1-f)) 2) (wd (ny s f (l+1-f)) 3)/\aA [b] w w':=by
 have HB:=aj hb;clear hb;go_enter Tryz.func140,Tryz.ntmps140
 go_wp2_with fail
 go_loopg [6] (l+1-f) (λk vi wr=>∃(j c:Nat),j+k=l+1-f/\c=f+j/\vi=.int .i64 c/\SB wr b (wd (ny s f j) 0) (wd (ny s f j) 1) (wd (ny s f j) 2) (wd (ny s f j) 3)/\aA [b] w wr)
 case atStart=>exact⟨0,f,by omega,rfl,rfl,HB,aA.refl _ _⟩
 case round =>
  clear HB;obtain⟨j,c,hj,Bh,rfl,h0,bU⟩:=hrel;have F:=aj bU;clear bU
  by_cases aO:j<l+1-f
  ·have hc:f+j<256:=by omega
   have yx:f+j<=l:=by omega
   have Ha:Z_ (ny s f (j+1)=ny s f j ||| 2 ^ (f+j)):=rfl;rw[<-Bh]at hc yx Ha;have Hcc:=aj Bh;clear Bh;have hd:(c:Int).tdiv 64=((c / 64:Nat):Int):=by rw[a2D (by omega)];omega
   have hm:(c:Int).tmod 64=((c % 64:Nat):Int):=by rw[a2f (by omega)];omega
   have W0:=aj (Tz (ny s f j) c 0 (by omega) hc);have W1:=aj (Tz (ny s f j) c 1 (by omega) hc);have W2:=aj (Tz (ny s f j) c 2 (by omega) hc);have W3:=aj (Tz (ny s f j) c 3 (by omega) hc);have l0:=iL (ny s f j) 0;have l1:=iL (ny s f j) 1;have l2:=iL (ny s f j) 2;have l3:=iL (ny s f j) 3;have hr:c % 64<64:=Nat.mod_lt _ (by decide);have hq:c / 64<4:=by omega
   generalize wd (ny s f j) 0=s0 at *;generalize wd (ny s f j) 1=s1 at *;generalize wd (ny s f j) 2=s2 at *;generalize wd (ny s f j) 3=s3 at *;generalize c % 64=r at *;generalize c / 64=q at *;obtain⟨c0,c1,c2,c3⟩:=h0.cells;have z:=h0.fz;have H0:=aj h0;clear h0;rcases(by omega:q=0\/q=1\/q=2\/q=3) with rfl|rfl|rfl|rfl
   ·go_wp2_with fail
    go_region
    go_wp2;go_roundg (gk-1)
    case measure=>omega
    case rel =>
     refine⟨j+1,c+1,by omega,by rw[Hcc.o];omega,by go_num,?_,(F.o.setCell (.inl (by simp)) _).drew⟩;rw[Ha.o,W0.o,W1.o,W2.o,W3.o];have:=(H0.o.set0 (Go.bits BinOp.or IntKind.u64 s0 (IntKind.u64.wrap (2 ^ r)))).drew;rw[or_bit _ _ l0 hr]at this |-;simpa using this
   ·go_wp2_with fail
    go_region
    go_wp2;go_roundg (gk-1)
    case measure=>omega
    case rel =>
     refine⟨j+1,c+1,by omega,by rw[Hcc.o];omega,by go_num,?_,(F.o.setCell (.inl (by simp)) _).drew⟩;rw[Ha.o,W0.o,W1.o,W2.o,W3.o];have:=(H0.o.set1 (Go.bits BinOp.or IntKind.u64 s1 (IntKind.u64.wrap (2 ^ r)))).drew;rw[or_bit _ _ l1 hr]at this |-;simpa using this
   ·go_wp2_with fail
    go_region
    go_wp2;go_roundg (gk-1)
    case measure=>omega
    case rel =>
     refine⟨j+1,c+1,by omega,by rw[Hcc.o];omega,by go_num,?_,(F.o.setCell (.inl (by simp)) _).drew⟩;rw[Ha.o,W0.o,W1.o,W2.o,W3.o];have:=(H0.o.set2 (Go.bits BinOp.or IntKind.u64 s2 (IntKind.u64.wrap (2 ^ r)))).drew;rw[or_bit _ _ l2 hr]at this |-;simpa using this
   go_wp2_with fail
   go_region
   go_wp2;go_roundg (gk-1)
   case measure=>omega
   case rel =>
    refine⟨j+1,c+1,by omega,by rw[Hcc.o];omega,by go_num,?_,(F.o.setCell (.inl (by simp)) _).drew⟩;rw[Ha.o,W0.o,W1.o,W2.o,W3.o];have:=(H0.o.ac1 (Go.bits BinOp.or IntKind.u64 s3 (IntKind.u64.wrap (2 ^ r)))).drew;rw[or_bit _ _ l3 hr]at this |-;simpa using this
  have he:j=l+1-f:=by omega
  subst he;have H0:=aj h0;clear h0;have dJ:¬ (c<=l):=by omega
  go_wp2;go_end0
  exact⟨rfl,H0,F⟩
def PS(w:World)(b:Nat)(t:LB)(i:Nat)(vs:Value):Prop :=
 w.heap[b]?=some (.cells #[.string (bs t),.int .i64 i,vs] 177 (0,0))/\i<=t.length/\t.length<=1048576
theorem PS.c0(h:PS w b t i vs):w.cell? ⟨b,0,none⟩=some (.string (bs t)):=by simp[World.cell?,h.1]
theorem PS.c1(h:PS w b t i vs):w.cell? ⟨b,1,none⟩=some (.int .i64 i):=by simp[World.cell?,h.1]
theorem PS.c2(h:PS w b t i vs):w.cell? ⟨b,2,none⟩=some vs:=by simp[World.cell?,h.1]
theorem PS.fz(h:PS w b t i vs)(o:Nat):w.frozen? ⟨b,o,none⟩=false:=by simp[World.frozen?,h.1]
theorem PS.lt(h:PS w b t i vs):b<w.heap.size:=(a0d.1 h.1).1
theorem PS.aB(h:PS w b t i vs)(f:aA S w w')(hS:b∉S):PS w' b t i vs:=⟨(f.block b h.lt hS).trans h.1,h.2⟩
theorem PS.drewN(n:Nat)(h:PS w b t i vs):PS (w.drewN n) b t i vs:=h
theorem PS.at_(h:PS w b t i vs)(j:Nat)(hj:j<=t.length):PS (w.setCell ⟨b,1,none⟩ (.int .i64 j)) b t j vs:=by
 refine⟨?_,hj,h.2.2⟩;have:=h.1;simp[World.setCell,a0t,this]
theorem PS.sets(h:PS w b t i vs)(v:Value):PS (w.setCell ⟨b,2,none⟩ v) b t i v:=by
 refine⟨?_,h.2⟩;have:=h.1;simp[World.setCell,a0t,this]
def PA(w:World)(b:Nat)(t l:LB)(vs:Value):Prop:=∃i,PS w b t i vs/\t.drop i=l
theorem PA.drewN(n:Nat)(h:PA w b t l vs):PA (w.drewN n) b t l vs:=h
theorem PA.aB(h:PA w b t l vs)(f:aA S w w')(hS:b∉S):PA w' b t l vs:=by
 obtain⟨i,h1,h2⟩:=h;exact⟨i,h1.aB f hS,h2⟩
def tk(c:UInt8):LB->Bool
 | []=>false
 | x::_=>x==c
def rs(c:UInt8)(l:LB):LB:=if tk c l then l.tail else l
theorem drop_cons(h:t.drop i=l):(i<t.length->∃hi:i<t.length,l=t[i]::t.drop (i+1))/\(¬ i<t.length->l=[]):=by
 constructor
 ·intro hi;exact⟨hi,by rw[<-h];exact a0q hi⟩
 intro hi;rw[<-h];exact a0p (by omega)
theorem iY(b:Nat)(t l:LB)(vs:Value)(c:UInt8)(w:World)(h:PA w b t l vs) :
 Calls Tryz.prog 105 #[.pointer (some ⟨b,0,none⟩),.int .u8 c.toNat] w λe w'=>e=.returned (.bool (tk c l))/\PA w' b t (rs c l) vs/\aA [b] w w':=by
 obtain⟨i,h1,h2⟩:=h;have c0:=h1.c0;have c1:=h1.c1;have z:=h1.fz 1;have hi:=h1.2.1;have ht:=h1.2.2;have fM:=bS t;have H1:=aj h1;have H2:=aj h2;clear h1 h2
 by_cases aO:i<t.length
 ·have iH:decide ((t.length:Int)<=(i:Int))=false:=a0f (by omega)
  obtain⟨_,hl⟩:=(drop_cons H2).1 aO;have zS:(bs t)[i]'(by rw[fM];omega)=t[i]:=rfl;generalize Ws:t[i]=x at *
  by_cases hx:x=c
  ·subst hx
   have Hk:Z_ (tk x l=true/\rs x l=t.drop (i+1)):=by
    show _/\_;rw[hl];simp[tk,rs]
   clear hl Ws;have hb:((x.toNat:Int) != (x.toNat:Int))=false:=by simp
   go_enter Tryz.func105,Tryz.ntmps105
   go_wp2_with fail
   go_quiet (fail)
   go_wp2;go_ret;rw[Hk.o.1,Hk.o.2];exact⟨rfl,⟨i+1,(H1.o.drewN _).at_ (i+1) aO,rfl⟩,((aA.refl _ _).drewN _).setCell (.inl (by simp)) _⟩
  have Hk:Z_ (tk c l=false/\rs c l=l):=by
   show _/\_;rw[hl];simp[tk,rs,hx]
  have hb:((x.toNat:Int) != (c.toNat:Int))=true:=by
   rw[a1O];intro e;exact hx (a1w.1 (by omega))
  clear hl Ws;go_enter Tryz.func105,Tryz.ntmps105
  go_wp2_with fail
  go_quiet (fail)
  go_wp2;go_ret;rw[Hk.o.1,Hk.o.2];exact⟨rfl,⟨i,H1.o.drewN _,H2⟩,(aA.refl _ _).drewN _⟩
 have iH:decide ((t.length:Int)<=(i:Int))=true:=a0h (by omega);have Hk:Z_ (tk c l=false/\rs c l=l):=by
  show _/\_;rw[(drop_cons H2.o).2 aO];simp[tk,rs]
 go_enter Tryz.func105,Tryz.ntmps105
 go_wp2_with fail
 go_quiet (fail)
 go_wp2;go_ret;rw[Hk.o.1,Hk.o.2];exact⟨rfl,⟨i,H1.o.drewN _,H2⟩,(aA.refl _ _).drewN _⟩
theorem yK(b:Nat)(t l:LB)(vs:Value)(w:World)(h:PA w b t l vs) :
 Calls Tryz.prog 135 #[.pointer (some ⟨b,0,none⟩)] w λe w'=>e=.returned (.tuple #[.int .u8 (hd l),.bool (!l.isEmpty)])/\PA w' b t l.tail vs/\aA [b] w w':=by
 obtain⟨i,h1,h2⟩:=h;have c0:=h1.c0;have c1:=h1.c1;have z:=h1.fz 1;have hi:=h1.2.1;have ht:=h1.2.2;have fM:=bS t;have H1:=aj h1;have H2:=aj h2;clear h1 h2
 by_cases aO:i<t.length
 ·have iH:decide ((t.length:Int)<=(i:Int))=false:=a0f (by omega)
  obtain⟨_,hl⟩:=(drop_cons H2).1 aO;have zS:(bs t)[i]'(by rw[fM];omega)=t[i]:=rfl;generalize Ws:t[i]=x at *;have Hk:Z_ (hd l=x.toNat/\l.isEmpty=false/\l.tail=t.drop (i+1)):=by
   show _/\_;rw[hl];simp[hd]
  clear hl Ws;go_enter Tryz.func135,Tryz.ntmps135
  go_wp2_with fail
  go_quiet (fail)
  go_wp2_with fail
  go_quiet (fail)
  go_wp2;go_ret2;rw[Hk.o.1,Hk.o.2.1,Hk.o.2.2];exact⟨rfl,⟨i+1,(H1.o.drewN _).at_ (i+1) aO,rfl⟩,((aA.refl [b] w).drewN _).setCell (p:=⟨b,1,none⟩) (.inl (by simp)) _⟩
 have iH:decide ((t.length:Int)<=(i:Int))=true:=a0h (by omega);have hl:=(drop_cons H2).2 aO;have Hk:Z_ (hd l=0/\l.isEmpty=true/\l.tail=l):=by
  show _/\_;rw[hl];simp[hd]
 clear hl;go_enter Tryz.func135,Tryz.ntmps135
 go_wp2_with fail
 go_quiet (fail)
 go_wp2;go_ret2;rw[Hk.o.1,Hk.o.2.1,Hk.o.2.2];exact⟨rfl,⟨i,H1.o.drewN _,H2⟩,(aA.refl _ _).drewN _⟩
def IU(l:LB):Bool:=l.isEmpty||tk 124 l||tk 41 l
theorem Ll(b:Nat)(t l:LB)(vs:Value)(w:World)(h:PA w b t l vs) :
 Calls Tryz.prog 115 #[.pointer (some ⟨b,0,none⟩)] w λe w'=>e=.returned (.bool (IU l))/\∃n,w'=w.drewN n:=by
 obtain⟨i,h1,h2⟩:=h;have c0:=h1.c0;have c1:=h1.c1;have hi:=h1.2.1;have ht:=h1.2.2;have fM:=bS t
 by_cases aO:i<t.length
 ·have iH:decide ((t.length:Int)<=(i:Int))=false:=a0f (by omega)
  have kY:decide (t.length<=i)=false:=a0f (by omega);obtain⟨_,hl⟩:=(drop_cons h2).1 aO;have zS:(bs t)[i]'(by rw[fM];omega)=t[i]:=rfl;generalize Ws:t[i]=x at *;have Hk:Z_ (IU l=((x==124)||(x==41))):=by
   show _=_;rw[hl];simp[IU,tk]
  have qd:((x.toNat:Int)==124)=(x==124):=by
   rw[a0P];simp;constructor
   ·intro e;exact a1w.1 (by simpa using(by omega:x.toNat=124))
   intro e;subst e;rfl
  have e41:((x.toNat:Int)==41)=(x==41):=by
   rw[a0P];simp;constructor
   ·intro e;exact a1w.1 (by simpa using(by omega:x.toNat=41))
   intro e;subst e;rfl
  clear hl Ws h1 h2;cases JI:(x==124)
  ·rw[JI]at qd Hk
   go_enter Tryz.func115,Tryz.ntmps115
   go_wp2_with fail
   go_quiet (fail)
   go_wp2;go_ret;rw[Hk.o];exact⟨bT (by rw[<-e41];rfl),_,rfl⟩
  rw[JI]at qd Hk;go_enter Tryz.func115,Tryz.ntmps115
  go_wp2_with fail
  go_quiet (fail)
  go_wp2;go_ret;rw[Hk.o];exact⟨bT (by rfl),_,rfl⟩
 have iH:decide ((t.length:Int)<=(i:Int))=true:=a0h (by omega);have kY:decide (t.length<=i)=true:=a0h (by omega);have hl:=(drop_cons h2).2 aO;have Hk:Z_ (IU l=true):=by
  show _=_;rw[hl];rfl
 clear hl h1 h2;go_enter Tryz.func115,Tryz.ntmps115
 go_wp2_with fail
 go_quiet (fail)
 go_wp2;go_ret;rw[Hk.o];exact⟨rfl,_,rfl⟩
theorem iM(c:UInt8)(l:LB):tk c l=bf c l:=by cases l<;>rfl
def wC(l:LB):Nat:=match bO l with | some (n,_)=>n|none=>0
def uH(l:LB):LB:=match bO l with | some (_,r)=>r|none=>l
theorem aa0(a b:UInt8):(a<=b)=(a.toNat<=b.toNat):=by rw[a1o]
theorem alI {a b:Int} {c d:Bool}(h:a=b)(h2:c=d):Ending.returned (.tuple #[.int .i64 a,.bool c])=.returned (.tuple #[.int .i64 b,.bool d]):=by rw[h,h2]
theorem zB(b:Nat)(t l:LB)(vs:Value)(w:World)(h:PA w b t l vs) :
 Calls Tryz.prog 146 #[.pointer (some ⟨b,0,none⟩)] w λe w'=>e=.returned (.tuple #[.int .i64 (wC l),.bool (bO l).isSome])/\PA w' b t (uH l) vs/\aA [b] w w':=by
 obtain⟨i,h1,h2⟩:=h;have c0:=h1.c0;have c1:=h1.c1;have z:=h1.fz 1;have hi:=h1.2.1;have ht:=h1.2.2;have fM:=bS t;have H1:=aj h1;have H2:=aj h2;clear h1 h2
 by_cases aO:i<t.length
 ·have iH:decide ((t.length:Int)<=(i:Int))=false:=a0f (by omega)
  have kY:decide (t.length<=i)=false:=a0f (by omega);obtain⟨_,hl⟩:=(drop_cons H2).1 aO;have zS:(bs t)[i]'(by rw[fM];omega)=t[i]:=rfl;generalize Ws:t[i]=x at *;have hx8:=x.toNat_lt
  by_cases hx:48<=x.toNat/\x.toNat<=57
  ·have Hk:Z_ (wC l=x.toNat-48/\(bO l).isSome=true/\uH l=t.drop (i+1)):=by
    show _/\_;have hxx:(48<=x&&x<=57)=true:=by simp[aa0];exact hx
    unfold wC uH;rw[hl];simp only[bO,hxx,a0C];simp
   clear hl Ws;have l7:decide ((x.toNat:Int)<48)=false:=a0f (by omega);have zV:decide ((57:Int)<(x.toNat:Int))=false:=a0f (by omega);have amj:decide (x.toNat<48)=false:=a0f (by omega);have aoV:decide (57<x.toNat)=false:=a0f (by omega);go_enter Tryz.func146,Tryz.ntmps146
   go_wp2_with fail
   go_quiet (fail)
   go_wp2_with fail
   go_quiet (fail)
   go_wp2;go_ret2;rw[Hk.o.1,Hk.o.2.1,Hk.o.2.2];refine⟨?_,⟨i+1,(H1.o.drewN _).at_ (i+1) aO,rfl⟩,((aA.refl [b] w).drewN _).setCell (p:=⟨b,1,none⟩) (.inl (by simp)) _⟩;exact alI (by omega) rfl
  have Hk:Z_ (wC l=0/\(bO l).isSome=false/\uH l=l):=by
   show _/\_;have hxx:(48<=x&&x<=57)=false:=by
    rw[a2E];intro e;simp[aa0]at e;exact hx e
   unfold wC uH;rw[hl];simp only[bO,hxx];simp
  clear hl Ws
  by_cases aqt:x.toNat<48
  ·have l7:decide ((x.toNat:Int)<48)=true:=a0h (by omega)
   have amj:decide (x.toNat<48)=true:=a0h (by omega);go_enter Tryz.func146,Tryz.ntmps146
   go_wp2_with fail
   go_quiet (fail)
   go_wp2;go_ret2;rw[Hk.o.1,Hk.o.2.1,Hk.o.2.2];exact⟨rfl,⟨i,H1.o.drewN _,H2⟩,(aA.refl _ _).drewN _⟩
  have l7:decide ((x.toNat:Int)<48)=false:=a0f (by omega);have amj:decide (x.toNat<48)=false:=a0f (by omega);have zV:decide ((57:Int)<(x.toNat:Int))=true:=a0h (by omega);have aoV:decide (57<x.toNat)=true:=a0h (by omega);go_enter Tryz.func146,Tryz.ntmps146
  go_wp2_with fail
  go_quiet (fail)
  go_wp2;go_ret2;rw[Hk.o.1,Hk.o.2.1,Hk.o.2.2];exact⟨rfl,⟨i,H1.o.drewN _,H2⟩,(aA.refl _ _).drewN _⟩
 have iH:decide ((t.length:Int)<=(i:Int))=true:=a0h (by omega);have kY:decide (t.length<=i)=true:=a0h (by omega);have hl:=(drop_cons H2).2 aO;have Hk:Z_ (wC l=0/\(bO l).isSome=false/\uH l=l):=by
  show _/\_;rw[hl];exact⟨rfl,rfl,rfl⟩
 clear hl;go_enter Tryz.func146,Tryz.ntmps146
 go_wp2_with fail
 go_quiet (fail)
 go_wp2;go_ret2;rw[Hk.o.1,Hk.o.2.1,Hk.o.2.2];exact⟨rfl,⟨i,H1.o.drewN _,H2⟩,(aA.refl _ _).drewN _⟩
theorem Eb(x:UInt8)(n:Nat)(hn:n<256):((x.toNat:Int)==(n:Int))=(x==UInt8.ofNat n):=by
 have h:(UInt8.ofNat n).toNat=n:=by rw[UInt8.toNat_ofNat'];exact Nat.mod_eq_of_lt hn
 rw[a0P,a0X,a0X]
 constructor
 ·intro e
  apply a1w.1;rw[h];omega
 intro e;rw[e,h]
theorem Nn(b:Nat)(t l:LB)(vs:Value)(w:World)(h:PA w b t l vs) :
 Calls Tryz.prog 125 #[.pointer (some ⟨b,0,none⟩)] w λe w'=>e=.returned (.bool (Ai l))/\∃n,w'=w.drewN n:=by
 obtain⟨i,h1,h2⟩:=h;have c0:=h1.c0;have c1:=h1.c1;have hi:=h1.2.1;have ht:=h1.2.2;have fM:=bS t
 by_cases aO:i<t.length
 ·have iH:decide ((t.length:Int)<=(i:Int))=false:=a0f (by omega)
  obtain⟨_,hl⟩:=(drop_cons h2).1 aO;have zS:(bs t)[i]'(by rw[fM];omega)=t[i]:=rfl;generalize Ws:t[i]=x at *;have Hk:Z_ (Ai l=Ag x):=by show _=_;rw[hl];rfl
  have e1:=Eb x 42 (by omega);have e2:=Eb x 43 (by omega);have e3:=Eb x 63 (by omega);have e4:=Eb x 123 (by omega);have Hr:Z_ (Ag x=(x==42||x==43||x==63||x==123)):=rfl;clear hl Ws h1 h2;cases k1:(x==42)
  ·have f1:((x.toNat:Int)==42)=false:=e1.trans k1
   cases k2:(x==43)
   ·have f2:((x.toNat:Int)==43)=false:=e2.trans k2
    cases k3:(x==63)
    ·have f3:((x.toNat:Int)==63)=false:=e3.trans k3
     have f4:((x.toNat:Int)==123)=(x==123):=e4;clear e1 e2 e3 e4;go_enter Tryz.func125,Tryz.ntmps125
     go_wp2_with fail
     go_quiet (fail)
     go_wp2_with fail
     go_quiet (fail)
     go_wp2;go_ret;rw[Hk.o,Hr.o,k1,k2,k3];exact⟨bT (by simp[f4]),_,rfl⟩
    have f3:((x.toNat:Int)==63)=true:=e3.trans k3;clear e1 e2 e3 e4;go_enter Tryz.func125,Tryz.ntmps125
    go_wp2_with fail
    go_quiet (fail)
    go_wp2_with fail
    go_quiet (fail)
    go_wp2;go_ret;rw[Hk.o,Hr.o,k1,k2,k3];exact⟨bT (by simp),_,rfl⟩
   have f2:((x.toNat:Int)==43)=true:=e2.trans k2;clear e1 e2 e3 e4;go_enter Tryz.func125,Tryz.ntmps125
   go_wp2_with fail
   go_quiet (fail)
   go_wp2_with fail
   go_quiet (fail)
   go_wp2;go_ret;rw[Hk.o,Hr.o,k1,k2];exact⟨bT (by simp),_,rfl⟩
  have f1:((x.toNat:Int)==42)=true:=e1.trans k1;clear e1 e2 e3 e4;go_enter Tryz.func125,Tryz.ntmps125
  go_wp2_with fail
  go_quiet (fail)
  go_wp2_with fail
  go_quiet (fail)
  go_wp2;go_ret;rw[Hk.o,Hr.o,k1];exact⟨bT (by simp),_,rfl⟩
 have iH:decide ((t.length:Int)<=(i:Int))=true:=a0h (by omega);have hl:=(drop_cons h2).2 aO;have Hk:Z_ (Ai l=false):=by show _=_;rw[hl];rfl
 clear hl h1 h2;go_enter Tryz.func125,Tryz.ntmps125
 go_wp2_with fail
 go_quiet (fail)
 go_wp2;go_ret;rw[Hk.o];exact⟨rfl,_,rfl⟩
def SN:Option Nat->Int
 | none=>-1
 | some n=>n
def CP(p:Option ((Nat × Option Nat) × LB))(a m:Int)(ok:Bool)(l':LB):Prop :=
 match p with
 | some ((lo,hi),r)=>a=lo/\m=SN hi/\ok=true/\l'=r
 | none=>ok=false
theorem aa1(h:(bO l).isSome=false):bY l=none:=by
 unfold bY;cases hd:bO l with
 | none=>rfl
 | some x=>rw[hd]at h;simp at h
theorem ZI(h:(bO l).isSome=true):bO l=some (wC l,uH l)/\wC l<=9:=by
 cases hd:bO l with
 | none=>rw[hd]at h;simp at h
 | some x =>
   obtain⟨n,r⟩:=x;have:=xE hd;unfold wC uH;rw[hd];exact⟨rfl,this.2⟩
theorem ahm(h:(bO l).isSome=false):bO l=none/\uH l=l:=by
 cases hd:bO l with
 | none=>unfold uH;rw[hd];exact⟨rfl,rfl⟩
 | some x=>rw[hd]at h;simp at h
theorem SS(b:Nat)(t l:LB)(vs:Value)(w:World)(h:PA w b t l vs) :
 Calls Tryz.prog 141 #[.pointer (some ⟨b,0,none⟩)] w λe w'=>∃a m ok l',e=.returned (.tuple #[.int .i64 a,.int .i64 m,.bool ok])/\PA w' b t l' vs/\aA [b] w w'/\CP (bY l) a m ok l':=by
 have H:=aj h;clear h;cases h1:(bO l).isSome
 ·have Hc:=aj (aa1 h1)
  go_enter Tryz.func141,Tryz.ntmps141
  go_wp2_with fail
  refine(zB b t l vs w H).mono ?_;rintro e w1 ⟨rfl,iw,aZ⟩;have P1:=aj iw;have F1:=aj aZ;clear iw aZ;rw[h1];go_wp2;go_ret3
  refine⟨_,_,_,_,rfl,P1,F1,?_⟩;rw[Hc.o];rfl
 obtain⟨iH,La⟩:=ZI h1;have Hd1:=aj iH;clear iH;have Hc:Z_ (bY l=if bf 44 (uH l) then
  match bO (uH l).tail with
  | some (n,r2)=>if bf 125 r2&&decide (wC l<=n) then some ((wC l,some n),r2.tail) else none
  | none=>if bf 125 (uH l).tail then some ((wC l,none),(uH l).tail.tail) else none
 else if bf 125 (uH l) then some ((wC l,some (wC l)),(uH l).tail) else none):=by
  show _=_;conv=>lhs;unfold bY
  rw[Hd1.o]
  all_goals rfl
 go_enter Tryz.func141,Tryz.ntmps141
 go_wp2_with fail
 refine(zB b t l vs w H).mono ?_;rintro e w1 ⟨rfl,iw,aZ⟩;have P1:=aj iw;have F1:=aj aZ;clear iw aZ;rw[h1];generalize wC l=lo at *;generalize uH l=r at *;go_wp2_with fail
 refine(iY b t r vs 44 w1 P1).mono ?_;rintro e w2 ⟨rfl,bR,aS⟩;have P2:=aj bR;have F2:=aj (F1.o.trans aS);clear bR aS;cases hk:tk 44 r
 ·have Hk2:Z_ (rs 44 r=r):=by show _=_;unfold rs;rw[hk];rfl
  rw[iM]at hk;have Yo:Z_ (bY l=if bf 125 r then some ((lo,some lo),r.tail) else none):=by
   show _=_;rw[Hc.o,hk];rfl
  go_wp2_with fail
  refine(iY b t (rs 44 r) vs 125 w2 P2).mono ?_;rintro e w3 ⟨rfl,mR,bZ⟩;have P3:=aj mR;have F3:=aj (F2.o.trans bZ);clear mR bZ;rw[Hk2.o]at P3 |-;cases Py:tk 125 r
  ·go_wp2
   go_ret3
   refine⟨_,_,_,_,rfl,P3,F3,?_⟩;rw[iM]at Py;rw[Yo.o,Py];rfl
  have wR:rs 125 r=r.tail:=by unfold rs;rw[Py];rfl
  have bL:((lo:Int) == -1)=false:=a0k.2 (by omega);go_wp2;go_ret3
  refine⟨_,_,_,_,rfl,P3,F3,?_⟩;rw[iM]at Py;rw[Yo.o,Py,wR];exact⟨rfl,rfl,rfl,rfl⟩
 have Hk2:Z_ (rs 44 r=r.tail):=by show _=_;unfold rs;rw[hk];rfl
 rw[iM]at hk;have Yo:Z_ (bY l=match bO r.tail with
  | some (n,r2)=>if bf 125 r2&&decide (lo<=n) then some ((lo,some n),r2.tail) else none
  | none=>if bf 125 r.tail then some ((lo,none),r.tail.tail) else none):=by
  show _=_;rw[Hc.o,hk];rfl
 rw[Hk2.o]at P2;go_wp2_with fail
 refine(zB b t r.tail vs w2 P2).mono ?_;rintro e w3 ⟨rfl,mR,bZ⟩;have P3:=aj mR;have F3:=aj (F2.o.trans bZ);clear mR bZ;cases h4:(bO r.tail).isSome
 ·obtain⟨hd4,MP⟩:=ahm h4
  have Hc3:Z_ (bY l=if bf 125 r.tail then some ((lo,none),r.tail.tail) else none):=by
   show _=_;rw[Yo.o,hd4]
  rw[MP]at P3;clear hd4 MP;go_wp2_with fail
  refine(iY b t r.tail vs 125 w3 P3).mono ?_;rintro e w4 ⟨rfl,Wt,nR⟩;have P4:=aj Wt;have F4:=aj (F3.o.trans nR);clear Wt nR;cases Pz:tk 125 r.tail
  ·go_wp2
   go_ret3
   refine⟨_,_,_,_,rfl,P4,F4,?_⟩;rw[iM]at Pz;rw[Hc3.o,Pz];rfl
  have wR:rs 125 r.tail=r.tail.tail:=by unfold rs;rw[Pz];rfl
  go_wp2;go_ret3
  refine⟨_,_,_,_,rfl,P4,F4,?_⟩;rw[iM]at Pz;rw[Hc3.o,Pz,wR];exact⟨rfl,rfl,rfl,rfl⟩
 obtain⟨hd4,hn4⟩:=ZI h4;have Hc3:Z_ (bY l=if bf 125 (uH r.tail)&&decide (lo<=wC r.tail) then some ((lo,some (wC r.tail)),(uH r.tail).tail) else none):=by
  show _=_;rw[Yo.o,hd4]
 clear hd4;generalize wC r.tail=hi at *;generalize uH r.tail=q at *;go_wp2_with fail
 refine(iY b t q vs 125 w3 P3).mono ?_;rintro e w4 ⟨rfl,Wt,nR⟩;have P4:=aj Wt;have F4:=aj (F3.o.trans nR);clear Wt nR;have bL:((hi:Int) == -1)=false:=a0k.2 (by omega);cases Pz:tk 125 q
 ·go_wp2
  go_ret3
  refine⟨_,_,_,_,rfl,P4,F4,?_⟩;rw[iM]at Pz;rw[Hc3.o,Pz];rfl
 have wR:rs 125 q=q.tail:=by unfold rs;rw[Pz];rfl
 by_cases hle:lo<=hi
 ·have DJ:decide ((lo:Int)<=(hi:Int))=true:=a0h (by omega)
  go_wp2;go_ret3
  refine⟨_,_,_,_,rfl,P4,F4,?_⟩;rw[iM]at Pz;rw[Hc3.o,Pz,wR,a0h hle];exact⟨rfl,rfl,by first | rfl|simp[hle],rfl⟩
 have DJ:decide ((lo:Int)<=(hi:Int))=false:=a0f (by omega);go_wp2;go_ret3
 refine⟨_,_,_,_,rfl,P4,F4,?_⟩;rw[iM]at Pz;rw[Hc3.o,Pz,a0f hle];show _=false
 first | rfl|simp[hle]
theorem sM {c:UInt8}(h:tk c l=true):rs c l=l.tail:=by unfold rs;rw[h];rfl
theorem uI {c:UInt8}(h:tk c l=false):rs c l=l:=by unfold rs;rw[h];rfl
theorem ajy {c:UInt8}(h:tk c l=true):l=c::l.tail:=by
 cases l with
 | nil=>simp[tk]at h
 | cons x r=>simp[tk]at h;simp[h]
theorem ajz(l:LB):Ah l=if tk 42 l then some ((0,none),l.tail) else if tk 43 l then some ((1,none),l.tail) else if tk 63 l then some ((0,some 1),l.tail) else if tk 123 l then bY l.tail else none:=by
 cases l<;>rfl
theorem Ju(b:Nat)(t l:LB)(vs:Value)(w:World)(h:PA w b t l vs) :
 Calls Tryz.prog 126 #[.pointer (some ⟨b,0,none⟩)] w λe w'=>∃a m ok l',e=.returned (.tuple #[.int .i64 a,.int .i64 m,.bool ok])/\PA w' b t l' vs/\aA [b] w w'/\CP (Ah l) a m ok l':=by
 have H:=aj h;have Hp:=aj (ajz l);clear h;go_enter Tryz.func126,Tryz.ntmps126
 go_wp2_with fail
 refine(iY b t l vs 42 w H).mono ?_;rintro e w1 ⟨rfl,iw,aZ⟩;have F1:=aj aZ;clear aZ;cases k1:tk 42 l
 case true =>
  rw[sM k1]at iw;have P1:=aj iw;clear iw;go_wp2;go_ret3
  refine⟨_,_,_,_,rfl,P1,F1,?_⟩;rw[Hp.o,k1];exact⟨rfl,rfl,rfl,rfl⟩
 rw[uI k1]at iw;have P1:=aj iw;clear iw;go_wp2_with fail
 refine(iY b t l vs 43 w1 P1).mono ?_;rintro e w2 ⟨rfl,bR,aS⟩;have F2:=aj (F1.o.trans aS);clear aS;cases k2:tk 43 l
 case true =>
  rw[sM k2]at bR;have P2:=aj bR;clear bR;go_wp2;go_ret3
  refine⟨_,_,_,_,rfl,P2,F2,?_⟩;rw[Hp.o,k1,k2];exact⟨rfl,rfl,rfl,rfl⟩
 rw[uI k2]at bR;have P2:=aj bR;clear bR;go_wp2_with fail
 refine(iY b t l vs 63 w2 P2).mono ?_;rintro e w3 ⟨rfl,mR,bZ⟩;have F3:=aj (F2.o.trans bZ);clear bZ;cases k3:tk 63 l
 case true =>
  rw[sM k3]at mR;have P3:=aj mR;clear mR;go_wp2;go_ret3
  refine⟨_,_,_,_,rfl,P3,F3,?_⟩;rw[Hp.o,k1,k2,k3];exact⟨rfl,rfl,rfl,rfl⟩
 rw[uI k3]at mR;have P3:=aj mR;clear mR;go_wp2_with fail
 refine(iY b t l vs 123 w3 P3).mono ?_;rintro e w4 ⟨rfl,Wt,nR⟩;have F4:=aj (F3.o.trans nR);clear nR;cases k4:tk 123 l
 case false =>
  have P4:=aj Wt;clear Wt;go_wp2;go_ret3
  refine⟨_,_,_,_,rfl,P4,F4,?_⟩;rw[Hp.o,k1,k2,k3,k4];rfl
 rw[sM k4]at Wt;have P4:=aj Wt;have Hc:Z_ (Ah l=bY l.tail):=by show _=_;rw[Hp.o,k1,k2,k3,k4];rfl
 clear Wt;go_wp2_with fail
 refine(SS b t l.tail vs w4 P4).mono ?_;rintro e w5 ⟨a,m,ok,l',rfl,Mx,wN,hc5⟩;have P5:=aj Mx;have F5:=aj (F4.o.trans wN);have C5:=aj hc5;clear Mx wN hc5;go_wp2;go_ret3
 refine⟨_,_,_,_,rfl,P5,F5,?_⟩;rw[Hc.o];exact C5
def BP(p:Option (UInt8 × LB))(v:UInt8)(ok:Bool)(l':LB):Prop :=
 match p with
 | some (c,r)=>v=c/\ok=true/\l'=r
 | none=>ok=false
def Yp(l:LB):UInt8:=l.head?.getD 0
theorem afX(l:LB):hd l=((Yp l).toNat:Int):=rfl
theorem Az(b:Nat)(t l:LB)(vs:Value)(w:World)(h:PA w b t l vs) :
 Calls Tryz.prog 147 #[.pointer (some ⟨b,0,none⟩)] w λe w'=>∃(v:UInt8) (ok:Bool) (l':LB),e=.returned (.tuple #[.int .u8 v.toNat,.bool ok])/\PA w' b t l' vs/\aA [b] w w'/\BP (jN l) v ok l':=by
 have H:=aj h;clear h;go_enter Tryz.func147,Tryz.ntmps147
 go_wp2_with fail
 refine(iY b t l vs 92 w H).mono ?_;rintro e w1 ⟨rfl,iw,aZ⟩;have F1:=aj aZ;clear aZ;cases k1:tk 92 l
 case true =>
  rw[sM k1]at iw;have P1:=aj iw;clear iw;have Hb:Z_ (jN l=match l.tail with | []=>none|d::r2=>some (d,r2)):=by
   show _=_;rw[ajy k1];rfl
  go_wp2_with fail
  refine(yK b t l.tail vs w1 P1).mono ?_;rintro e w2 ⟨rfl,bR,aS⟩;have P2:=aj bR;have F2:=aj (F1.o.trans aS);clear bR aS;rw[afX];go_wp2;go_ret2;refine⟨Yp l.tail,_,_,rfl,P2,F2,?_⟩;rw[Hb.o];cases l.tail with
  | nil=>rfl
  | cons d r2=>exact⟨rfl,rfl,rfl⟩
 rw[uI k1]at iw;have P1:=aj iw;clear iw;go_wp2_with fail
 refine(yK b t l vs w1 P1).mono ?_;rintro e w2 ⟨rfl,bR,aS⟩;have P2:=aj bR;have F2:=aj (F1.o.trans aS);clear bR aS;rw[afX];have e1:=Eb (Yp l) 93 (by omega);have e2:=Eb (Yp l) 91 (by omega);have e3:=Eb (Yp l) 45 (by omega);have Hb:Z_ (jN l=if l.isEmpty then none else if Yp l==93||Yp l==91||Yp l==45 then none else some (Yp l,l.tail)):=by
  show _=_;cases l with
  | nil=>rfl
  | cons x r =>
    have:(x==92)=false:=k1;simp only[jN,this];rfl
 generalize Yp l=x at *;cases k2:l.isEmpty
 ·rw[k2]at Hb
  cases k3:(x==93)
  ·have f1:((x.toNat:Int) != 93)=true:=by rw[a1O];intro e;rw[show(x==93)=true from e1.symm.trans (a0X.2 e)]at k3;cases k3
   cases k4:(x==91)
   ·have f2:((x.toNat:Int) != 91)=true:=by rw[a1O];intro e;rw[show(x==91)=true from e2.symm.trans (a0X.2 e)]at k4;cases k4
    cases k5:(x==45)
    ·have f3:((x.toNat:Int) != 45)=true:=by rw[a1O];intro e;rw[show(x==45)=true from e3.symm.trans (a0X.2 e)]at k5;cases k5
     rw[k3,k4,k5]at Hb;clear e1 e2 e3;go_wp2;go_ret2;refine⟨x,_,_,rfl,P2,F2,?_⟩;rw[Hb.o];exact⟨rfl,rfl,rfl⟩
    have f3:((x.toNat:Int) != 45)=false:=by rw[a1V];exact a0X.1 (e3.trans k5)
    rw[k3,k4,k5]at Hb;clear e1 e2 e3;go_wp2;go_ret2;refine⟨x,_,_,rfl,P2,F2,?_⟩;rw[Hb.o];rfl
   have f2:((x.toNat:Int) != 91)=false:=by rw[a1V];exact a0X.1 (e2.trans k4)
   rw[k3,k4]at Hb;clear e1 e2 e3;go_wp2;go_ret2;refine⟨x,_,_,rfl,P2,F2,?_⟩;rw[Hb.o];rfl
  have f1:((x.toNat:Int) != 93)=false:=by rw[a1V];exact a0X.1 (e1.trans k3)
  rw[k3]at Hb;clear e1 e2 e3;go_wp2;go_ret2;refine⟨x,_,_,rfl,P2,F2,?_⟩;rw[Hb.o];rfl
 rw[k2]at Hb;clear e1 e2 e3;go_wp2;go_ret2;refine⟨x,_,_,rfl,P2,F2,?_⟩;rw[Hb.o];rfl
def IP(p:Option ((UInt8 × UInt8) × LB))(a c:UInt8)(ok:Bool)(l':LB):Prop :=
 match p with
 | some ((x,y),r)=>a=x/\c=y/\ok=true/\l'=r
 | none=>ok=false
theorem Yq(b:Nat)(t l:LB)(vs:Value)(w:World)(h:PA w b t l vs) :
 Calls Tryz.prog 145 #[.pointer (some ⟨b,0,none⟩)] w λe w'=>∃(a c:UInt8) (ok:Bool) (l':LB),e=.returned (.tuple #[.int .u8 a.toNat,.int .u8 c.toNat,.bool ok])/\PA w' b t l' vs/\aA [b] w w'/\IP (qJ l) a c ok l':=by
 have H:=aj h;have Hi:Z_ (qJ l=match jN l with
  | none=>none
  | some (a,r)=>if bf 45 r then (match jN r.tail with | none=>none|some (b,r2)=>if a<=b then some ((a,b),r2) else none) else some ((a,a),r)):=rfl
 clear h;go_enter Tryz.func145,Tryz.ntmps145
 go_wp2_with fail
 refine(Az b t l vs w H).mono ?_;rintro e w1 ⟨x,ok1,l1,rfl,iw,aZ,mV⟩;have P1:=aj iw;have F1:=aj aZ;clear iw aZ;cases nL:jN l with
 | none =>
   rw[nL]at mV Hi;obtain rfl:ok1=false:=mV;go_wp2;go_ret3
   refine⟨0,0,_,_,rfl,P1,F1,?_⟩;rw[Hi.o];rfl
 | some cr =>
   obtain⟨c,r⟩:=cr;rw[nL]at mV Hi;obtain⟨rfl,rfl,rfl⟩:x=c/\ok1=true/\l1=r:=mV;go_wp2_with fail
   refine(iY b t l1 vs 45 w1 P1).mono ?_;rintro e w2 ⟨rfl,bR,aS⟩;have F2:=aj (F1.o.trans aS);clear aS;cases k2:tk 45 l1
   ·rw[uI k2]at bR
    have P2:=aj bR;rw[iM]at k2;clear bR;have hle:decide ((x.toNat:Int)<=(x.toNat:Int))=true:=a0h (Int.le_refl _);go_wp2;go_ret3
    refine⟨x,x,_,_,rfl,P2,F2,?_⟩;rw[Hi.o];simp only[k2];exact⟨rfl,rfl,by first | rfl|simp,rfl⟩
   rw[sM k2]at bR;have P2:=aj bR;rw[iM]at k2;clear bR;go_wp2_with fail
   refine(Az b t l1.tail vs w2 P2).mono ?_;rintro e w3 ⟨y,Yf,l3,rfl,mR,bZ,hb3⟩;have P3:=aj mR;have F3:=aj (F2.o.trans bZ);clear mR bZ;cases Jv:jN l1.tail with
   | none =>
     rw[Jv]at hb3;obtain rfl:Yf=false:=hb3;go_wp2;go_ret3
     refine⟨x,y,_,_,rfl,P3,F3,?_⟩;rw[Hi.o];simp only[k2,Jv]
     rfl
   | some cr =>
     obtain⟨d,r3⟩:=cr;rw[Jv]at hb3;obtain⟨rfl,rfl,rfl⟩:y=d/\Yf=true/\l3=r3:=hb3
     by_cases L9:x.toNat<=y.toNat
     ·have hle:decide ((x.toNat:Int)<=(y.toNat:Int))=true:=a0h (by omega)
      go_wp2;go_ret3
      refine⟨x,y,_,_,rfl,P3,F3,?_⟩;rw[Hi.o];simp only[k2,Jv,a0C];rw[a0j (by rw[aa0];exact L9)];exact⟨rfl,rfl,by first | rfl|simp[L9],rfl⟩
     have hle:decide ((x.toNat:Int)<=(y.toNat:Int))=false:=a0f (by omega);go_wp2;go_ret3
     refine⟨x,y,_,_,rfl,P3,F3,?_⟩;rw[Hi.o];simp only[k2,Jv,a0C];rw[a0g (by rw[aa0];exact L9)];show _=false
     first | rfl|simp[L9]
def AA(s:Nat):List Value:=[.int .u64 (wd s 0),.int .u64 (wd s 1),.int .u64 (wd s 2),.int .u64 (wd s 3)]
def BL(base:Nat)(w:World)(v:Value)(S:LN):Prop:=w.ownsRow base 192 4 v S.length (S.flatMap AA)
theorem BL.nil(base:Nat)(w:World):BL base w (.slice none 0 0) []:=World.ownsRow_nil w base _ 4
theorem alJ:(Tryz.prog.info? 192).map (λi=>(i.zero,i.size,i.bytes))=some (some (.agg #[.int .u64 0,.int .u64 0,.int .u64 0,.int .u64 0]),4,32):=by kernel_rfl
structure FP(base b:Nat)(w w':World):Prop where
 os:w'.os=w.os
 tape:w'.tape=w.tape
 output:w'.output=w.output
 size:w.heap.size<=w'.heap.size
 block:∀k,k<w.heap.size->k≠b->(k<base\/∀cur fz,w.heap[k]?≠some (.cells cur 192 fz))->w'.heap[k]?=w.heap[k]?
theorem FP.refl(base b:Nat)(w:World):FP base b w w:=⟨rfl,rfl,rfl,a0a _,λ_ _ _ _=>rfl⟩
theorem FP.trans{base:Nat}{y z:World}(h:FP base b x y)(k:FP base b y z):FP base b x z :=
 ⟨k.os.trans h.os,k.tape.trans h.tape,k.output.trans h.output,a0e h.size k.size,λi hi hb hc=>by
   have e:=h.block i hi hb hc;refine(k.block i (a0x hi h.size) hb ?_).trans e;rcases hc with hc|hc
   ·exact .inl hc
   exact .inr (λcur fz=>by rw[e];exact hc cur fz)⟩
theorem FP.Np{base:Nat}(h:aA [b] w w'):FP base b w w':=⟨h.os,h.tape,h.output,h.size,λk hk hb _=>h.block k hk (by simpa using hb)⟩
theorem FP.aB{base:Nat}(h:FP base b x w)(f:aA [b] w w'):FP base b x w':=h.trans (.Np f)
theorem FP.alloc{base:Nat}(h:FP base b x w)(o:Obj):FP base b x (w.alloc o):=h.aB ((aA.refl _ _).alloc _)
theorem FP.drew{base:Nat}(h:FP base b x w):FP base b x w.drew:=⟨h.os,h.tape,h.output,h.size,h.block⟩
theorem FP.drewN{base:Nat}(n:Nat)(h:FP base b x w):FP base b x (w.drewN n):=⟨h.os,h.tape,h.output,h.size,h.block⟩
theorem FP.grown{base:Nat} {v:Value} {xs:List Value}(ho:w.ownsRow base 192 4 v n xs)(hg:w.grownBy w' v.ownBlock):FP base b w w':=by
 refine⟨hg.os,hg.tape,hg.output,hg.size,λk hk hb hc=>hg.block k hk ?_⟩;intro e;have h1:=ho.lt k e.symm;obtain⟨cur,fz,h2⟩:=DW ho k e.symm;rcases hc with hc|hc
 ·omega
 exact hc cur fz h2
def XB(w:World)(eb:Nat)(s:Nat):Prop:=w.heap[eb]?=some (.cells #[.int .i64 0,.int .u64 (wd s 0),.int .u64 (wd s 1),.int .u64 (wd s 2),.int .u64 (wd s 3),.slice none 0 0,.pointer none,.int .i64 0,.int .i64 0] 195 (0,0))
theorem zD(base b:Nat)(t l:LB)(vs:Value)(S:LN)(s:Nat)(w:World)(h:PA w b t l vs)(hs:BL base w vs S)(hb:b<base)(hz:base<=w.heap.size)(hS:S.length<=1048576) :
 Calls Tryz.prog 138 #[.pointer (some ⟨b,0,none⟩),bv s] w λe w'=>∃(eb:Nat) (gT:Value),e=.returned (.pointer (some ⟨eb,0,none⟩))/\w.heap.size<=eb/\XB w' eb s/\PA w' b t l gT/\BL base w' gT (S++[s])/\FP base b w w':=by
 unfold bv;obtain⟨i,h1,h2⟩:=h;have c2:=h1.c2;have f2:=h1.fz 2;have aO:=h1.lt;obtain⟨a,cap,rfl⟩:=aT hs;obtain⟨i0,hi,KH,Sv,EK⟩:=info_parts alJ;have H1:=aj h1;have H2:=aj h2;have HS:=aj hs;have HX:Z_ (∀(w:World) (eb:Nat),eb=w.heap.size->XB (w.alloc (.cells #[.int .i64 0,.int .u64 (wd s 0),.int .u64 (wd s 1),.int .u64 (wd s 2),.int .u64 (wd s 3),.slice none 0 0,.pointer none,.int .i64 0,.int .i64 0] 195)) eb s):=by
  intro w eb e;subst e;exact bK w _
 have HB:Z_ (S.flatMap AA++[.int .u64 (wd s 0),.int .u64 (wd s 1),.int .u64 (wd s 2),.int .u64 (wd s 3)]=(S++[s]).flatMap AA):=by
  show _=_;simp[AA]
 have ab:Value.ownBlock (.slice a S.length cap)≠some b:=λe=>by have:=HS.o.lt _ e;omega
 have an:Value.ownBlock (.slice a S.length cap)≠some w.heap.size:=λe=>by have:=HS.o.lt _ e;omega
 generalize wd s 0=s0 at *;generalize wd s 1=s1 at *;generalize wd s 2=s2 at *;generalize wd s 3=s3 at *;have g2:∀o o':Obj,((w.alloc o).alloc o').drew.frozen? ⟨b,2,none⟩=false:=λo o'=>(((((aA.refl [] w).alloc o).alloc o').drew).frozen aO (by simp)).trans f2
 clear h1 h2 hs;go_enter Tryz.func138,Tryz.ntmps138
 go_wp2_with fail
 go_region_law ((refine step_append_lies _ (by rfl) _ _ _ (by rfl) base 192 i0 _ 4 32 Tryz.underlying175 hi KH Sv EK rfl (by omega) (.slice a S.length cap) S.length (S.flatMap AA) (by rfl) (by exact(HS.o.alloc _).alloc _) ⟨w.heap.size+1,0,none⟩ 1 1 [.int .u64 s0,.int .u64 s1,.int .u64 s2,.int .u64 s3] (by rfl) (by rfl) (World.news_of_block (cs:=#[.int .u64 s0,.int .u64 s1,.int .u64 s2,.int .u64 s3]) (t:=192) (fr:=(0,0)) (by exact DU _ _ _)) (by simp[Value.oneCell']) (by omega) (by unfold maxLen;omega) (by omega) (by simp;omega) (w.heap.size+2) (by simp) ?_;intro gg aP w4 bF aG aX zx;have c4:=(aG.cell_far ⟨b,2,none⟩ (by simp;omega) (Ne.symm ab));have f4:=(aG.frozen_far ⟨b,2,none⟩ (by simp;omega) (Ne.symm ab));have f5:=f4.trans (g2 _ _)))
 all_goals
  have F4:=aA.dS aG;have B4:SB w4 w.heap.size s0 s1 s2 s3:=((SB.new (w:=w) (b:=w.heap.size) rfl).aB (S:=[]) (((aA.refl _ _).alloc _).drew) (by simp)).aB F4 (by simpa[a0H] using λe=>an e);have P4:PS w4 b t i (.slice a S.length cap):=(H1.o.aB (S:=[]) ((((aA.refl _ _).alloc _).alloc _).drew) (by simp)).aB F4 (by simpa[a0H] using λe=>ab e);have G4:=aj (FP.trans (base:=base) (b:=b) (((FP.refl base b w).alloc _).alloc _).drew (FP.grown ((HS.o.alloc _).alloc _) aG));have HO4:=aj bF;have z4:=F4.size;simp at z4;have P5:=aj (P4.sets (.slice (some ⟨gg,0,none⟩) (S.length+1) aP));have B5:=B4.far (b':=b) (o:=2) (.slice (some ⟨gg,0,none⟩) (S.length+1) aP) (by omega);obtain⟨q0,q1,q2,q3⟩:=B5.cells;clear aG bF F4 B4 B5 P4 c4 f4;go_wp2;go_ret;refine⟨_,_,rfl,?_,HX.o _ _ (by simp),⟨i,P5.o.aB (S:=[]) ((aA.refl _ _).alloc _) (by simp),H2⟩,?_,(G4.o.aB ((aA.refl _ _).setCell (.inl (by simp)) _)).alloc _⟩
  ·omega
  have o4:=HO4.o;rw[HB.o]at o4;have:=ownsRow_setCell_below o4 (a:=⟨b,2,none⟩) hb (.slice (some ⟨gg,0,none⟩) (S.length+1) aP);have h2:=this.alloc (.cells #[.int .i64 0,.int .u64 s0,.int .u64 s1,.int .u64 s2,.int .u64 s3,.slice none 0 0,.pointer none,.int .i64 0,.int .i64 0] 195);unfold BL;rw[a0v];exact h2
end Go.Proofs.YtgbdcmpmmkfbhaaGreat
