import Derived.Test.YtgbdcmpmmkfbhaaGreatJ2
import Derived.Great.BuildSlice
import Derived.Test.YtgbdcmpmmkfbhaaGreatJ1
set_option linter.unusedVariables false
set_option linter.unusedSimpArgs false
set_option linter.unnecessarySimpa false
set_option maxRecDepth 100000
set_option maxHeartbeats 1000000
namespace Go.Proofs.YtgbdcmpmmkfbhaaGreat
variable {D U l ls t:List NF} {A R S:LN} {i j m n p s:Nat} {hi k:Int} {X Y d g x:NF} {a b:Value} {L:List Bool} {w w':World} {r:LB}
set_option linter.unusedVariables false
set_option linter.unusedSimpArgs false
/-- What tells a form of the table from the others. -/
structure KY where
 kd:Nat
 s:Nat
 fi:Nat
 se:Nat
 L:LN
def Ky(D:List NF)(n:Nat)(k:KY)(d:NF):Prop :=
 (k.kd=2/\k.fi=0/\k.se=0/\k.L=[]/\d=.set k.s) \/
 (k.kd=3/\k.s=0/\k.L=[]/\k.fi<n/\k.se<n/\∃x y,D[k.fi]?=some x/\D[k.se]?=some y/\d=.pair x y) \/
 (k.kd=4/\k.s=0/\k.fi=0/\k.se=0/\k.L.Pairwise (·<·)/\(∀j∈k.L,j<n)/\d=.sum (fU (k.L.map λj=>D.getD j .zero))) \/
 (k.kd=5/\k.s=0/\k.se=0/\k.L=[]/\k.fi<n/\∃x,D[k.fi]?=some x/\d=.star x)
theorem Ky.push{R:List NF} {k:KY}(h:Ky D n k d)(hn:n<=D.length):Ky (D++R) n k d:=by
 have e:∀j x,D[j]?=some x->(D++R)[j]?=some x:=λj x hj=>by
  have:=(a0i.1 hj).1;rw[a0u this];exact hj
 rcases h with h|⟨h1,h2,h3,h4,h5,x,y,h6,h7,h8⟩|⟨h1,h2,h3,h4,h5,h6,h7⟩|⟨h1,h2,h3,h4,h5,x,h6,h7⟩
 ·exact .inl h
 ·exact .inr (.inl ⟨h1,h2,h3,h4,h5,x,y,e _ _ h6,e _ _ h7,h8⟩)
 ·refine .inr (.inr (.inl ⟨h1,h2,h3,h4,h5,h6,?_⟩))
  rw[h7]
  congr 2
  apply a2d;intro j hj;have:=h6 j hj;simp[List.getD,a0u (show j<D.length by omega)]
 exact .inr (.inr (.inr ⟨h1,h2,h3,h4,h5,x,e _ _ h6,h7⟩))
theorem Y2:∀{a b:LN},a.Pairwise (·<·)->b.Pairwise (·<·)->(∀j,j∈a↔j∈b)->a=b
 | [],[],_,_,_=>rfl
 | [],y::b,_,_,h=>by have:=(h y).2 (by simp);simp at this
 | x::a,[],_,_,h=>by have:=(h x).1 (by simp);simp at this
 | x::a,y::b,ha,hb,h=>by
   rw[a1F]at ha hb;have L9:x=y:=by
    have h1:=(h x).1 (by simp);have h2:=(h y).2 (by simp);rcases a0l.1 h1 with e|e
    ·exact e
    rcases a0l.1 h2 with e2|e2
    ·exact e2.symm
    have a1:=ha.1 y e2;have a2:=hb.1 x e;omega
   subst L9
   congr 1
   refine Y2 ha.2 hb.2 λj=>⟨λhj=>?_,λhj=>?_⟩
   ·have:=ha.1 j hj
    rcases a0l.1 ((h j).1 (by simp[hj])) with e|e
    ·omega
    exact e
   have:=hb.1 j hj;rcases a0l.1 ((h j).2 (by simp[hj])) with e|e
   ·omega
   exact e
theorem ug(h:D.Nodup)(hi:D[i]?=some d)(hj:D[j]?=some d):i=j:=by
 obtain⟨h1,e1⟩:=a0i.1 hi;obtain⟨h2,e2⟩:=a0i.1 hj;have bL:=a3l.1 h;rcases Nat.lt_trichotomy i j with hl|hl|hl
 ·exact absurd (e1.trans e2.symm) (bL i j h1 h2 hl)
 ·exact hl
 exact absurd (e2.trans e1.symm) (bL j i h2 h1 hl)
theorem getD_some(h:j<D.length):D[j]?=some (D.getD j .zero):=by simp[List.getD,h]
theorem Ip(h:j<D.length):D.getD j .zero∈D:=a0M (getD_some h)
theorem Ky.inj {k q:KY}(nd:D.Nodup)(wc:∀x∈D,WC x)(h:Ky D n k d)(g:Ky D m q d)(hn:n<=D.length)(hm:m<=D.length):k=q:=by
 obtain⟨kd,s,fi,se,L⟩:=k;obtain⟨kd',s',fi',se',L'⟩:=q;rcases h with⟨h1,h2,h3,h4,h5⟩|⟨h1,h2,h3,h4,h5,x,y,h6,h7,h8⟩|⟨h1,h2,h3,h4,h5,h6,h7⟩|⟨h1,h2,h3,h4,h5,x,h6,h7⟩ <;>
  rcases g with⟨g1,g2,g3,g4,g5⟩|⟨g1,g2,g3,g4,g5,x',y',g6,g7,g8⟩|⟨g1,g2,g3,g4,g5,g6,g7⟩|⟨g1,g2,g3,g4,g5,x',g6,g7⟩ <;>
  simp only at * <;> subst d<;>simp only[NF.set.injEq,NF.pair.injEq,NF.sum.injEq,NF.star.injEq,reduceCtorEq]at *
 ·simp[*]
 ·obtain⟨rfl,rfl⟩:=g8
  simp[ug nd h6 g6,ug nd h7 g7, *]
 ·have hT:∀(M:LN) (k:Nat),k<=D.length->(∀j∈M,j<k)->E8 (M.map λj=>D.getD j .zero):=λM k hk hM=>BR λx hx=>by
   obtain⟨j,hj,rfl⟩:=a0s.1 hx;exact(wc _ (Ip (by have:=hM j hj;omega))).1
  have hL:L=L':=by
   refine Y2 h5 g5 λj=>⟨λhj=>?_,λhj=>?_⟩
   ·have aO:j<D.length:=by have:=h6 j hj;omega
    have m1:D.getD j .zero∈fU (L.map λj=>D.getD j .zero):=(iq (hT L n hn h6)).2 (a0s.2 ⟨j,hj,rfl⟩);rw[g7,iq (hT L' m hm g6)]at m1;obtain⟨j',hj',e⟩:=a0s.1 m1;have hlt':j'<D.length:=by have:=g6 j' hj';omega
    have:=ug nd (getD_some hlt') (by rw[e];exact getD_some aO);exact this ▸ hj'
   have aO:j<D.length:=by have:=g6 j hj;omega
   have m1:D.getD j .zero∈fU (L'.map λj=>D.getD j .zero):=(iq (hT L' m hm g6)).2 (a0s.2 ⟨j,hj,rfl⟩);rw[<-g7,iq (hT L n hn h6)]at m1;obtain⟨j',hj',e⟩:=a0s.1 m1;have hlt':j'<D.length:=by have:=h6 j' hj';omega
   have:=ug nd (getD_some hlt') (by rw[e];exact getD_some aO);exact this ▸ hj'
  simp[*]
 subst g7;simp[ug nd h6 g6, *]
theorem Ky.same {k:KY}{e:NF}(h:Ky D n k d)(g:Ky D m k e):d=e:=by
 rcases h with⟨h1,h2,h3,h4,h5⟩|⟨h1,h2,h3,h4,h5,x,y,h6,h7,h8⟩|⟨h1,h2,h3,h4,h5,h6,h7⟩|⟨h1,h2,h3,h4,h5,x,h6,h7⟩ <;>
  rcases g with⟨g1,g2,g3,g4,g5⟩|⟨g1,g2,g3,g4,g5,x',y',g6,g7,g8⟩|⟨g1,g2,g3,g4,g5,g6,g7⟩|⟨g1,g2,g3,g4,g5,x',g6,g7⟩ <;>
  first | omega|skip
 ·rw[h5,g5]
 ·rw[h8,g8];rw[h6]at g6;rw[h7]at g7;simp at g6 g7;simp[g6,g7]
 ·rw[h7,g7]
 rw[h7,g7];rw[h6]at g6;simp at g6;simp[g6]
theorem Ky.two {k:KY}(h:Ky D n k d):d≠.zero/\d≠.one:=by
 rcases h with⟨h1,h2,h3,h4,h5⟩|⟨h1,h2,h3,h4,h5,x,y,h6,h7,h8⟩|⟨h1,h2,h3,h4,h5,h6,h7⟩|⟨h1,h2,h3,h4,h5,x,h6,h7⟩<;>subst d<;>simp
structure Ml(K:List KY)(D:List NF):Prop where
 len:K.length=D.length
 d0:D[0]?=some .zero
 d1:D[1]?=some .one
 k0:K[0]?=some ⟨0,0,0,0,[]⟩
 k1:K[1]?=some ⟨1,0,0,0,[]⟩
 ky:∀i k d,2<=i->K[i]?=some k->D[i]?=some d->Ky D i k d
 nd:D.Nodup
 wc:∀d∈D,WC d
theorem Ml.two {K:List KY}(t:Ml K D):2<=D.length:=by
 have:=(a0i.1 t.d1).1;omega
theorem Ml.ge {K:List KY}(t:Ml K D)(h:D[i]?=some d)(h0:d≠.zero)(h1:d≠.one):2<=i:=by
 rcases i with _|_|i
 ·rw[t.d0]at h;simp at h;exact absurd h.symm h0
 ·rw[show(0+1)=1 from rfl,t.d1]at h;simp at h;exact absurd h.symm h1
 omega
theorem Ml.aoj {K:List KY}(t:Ml K D)(hi:2<=i)(h:D[i]?=some d):∃k,K[i]?=some k/\Ky D i k d:=by
 have hl:=(a0i.1 h).1;rw[<-t.len]at hl;exact⟨K[i],a0c hl,t.ky i _ d hi (a0c hl) h⟩
theorem Ml.found {K:List KY}(t:Ml K D) {k:KY}(h:Ky D D.length k d)(hi:D[i]?=some d):2<=i/\K[i]?=some k:=by
 have h2:=t.ge hi h.two.1 h.two.2;obtain⟨q,hq,hk⟩:=t.aoj h2 hi;have hl:=(a0i.1 hi).1;exact⟨h2,by rw[hq,Ky.inj t.nd t.wc hk h (by omega) (a0a _)]⟩
theorem Ml.sameKey {K:List KY}(t:Ml K D) {k:KY}(h:Ky D D.length k d)(hi:2<=i)(hk:K[i]?=some k):D[i]?=some d:=by
 have hl:=(a0i.1 hk).1;rw[t.len]at hl;have hd:D[i]?=some D[i]:=a0c hl;rw[hd,(t.ky i k _ hi hk hd).same h]
theorem Ml.push {K:List KY}(t:Ml K D) {k:KY}(h:Ky D D.length k d)(hw:WC d)(hd:d∉D):Ml (K++[k]) (D++[d]):=by
 have h2:=t.two;have hlen:=t.len;refine⟨by simp[t.len],?_,?_,?_,?_,?_,?_,?_⟩
 ·rw[a0u (by omega)];exact t.d0
 ·rw[a0u (by omega)];exact t.d1
 ·rw[a0u (by omega)];exact t.k0
 ·rw[a0u (by omega)];exact t.k1
 ·intro i q e hi hq he
  by_cases hl:i<D.length
  ·rw[a0u (by omega)]at hq he
   exact(t.ky i q e hi hq he).push (by omega)
  have hb:=(a0i.1 he).1;simp at hb;have:i=D.length:=by omega
  subst this;rw[a0R (by omega)]at hq he;simp[hlen]at hq he;subst hq he;exact h.push (a0a _)
 ·rw[List.nodup_append]
  exact⟨t.nd,by simp,λa ha b hb e=>by simp at hb;subst hb;exact hd (e ▸ ha)⟩
 intro x hx;rcases a0b.1 hx with e|e
 ·exact t.wc x e
 simp at e;exact e ▸ hw
def lastB(h:KY->Nat)(K:List KY)(b:Nat):Nat->Nat
 | 0=>0
 | n+1=>if 2<=n/\(K[n]?.map h)=some b then n else lastB h K b n
theorem xG(h:KY->Nat)(K:List KY)(b:Nat):∀n,lastB h K b n=0\/(2<=lastB h K b n/\lastB h K b n<n/\K[lastB h K b n]?.map h=some b)
 | 0=>.inl rfl
 | n+1=>by
   unfold lastB
   split
   next e=>exact .inr ⟨e.1,by omega,e.2⟩
   next e =>
    rcases xG h K b n with e1|⟨e1,e2,e3⟩
    ·exact .inl e1
    exact .inr ⟨e1,by omega,e3⟩
theorem Kk(h:KY->Nat)(K:List KY)(b:Nat):∀n j,j<n->2<=j->K[j]?.map h=some b->j<=lastB h K b n
 | n+1,j,hj,h2,hk=>by
   unfold lastB
   split
   next e=>omega
   next e =>
    by_cases hjn:j=n
    ·subst hjn;exact absurd ⟨h2,hk⟩ e
    exact Kk h K b n j (by omega) h2 hk
theorem Fw(h:KY->Nat)(K:List KY)(k:KY)(b:Nat):∀n,n<=K.length->lastB h (K++[k]) b n=lastB h K b n
 | 0,_=>rfl
 | n+1,hn=>by
   unfold lastB;rw[a0u (by omega),Fw h K k b n (by omega)]
theorem aej(h:KY->Nat)(K:List KY)(k:KY)(b:Nat)(h2:2<=K.length):lastB h (K++[k]) b (K.length+1)=if h k=b then K.length else lastB h K b K.length:=by
 rw[lastB,Fw h K k b _ (a0a _),a0R (a0a _)];simp[h2]
set_option linter.unusedVariables false
set_option linter.unusedSimpArgs false
theorem zi(h:Ris l):l.Nodup:=by
 refine List.Pairwise.imp ?_ h;intro a b qZ e;subst e;rw[xC]at qZ;exact absurd qZ (by decide)
theorem aek {a b:List NF}(ha:E8 a)(hb:E8 b)(h:∀p,p∈a↔p∈b):fU a=fU b :=
 Ua (uX a) (uX b) λp=>by rw[iq ha,iq hb];exact h p
theorem abW(ht:E8 l)(hn:l.Nodup):(fU l).length=l.length :=
 Nat.le_antisymm (oK (zi (uX l)) λx hx=>jR hx) (oK hn λx hx=>(iq ht).2 hx)
def RO(R L:LN):Prop:=R.Pairwise (·<·)/\∀j,j∈R↔j∈L
theorem Kl(nd:D.Nodup)(hr:R.Pairwise (·<·))(hl:∀j∈R,j<D.length):(R.map λj=>D.getD j .zero).Nodup:=by
 rw[List.Nodup,List.pairwise_map];refine List.Pairwise.imp_of_mem ?_ hr;intro a b ha hb qZ e;have:=ug nd (getD_some (hl a ha)) (by rw[e];exact getD_some (hl b hb));omega
theorem Ca(wc:∀x∈D,WC x)(hl:∀j∈R,j<D.length):E8 (R.map λj=>D.getD j .zero) :=
 BR λx hx=>by
  obtain⟨j,hj,rfl⟩:=a0s.1 hx;exact(wc _ (Ip (hl j hj))).1
theorem ala(nd:D.Nodup)(wc:∀x∈D,WC x){L:LN}(h:RO R L)(hl:∀j∈L,j<D.length)(ht:E8 l)(hm:∀p,p∈l↔p∈L.map λj=>D.getD j .zero) :
 fU (R.map λj=>D.getD j .zero)=fU l/\(fU l).length=R.length:=by
 have hR:∀j∈R,j<D.length:=λj hj=>hl j ((h.2 j).1 hj)
 have e:fU (R.map λj=>D.getD j .zero)=fU l:=by
  refine aek (Ca wc hR) ht λp=>?_
  rw[hm p];simp only[a0s];exact⟨λ⟨j,hj,e⟩=>⟨j,(h.2 j).1 hj,e⟩,λ⟨j,hj,e⟩=>⟨j,(h.2 j).2 hj,e⟩⟩
 refine⟨e,?_⟩;rw[<-e,abW (Ca wc hR) (Kl nd h.1 hR)];simp
theorem agH(h:2<=l.length):mkS l=.sum l:=by
 match l,h with
 | a::b::r,_=>rfl
def Cb(U:List NF)(ls:List NF):Prop:=(aY (ls.flatMap parts)≠0->.set (aY (ls.flatMap parts))∈U)/\(2<=(fU (bG (ls.flatMap parts))).length->bI ls∈U)/\(ls.flatMap parts).length<=9000000000000/\ls.length<=9000000000000
mutual
/-- What left makes of a form on its way lies in U. -/
def Cc(c:Nat)(U:List NF):NF->Prop
 | .zero=>True
 | .one=>True
 | .set _=>True
 | .pair a b=>Cc c U a/\(∀f∈sD (left c a) b,f∈U)/\(dY a=true->Cc c U b/\Cb U [aH (left c a) b,left c b])
 | .sum l=>Uv c U l/\Cb U (uV c l)
 | .star a=>Cc c U a/\∀f∈sD (left c a) (.star a),f∈U
def Uv(c:Nat)(U:List NF):List NF->Prop
 | []=>True
 | x::r=>Cc c U x/\Uv c U r
end
theorem Km {c:Nat}:∀{l:List NF},Uv c U l↔∀x∈l,Cc c U x
 | []=>by simp[Uv]
 | x::r=>by simp only[Uv,a0l,forall_eq_or_imp,Km]
theorem Iq:∀l:List NF,abJ l=l.any dY
 | []=>rfl
 | x::r=>by simp[abJ,Iq r]
theorem any_congr {a b:List NF}(h:∀p,p∈a↔p∈b):a.any dY=b.any dY:=by
 rw[a0P,a1H,a1H];exact⟨λ⟨x,hx,e⟩=>⟨x,(h x).1 hx,e⟩,λ⟨x,hx,e⟩=>⟨x,(h x).2 hx,e⟩⟩
theorem alb(h:A.Pairwise (·<=·))(hi:i<=A.length)(h1:∀x∈A.drop i,n<x)(h2:0<i->A.getD (i-1) 0<=n):(A.take i++n::A.drop i).Pairwise (·<=·):=by
 have hs:(A.take i++A.drop i).Pairwise (·<=·):=by rw[a1I];exact h
 rw[List.pairwise_append]at hs |-;have ht:∀x∈A.take i,x<=n:=by
  intro x hx;obtain⟨j,hj,rfl⟩:=a2o.1 hx;simp only[a1q]at hj;rw[List.getElem_take];have h3:=h2 (by omega);have h4:A.getD (i-1) 0=A[i-1]'(by omega):=by simp[List.getD,show i-1<A.length by omega]
  rw[h4]at h3;refine a0e ?_ h3
  by_cases e:j=i-1
  ·subst e;exact a0a _
  exact a3l.1 h j (i-1) (by omega) (by omega) (by omega)
 refine⟨hs.1,?_,?_⟩
 ·rw[a1F]
  exact⟨λx hx=>Nat.le_of_lt (h1 x hx),hs.2.1⟩
 intro x hx y hy;rcases a0l.1 hy with e|e
 ·subst e;exact ht x hx
 exact hs.2.2 x hx y e
theorem agI(j:Nat):j∈A.take i++n::A.drop i↔j∈A\/j=n:=by
 have e:j∈A↔j∈A.take i++A.drop i:=by rw[a1I]
 rw[e];simp only[a0b,a0l]
 constructor
 ·rintro(h|h|h)
  ·exact .inl (.inl h)
  ·exact .inr h
  exact .inl (.inr h)
 rintro((h|h)|h)
 ·exact .inl h
 ·exact .inr (.inr h)
 exact .inr (.inl h)
theorem aip{O:LN} {k:Nat}(hR:R.Pairwise (·<=·))(hk:k<R.length)(h:RO O (R.take k)) :
 ((k=0\/R.getD (k-1) 0≠R[k])->RO (O++[R[k]]) (R.take (k+1)))/\(¬ (k=0\/R.getD (k-1) 0≠R[k])->RO O (R.take (k+1))):=by
 have ht:R.take (k+1)=R.take k++[R[k]]:=by rw[a1n,a0c hk];rfl
 have hp:=a3l.1 hR
 constructor
 ·intro hc
  constructor
  ·rw[List.pairwise_append]
   refine⟨h.1,by simp,?_⟩;intro x hx y hy;simp at hy;subst hy;obtain⟨j,hj,rfl⟩:=a2o.1 ((h.2 x).1 hx);simp only[a1q]at hj;rw[List.getElem_take];have h1:=hp j k (by omega) hk (by omega);have h4:R.getD (k-1) 0=R[k-1]'(by omega):=by simp[List.getD,show k-1<R.length by omega]
   rcases hc with hc|hc
   ·omega
   rw[h4]at hc;have h2:R[j]<=R[k-1]:=by
    by_cases e:j=k-1
    ·subst e;exact a0a _
    exact hp j (k-1) (by omega) (by omega) (by omega)
   have h3:=hp (k-1) k (by omega) hk (by omega);omega
  intro j;rw[ht];simp only[a0b,h.2 j]
 intro hc;have nL:¬ k=0:=λe=>hc (.inl e)
 have uM:R.getD (k-1) 0=R[k]:=Decidable.byContradiction λe=>hc (.inr e)
 refine⟨h.1,λj=>?_⟩;rw[ht,h.2 j];simp only[a0b,a0y];refine⟨λe=>.inl e,λe=>e.elim id λe=>?_⟩;subst e;rw[<-uM];have h4:R.getD (k-1) 0=R[k-1]'(by omega):=by simp[List.getD,show k-1<R.length by omega]
 rw[h4];exact a2o.2 ⟨k-1,by simp;omega,by simp⟩
set_option linter.unusedVariables false
set_option linter.unusedSimpArgs false
theorem ael(h:∀p∈l,ik p=true):parts (mkS l)=l:=by
 match l,h with
 | [],_=>rfl
 | [x],h=>exact uw (h x (by simp))
 | x::y::r,_=>rfl
theorem agJ(hw:∀x∈ls,wf x):parts (bI ls)=fU (bG (ls.flatMap parts)) :=
 ael λp hp=>Ud (Ue hw) p (jR hp)
theorem Y3(h:WC x):(parts x).Nodup/\∀p∈parts x,di p=true->p=.set (aY (parts x)):=by
 have hT:bI [x]=x:=Kh h.1 h.2;have hw:∀y ∈ [x],wf y:=by simp;exact h.1
 have hp:=agJ hw;rw[hT]at hp;simp only[a0Z,a2h,a0Q]at hp;refine⟨by rw[hp];exact zi (uX _),?_⟩;intro p hm hs;rw[hp]at hm;rcases ku.1 (jR hm) with⟨_,e⟩|⟨_,e⟩
 ·rw[hs]at e;exact absurd e (by decide)
 exact e
theorem Kn(h:WC x) {V:List NF}(hV:∀p∈parts x,di p=true\/p=.one\/p∈V):(parts x).length<=V.length+2:=by
 have:=oK (b:=.one::.set (aY (parts x))::V) (Y3 h).1 (by
  intro p hp;rcases hV p hp with e|e|e
  ·rw[(Y3 h).2 p hp e];simp
  ·rw[e];simp
  simp[e])
 simpa using this
theorem aem:∀{b:NF},can b->∀x∈elems b,can x:=by
 intro b;refine NF.ind (P:=λb=>can b->∀x∈elems b,can x) ?_ b;intro b ih hb x hx;cases b with
 | pair a d =>
   simp only[elems,a0l]at hx;rcases hx with rfl|hx
   ·exact hb.1
   exact ih d (by simp[NF.size];omega) hb.2 x hx
 | zero=>simp[elems]at hx;subst hx;exact hb
 | one=>simp[elems]at hx;subst hx;exact hb
 | set s=>simp[elems]at hx;subst hx;exact hb
 | sum l=>simp[elems]at hx;subst hx;exact hb
 | star a=>simp[elems]at hx;subst hx;exact hb
theorem abX(hX:can X)(h:(Y,t)∈bq X):can Y/\∀x∈t,can x:=by
 revert Y t hX
 refine NF.ind (P:=λX=>∀{Y:NF} {t:List NF},can X->(Y,t)∈bq X->can Y/\∀x∈t,can x) ?_ X;intro X ih Y t hX h;rcases qH h with⟨rfl,rfl⟩|⟨a,b,s,rfl,g,rfl⟩|⟨a,b,rfl,g⟩|⟨l,z,rfl,hz,g⟩|⟨a,s,rfl,g,rfl⟩
 ·exact⟨hX,by intro x hx;simp at hx⟩
 ·have h1:=ih a (by simp[NF.size];omega) hX.1 g
  refine⟨h1.1,?_⟩;intro x hx;rcases a0b.1 hx with hx|hx
  ·exact h1.2 x hx
  exact aem hX.2 x hx
 ·exact ih b (by simp[NF.size];omega) hX.2 g
 ·have h1:=dK hz
  exact ih z (by simp[NF.size];omega) (uA.1 hX.1 z hz) g
 have h1:=ih a (by simp[NF.size]) hX g;refine⟨h1.1,?_⟩;intro x hx;rcases a0b.1 hx with hx|hx
 ·exact h1.2 x hx
 simp at hx;subst hx;exact hX
theorem Uw:∀{t:List NF},(∀x∈t,can x)->can (chain t)
 | [],_=>trivial
 | [x],h=>h x (by simp)
 | x::y::r,h=>⟨h x (by simp),Uw (t:=y::r) λz hz=>h z (a2a _ hz)⟩
theorem afC(hw:wf X)(hX:can X)(w:LN):can (dW X w):=by
 unfold dW
 induction w generalizing X with
 | nil=>exact hX
 | cons c w ih=>exact ih (gK c X hw) (YO c X hw hX)
theorem anh {h:NF}(hh:WC h)(ht:BJ t)(hc:∀x∈t,can x)(hd:t≠[]->dE h=true):WC (mk h t):=by
 by_cases e:t=[]
 ·subst e;exact hh
 rw[jS e];exact⟨⟨hh.1,BM ht,hd e,eG ht e⟩,hh.2,Uw hc⟩
theorem Tu {w:LN}(hX:WC X)(h:qx X w g):WC g:=by
 obtain⟨Z,u,Y,t,v,hZ,hY,hv,rfl,hh⟩:=h;have z1:=bJ hX.1 hZ;have z2:=abX hX.2 hZ;have y1:=bJ z1.1 hY;have y2:=abX z2.1 hY;exact anh ⟨A9 y1.1 v,afC y1.1 y2.1 v⟩ y1.2 y2.2 hh
theorem aen:∀{a b:NF},wf a->aM a=true->aM b=true->aH a b∈sD a b:=by
 intro a b hw ha hb;cases a with
 | zero=>simp[aM]at ha
 | one=>simp[aM]at ha
 | set s=>rw[lF rfl hb,aU rfl hb];simp
 | sum l=>rw[lF rfl hb,aU rfl hb];simp
 | star x=>rw[lF rfl hb,aU rfl hb];simp
 | pair x y =>
   have ht:aM (aH y b)=true:=dO hw.2.1 hw.2.2.2 hb;rw[cz hb,BS hb,lF hw.2.2.1 ht,aU hw.2.2.1 ht];simp
theorem abY {a b:NF}(hw:wf a)(ha:aM a=true)(hb:aM b=true):parts (aH a b)=[aH a b]:=by
 have:∀{a b:NF},dE a=true->aM b=true->parts (aH a b)=[aH a b]:=λh1 h2=>by rw[aU h1 h2];rfl
 cases a with
 | zero=>simp[aM]at ha
 | one=>simp[aM]at ha
 | set s=>exact this rfl hb
 | sum l=>exact this rfl hb
 | star x=>exact this rfl hb
 | pair x y =>
   rw[cz hb];exact this hw.2.2.1 (dO hw.2.1 hw.2.2.2 hb)
theorem OJ{Z:NF}{u:List NF} {v w:LN} {c:Nat}(hX:wf X)(hZ:(Z,u)∈bq X)(hY:(Y,t)∈bq Z)(hv:v <:+ w) {p:NF}
 (hp:p∈parts (aH (left c (dW Y v)) (chain t))):di p=true\/p=.one\/qx X (w++[c]) p:=by
 have BO:=(bJ hX hZ).1;have zT:=(bJ BO hY);have hv':v++[c] <:+ w++[c]:=by obtain⟨z,rfl⟩:=hv;exact⟨z,by simp⟩
 by_cases ht:t=[]
 ·subst ht
  rw[show chain []=.one from rfl,bz,<-su]at hp;obtain⟨s,hs⟩:=wI hZ hY;exact Ug hs hv' (wG Y zT.1 _ p hp)
 have hT:=eG zT.2 ht;have hwA:=gK c _ (A9 zT.1 v)
 by_cases hA:aM (left c (dW Y v))=true
 ·rw[abY hwA hA hT]at hp
  simp at hp;exact .inr (.inr (Um hX hZ hY ht hv (by rw[hp];exact aen hwA hA hT)))
 rcases fC hA with e|e
 ·rw[e]at hp;simp[aH,parts]at hp
 rw[e,show aH .one (chain t)=chain t from rfl]at hp;exact Ug hZ List.suffix_rfl (Kc BO hY _ hp)
theorem agK{p:NF} {w:LN} {c:Nat}(hX:wf X)(h:qx X w g)(hp:p∈parts (left c g)):di p=true\/p=.one\/qx X (w++[c]) p:=by
 obtain⟨Z,u,Y,t,v,hZ,hY,hv,rfl,hh⟩:=h;have BO:=(bJ hX hZ).1;have zT:=(bJ BO hY);rcases LZ (A9 zT.1 v) zT.2 hp with e|e|⟨x,c1,r,e1,e2⟩
 ·exact .inl e
 ·exact OJ hX hZ hY hv e
 exact OJ (Y:=c1) (v:=[]) hX hZ (qY hY e1) a2l e2
theorem aaF {w:LN}(hX:WC X)(h:qx X w (.sum l)):l.length<=X.size*(w.length+1)+2:=by
 have xA:=Tu hX h;obtain⟨Z,u,Y,t,v,hZ,hY,hv,hf,hh⟩:=h;have ht:t=[]:=Decidable.byContradiction λe=>by rw[jS e]at hf;simp at hf
 subst ht;rw[show mk (dW Y v) []=dW Y v from rfl]at hf;have BO:=(bJ hX.1 hZ).1;have zT:=(bJ BO hY).1;have hlen:=Kn xA (V:=(bq Y).flatMap λo=>(Af v).map λv'=>mk (dW o.1 v') o.2) (by
  intro p hp;rw[hf]at hp;rcases wG Y zT v p hp with e|e|⟨Y',s,v',h1,h2,h3,h4,h5⟩
  ·exact .inl e
  ·exact .inr (.inl e)
  exact .inr (.inr (a0U.2 ⟨(Y',s),h1,a0s.2 ⟨v',Ii h2,h4.symm⟩⟩)))
 rw[show parts (.sum l)=l from rfl]at hlen;have hc:((bq Y).flatMap λo=>(Af v).map λv'=>mk (dW o.1 v') o.2).length=(bq Y).length*(v.length+1):=by
  rw[uY _ (λ_=>v.length+1) (λo=>by simp[Ij])];generalize bq Y=q
  induction q with
  | nil=>simp
  | cons a r ih=>simp only[a0A,a0W,ih,a0o,a0r,a1U];omega
 rw[hc,Uo]at hlen;have a1:Y.size<=X.size:=a0e (nK hY).1 (nK hZ).1;have a2:v.length<=w.length:=hv.length_le;have a3:Y.size*(v.length+1)<=X.size*(w.length+1):=a0E a1 (by omega);omega
theorem Y4(h:∀x∈ls,(parts x).length<=n):(ls.flatMap parts).length<=ls.length*n:=by
 induction ls with
 | nil=>simp
 | cons a r ih =>
   have h1:=h a (by simp);have h2:=ih λx hx=>h x (by simp[hx])
   simp only[a0Z,a0v,a0o,a0r,a1U];omega
theorem agL {w:LN} {c:Nat}(hX:WC X)(hs:X.size<=3280)(hh:X.size*dJ X<=524800)(hw:w.length<=39)(hU:∀f,Made X w c f->f∈U)(g:NF):qx X w g->Cc c U g:=by
 have hV:(Me X (w++[c])).length<=21516800:=by
  rw[YS];have h1:=abP X;simp only[a0v,a0o,a1f];have h2:lv (bq X)*(w.length+(0+1)+1)<=524800*41:=a0E (by omega) (by omega);omega
 have hnp:∀g,qx X w g->(parts (left c g)).length<=21516802:=λg hg=>by
  have:=Kn (WC.left c (Tu hX hg)) (V:=Me X (w++[c])) λp hp=>by
   rcases agK hX.1 hg hp with e|e|e
   ·exact .inl e
   ·exact .inr (.inl e)
   exact .inr (.inr (BU e))
  omega
 refine NF.ind (P:=λg=>qx X w g->Cc c U g) ?_ g;intro g ih hg;cases g with
 | zero=>trivial
 | one=>trivial
 | set s=>trivial
 | star a =>
   exact⟨ih a (by simp[NF.size]) (Ui hX.1 hg),λf hf=>hU f (aec hX.1 hg f hf)⟩
 | pair a b =>
   have xA:=Tu hX hg;refine⟨ih a (by simp[NF.size];omega) (Uh hX.1 hg),λf hf=>hU f (aeb hX.1 hg f hf),λhn=>⟨ih b (by simp[NF.size];omega) (Ki hX.1 hg),?_⟩⟩;have hl:left c (.pair a b)=bI [aH (left c a) b,left c b]:=by simp only[left,hn,a0C];rfl
   have ha:WC a:=⟨xA.1.1,xA.2.1⟩;have hb:WC b:=⟨xA.1.2.1,xA.2.2⟩;have w1:∀x ∈ [aH (left c a) b,left c b],WC x:=by
    intro x hx;simp at hx;rcases hx with rfl|rfl
    ·exact WC.then (WC.left c ha) hb
    exact WC.left c hb
   refine⟨λ_=>?_,λ_=>?_,?_,by simp⟩
   ·have:=YQ (c:=c) hg
    rw[hl,Ox λx hx=>(w1 x hx).1]at this;exact hU _ this
   ·have:=Un (c:=c) hg
    rw[hl]at this;exact hU _ this
   have h1:(parts (aH (left c a) b)).length<=21516802:=by
    have:=Kn (w1 (aH (left c a) b) (by simp)) (V:=Me X (w++[c])) λp hp=>by
     obtain⟨Z,u,Y,t,v,hZ,hY,ht,hv,rfl,_,rfl⟩:=Ih hX.1 hg;rcases OJ hX.1 hZ hY hv hp with e|e|e
     ·exact .inl e
     ·exact .inr (.inl e)
     exact .inr (.inr (BU e))
    omega
   have h2:=hnp b (Ki hX.1 hg);simp only[a0Z,a2h,a0v,a1f];omega
 | sum l =>
   have xA:=Tu hX hg;have hlen:=aaF hX hg;have aaG:l.length<=131202:=by
    have:X.size*(w.length+1)<=3280*40:=a0E hs (by omega);omega
   have hl:left c (.sum l)=bI (uV c l):=by simp only[left]
   have hm:∀p∈l,WC p:=λp hp=>⟨jQ.1 xA.1.1 p hp,uA.1 xA.2.1 p hp⟩
   have w1:∀x∈uV c l,WC x:=by
    intro x hx;rw[gJ]at hx;obtain⟨p,hp,rfl⟩:=a0s.1 hx;exact WC.left c (hm p hp)
   have hd:∀p∈l,p.size<(NF.sum l).size:=λp hp=>by have:=dK hp;simp[NF.size];omega
   refine⟨Km.2 λp hp=>?_,λ_=>?_,λ_=>?_,?_,?_⟩
   ·rcases Uk hX.1 hg hp with e|e|e
    ·cases p<;>simp[di]at e;trivial
    ·subst e;trivial
    exact ih p (hd p hp) e
   ·have:=YQ (c:=c) hg
    rw[hl,Ox λx hx=>(w1 x hx).1]at this;exact hU _ this
   ·have:=Un (c:=c) hg
    rw[hl]at this;exact hU _ this
   ·have:=Y4 (ls:=uV c l) (n:=21516802) (by
     intro x hx;rw[gJ]at hx;obtain⟨p,hp,rfl⟩:=a0s.1 hx;rcases Uk hX.1 hg hp with e|e|e
     ·cases p<;>simp[di]at e
      simp only[left];split<;>simp[parts]
     ·subst e;simp[left,parts]
     exact hnp p e)
    rw[gJ,a0B]at this;rw[gJ];have h3:l.length*21516802<=131202*21516802:=a0w _ aaG;omega
   rw[gJ,a0B];omega
set_option linter.unusedVariables false
set_option linter.unusedSimpArgs false
theorem zk(hw:wf x)(hc:can x):(parts x).Nodup/\∃s,∀p∈parts x,di p=true->p=.set s:=by
 cases x with
 | zero=>exact⟨by simp[parts],0,by simp[parts]⟩
 | one=>exact⟨by simp[parts],0,by simp[parts,di]⟩
 | set s=>exact⟨by simp[parts],s,by simp[parts]⟩
 | pair a b=>exact⟨by simp[parts],0,by simp[parts,di]⟩
 | star a=>exact⟨by simp[parts],0,by simp[parts,di]⟩
 | sum l =>
   have hT:mkS (fU (bG ([NF.sum l].flatMap parts)))=.sum l:=hc.2;simp only[a0Z,a2h,a0Q,parts]at hT;have ha:∀p∈fU (bG l),ik p=true:=by
    intro p hp;rcases uu (jR hp) with h|h
    ·exact BH h
    exact hw.2 p h
   have hl:fU (bG l)=l:=by
    generalize hL:fU (bG l)=L at *
    match L,hT,ha with
    | [],hT,_=>simp[mkS]at hT
    | [y],hT,ha =>
      have h1:y=.sum l:=hT;have h2:=ha y (by simp);rw[h1]at h2;simp[ik]at h2
    | y::z::r,hT,_=>simp only[mkS,NF.sum.injEq]at hT;exact hT
   simp only[parts];refine⟨by rw[<-hl];exact zi (uX _),aY l,λp hp hs=>?_⟩;rw[<-hl]at hp;have h1:=jR hp;unfold bG at h1;rcases a0b.1 h1 with h2|h2
   ·simp[hs]at h2
   split at h2
   ·simp at h2
   simpa using h2
theorem agM(z:NF):∀b:NF,vU b=false->b≠.one->vU (aH z b)=false/\aH z b≠.one:=by
 refine NF.ind (P:=λz=>∀b:NF,vU b=false->b≠.one->vU (aH z b)=false/\aH z b≠.one) ?_ z;intro z ih b hb h1;cases z with
 | zero=>exact⟨rfl,by simp[aH]⟩
 | one=>exact⟨by simpa[aH] using hb,by simpa[aH] using h1⟩
 | pair c d =>
   cases b with
   | zero=>exact⟨by simp[aH,vU],by simp[aH]⟩
   | one=>exact absurd rfl h1
   | set s=>simp[vU]at hb
   | sum l=>simp[vU]at hb
   | pair x y =>
     have h2:=ih d (by simp[NF.size];have:=NF.size_pos c;omega) (.pair x y) rfl (by simp);have h3:=ih c (by simp[NF.size];have:=NF.size_pos d;omega) _ h2.1 h2.2;simpa[aH] using h3
   | star x =>
     have h2:=ih d (by simp[NF.size];have:=NF.size_pos c;omega) (.star x) rfl (by simp);have h3:=ih c (by simp[NF.size];have:=NF.size_pos d;omega) _ h2.1 h2.2;simpa[aH] using h3
 | set s =>
   cases b with
   | one=>exact absurd rfl h1
   | _=>simp[aH,vU]at hb |-
 | sum l =>
   cases b with
   | one=>exact absurd rfl h1
   | _=>simp[aH,vU]at hb |-
 | star a =>
   cases b with
   | one=>exact absurd rfl h1
   | _=>simp[aH,vU]at hb |-
theorem abZ {y:NF}(hy:vU y=false):bI [y]=y:=by
 cases y with
 | set s=>simp[vU]at hy
 | sum l=>simp[vU]at hy
 | zero=>rfl
 | one=>simp[bI,parts,bG,di,aY,bits,fU,put,mkS]
 | pair a b=>simp[bI,parts,bG,di,aY,bits,fU,put,mkS]
 | star a=>simp[bI,parts,bG,di,aY,bits,fU,put,mkS]
theorem Y5(c:Nat):∀l:List NF,(l.map (left c)).flatMap parts=((l.filter (λx=>!rf x)).map (left c)).flatMap parts
 | []=>rfl
 | x::r=>by
   have ih:=Y5 c r;cases hx:rf x
   ·simp only[a0A,a0Z,a2z,hx,a1y,a0C,ih]
   have:x=.one:=by cases x<;>simp[rf]at hx;rfl
   subst this;simp only[a0A,a0Z,a2z,rf,a2q,a0n,a0G,ih];simp[left,parts]
theorem Aj(c:Nat)(h:lW x=true):vU (left c x)=false:=by
 cases x with
 | set s=>simp only[left];split<;>rfl
 | star a=>simp only[left];exact(agM _ (.star a) rfl (by simp)).1
 | zero=>simp[lW]at h
 | one=>simp[lW]at h
 | pair a b=>simp[lW]at h
 | sum l=>simp[lW]at h
theorem aeo(c:Nat)(h:EI l=false):vU (left c (.sum l))=false:=by
 unfold EI at h
 split at h
 ·rename_i x hx
  have hp:lW x=true:=by simpa using h
  have e:left c (.sum l)=bI [left c x]:=by
   simp only[left,gJ];unfold bI;rw[Y5,hx];simp
  rw[e,abZ (Aj c hp)];exact Aj c hp
 cases h
def oL:NF->Bool | .pair _ _=>true | .sum l=>EI l|_=>false
theorem ani(c:Nat)(h:vU (left c Y)=true):oL Y=true:=by
 cases Y with
 | zero=>simp[left,vU]at h
 | one=>simp[left,vU]at h
 | set s=>rw[Aj c rfl]at h;cases h
 | star a=>rw[Aj c rfl]at h;cases h
 | pair a b=>rfl
 | sum l =>
   cases hb:EI l
   ·rw[aeo c hb]at h;cases h
   simpa[oL] using hb
theorem aiq(X:NF):∀(K t:List NF) (Y:NF),(Y,t)∈hsk K X->t≠[]/\∃s,(Y,s)∈bq X/\t=s++K:=by
 refine NF.ind (P:=λX=>∀(K t:List NF) (Y:NF),(Y,t)∈hsk K X->t≠[]/\∃s,(Y,s)∈bq X/\t=s++K) ?_ X;intro X ih K t Y h;cases X with
 | zero=>simp[hsk]at h
 | one=>simp[hsk]at h
 | set n=>simp[hsk]at h
 | pair a b =>
   simp only[hsk,a0b]at h;rcases h with h|h
   ·obtain⟨h1,s,h2,h3⟩:=ih a (by simp[NF.size];have:=NF.size_pos b;omega) _ t Y h
    exact⟨h1,s++elems b,zb h2,by rw[h3];simp⟩
   obtain⟨h1,s,h2,h3⟩:=ih b (by simp[NF.size];have:=NF.size_pos a;omega) _ t Y h;exact⟨h1,s,ze h2,h3⟩
 | sum l =>
   simp only[hsk,a0b]at h;rcases h with h|h
   ·cases K with
    | nil=>simp at h
    | cons x k=>simp at h;obtain⟨rfl,rfl⟩:=h;exact⟨by simp,[],eP _,rfl⟩
   rw[Il]at h;obtain⟨x,hx,h⟩:=h;obtain⟨h1,s,h2,h3⟩:=ih x (by have:=dK hx;simp[NF.size];omega) _ t Y h;exact⟨h1,s,E6 hx h2,h3⟩
 | star a =>
   simp only[hsk,a0b]at h;rcases h with h|h
   ·split at h
    ·simp at h
    simp at h;obtain⟨rfl,rfl⟩:=h;exact⟨by simp,[.star Y],by have:=uz (eP Y);simpa using this,rfl⟩
   obtain⟨h1,s,h2,h3⟩:=ih a (by simp[NF.size]) _ t Y h;exact⟨h1,s++[.star a],uz h2,by rw[h3];simp⟩
theorem OM(X:NF):∀(Y:NF) (t:List NF),can X->(Y,t)∈bq X->can Y:=by
 refine NF.ind (P:=λX=>∀(Y:NF) (t:List NF),can X->(Y,t)∈bq X->can Y) ?_ X;intro X ih Y t hc h;cases X with
 | zero=>simp[bq]at h;rw[h.1];exact hc
 | one=>simp[bq]at h;rw[h.1];exact hc
 | set n=>simp[bq]at h;rw[h.1];exact hc
 | pair a b =>
   simp only[bq,a0l,a0b,a0s,Prod.mk.injEq]at h;rcases h with⟨rfl,rfl⟩|⟨⟨Y',s'⟩,ho,rfl,rfl⟩|ho
   ·exact hc
   ·exact ih a (by simp[NF.size];have:=NF.size_pos b;omega) _ s' hc.1 ho
   exact ih b (by simp[NF.size];have:=NF.size_pos a;omega) _ t hc.2 ho
 | sum l =>
   simp only[bq,a0l,Prod.mk.injEq]at h;rcases h with⟨rfl,rfl⟩|ho
   ·exact hc
   rw[BN]at ho;obtain⟨x,hx,ho⟩:=ho;exact ih x (by have:=dK hx;simp[NF.size];omega) _ t (uA.1 hc.1 x hx) ho
 | star a =>
   simp only[bq,a0l,a0s,Prod.mk.injEq]at h;rcases h with⟨rfl,rfl⟩|⟨⟨Y',s'⟩,ho,rfl,rfl⟩
   ·exact hc
   exact ih a (by simp[NF.size]) _ s' hc ho
set_option linter.unusedVariables false
set_option linter.unusedSimpArgs false
def fO(k:Nat)(o:NF × List NF):Nat:=if dE o.1&&!(iU o.1&&o.2.isEmpty&&k==0) then nl o.1+tn o.2+k+1 else 0
theorem afD(h:t≠[]):3<=tn t:=by
 cases t with
 | nil=>exact absurd rfl h
 | cons x r=>simp[tn];omega
theorem ab0(k:Nat)(o:NF × List NF)(t:List NF)(ht:t≠[]):fO k (o.1,o.2++t)=fO (k+tn t) o:=by
 have:=afD ht;have h1:(o.2++t).isEmpty=false:=by cases t with | nil=>exact absurd rfl ht|cons x r=>simp
 have h2:(k+tn t==0)=false:=by rw[a0k];omega
 unfold fO;simp only[h1,h2,a3o,a3p,a1y,a2r,afB]
 split<;>omega
theorem agN(X:NF):∀k,wf X->((bq X).map (fO k)).sum<=oG X k:=by
 refine NF.ind (P:=λX=>∀k,wf X->((bq X).map (fO k)).sum<=oG X k) ?_ X;intro X ih k hw;cases X with
 | zero=>simp[bq,fO,dE]
 | one=>simp[bq,fO,dE]
 | set s=>simp[bq,fO,dE,iU,oG,tn]
 | pair a b =>
   have h1:=ih a (by simp[NF.size];have:=NF.size_pos b;omega) (k+(nl b+3)) hw.1;have h2:=ih b (by simp[NF.size];have:=NF.size_pos a;omega) k hw.2.1;simp only[bq,a0A,a0T,a2C,a0W,a2c,oG];have e:(bq a).map (fO k ∘ λo=>(o.1,o.2++elems b))=(bq a).map (fO (k+(nl b+3))):=by
    refine a2d λo _=>?_
    rw[Function.comp,ab0 k o (elems b) (BI b),Y1 hw.2.1]
   rw[e];have e2:fO k (NF.pair a b,[])=0:=by simp[fO,dE]
   rw[e2,show k+nl b+3=k+(nl b+3) by omega];omega
 | sum l =>
   have hL:∀(r:List NF),(∀x∈r,x∈l)->((Ae r).map (fO k)).sum<=Sf r k:=by
    intro r
    induction r with
    | nil=>intro _;simp[Ae,Sf]
    | cons x r ihr =>
      intro hr;have h1:=ih x (by have:=dK (hr x (by simp));simp[NF.size];omega) k (jQ.1 hw.1 x (hr x (by simp)));have h2:=ihr (λy hy=>hr y (by simp[hy]));simp only[Ae,a0T,a2c,Sf];omega
   have h1:=hL l (λ_ h=>h);simp only[bq,a0A,a0W,oG];have e2:fO k (NF.sum l,[])<=if k=0 then 0 else nl (.sum l)+k+1:=by
    unfold fO
    by_cases hk:k=0
    ·subst hk;simp[dE,iU]
    have:(k==0)=false:=by rw[a0k];exact hk
    simp[dE,iU,hk,tn]
   omega
 | star a =>
   have h1:=ih a (by simp[NF.size]) (k+(nl (.star a)+3)) hw.1;simp only[bq,a0A,a2C,a0W,oG];have e:(bq a).map (fO k ∘ λo=>(o.1,o.2++[.star a]))=(bq a).map (fO (k+(nl (.star a)+3))):=by
    refine a2d λo _=>?_
    rw[Function.comp,ab0 k o [.star a] (by simp)];simp[tn]
   rw[e];have e2:fO k (NF.star a,[])=nl (.star a)+k+1:=by simp[fO,dE,iU,tn]
   rw[e2,show k+nl (.star a)+3=k+(nl (.star a)+3) by omega];omega
def fH(n:Nat)(o:NF × List NF):Nat:=if oL o.1 then sumTo (λj=>nB o.1 j+tn o.2+1) n else 0
theorem agO(X:NF):∀(K:List NF) (n:Nat),wf X->((hsk K X).map (fH n)).sum<=hG X (tn K) n:=by
 refine NF.ind (P:=λX=>∀(K:List NF) (n:Nat),wf X->((hsk K X).map (fH n)).sum<=hG X (tn K) n) ?_ X;intro X ih K n hw;cases X with
 | zero=>simp[hsk]
 | one=>simp[hsk]
 | set s=>simp[hsk]
 | pair a b =>
   have h1:=ih a (by simp[NF.size];have:=NF.size_pos b;omega) (elems b++K) n hw.1;have h2:=ih b (by simp[NF.size];have:=NF.size_pos a;omega) K n hw.2.1;rw[afB,Y1 hw.2.1,show nl b+3+tn K=tn K+nl b+3 by omega]at h1;simp only[hsk,a0T,a2c,hG];omega
 | sum l =>
   have hL:∀(r:List NF),(∀x∈r,x∈l)->((QE K r).map (fH n)).sum<=Sg r (tn K) n:=by
    intro r
    induction r with
    | nil=>intro _;simp[QE,Sg]
    | cons x r ihr =>
      intro hr;have h1:=ih x (by have:=dK (hr x (by simp));simp[NF.size];omega) K n (jQ.1 hw.1 x (hr x (by simp)));have h2:=ihr (λy hy=>hr y (by simp[hy]));simp only[QE,a0T,a2c,Sg];omega
   have h1:=hL l (λ_ h=>h);simp only[hsk,a0T,a2c,hG];refine a2Z ?_ h1;cases K with
   | nil=>simp
   | cons x k =>
     have hp:=afD (t:=x::k) (by simp);have hk0:¬ tn (x::k)=0:=by omega
     simp only[a1J,a0n,a0G,a0A,a1T,a0W,List.sum_nil,a1G,hk0];unfold fH
     by_cases hb:EI l=true
     ·rw[a0j (show oL (NF.sum l,x::k).1=true from hb),a0j hb]
      refine oD λj _ _=>?_
      simp only[nB,oG,hG,a0C];omega
     rw[a0g (show ¬ oL (NF.sum l,x::k).1=true from hb)];exact a1C _
 | star a =>
   have h1:=ih a (by simp[NF.size]) (.star a::K) n hw.1;rw[show tn (.star a::K)=tn K+nl (.star a)+3 by simp[tn];omega]at h1;simp only[hsk,a0T,a2c,hG];refine a2Z ?_ h1
   split
   ·simp
   rename_i hs
   simp only[a0A,a1T,a0W,List.sum_nil,a1G];unfold fH;have:oL a=fB a:=by cases a<;>simp[oL,fB,iU]at hs |-
   by_cases hb:fB a=true
   ·rw[a0j (show oL (a,NF.star a::K).1=true from this.trans hb),a0j hb]
    refine oD λj _ _=>?_
    simp only[nB];rw[show tn (.star a::K)=tn K+nl (.star a)+3 by simp[tn];omega];omega
   rw[a0g (show ¬ oL (a,NF.star a::K).1=true from by rw[show(a,NF.star a::K).1=a from rfl,this];exact hb)];exact a1C _
theorem aep(f g:Nat->Nat):∀m,(∀i,i<m->f i<=g (m-i))->((List.range m).map f).sum<=sumTo g m:=by
 intro m
 induction m generalizing f with
 | zero=>intro _;simp[sumTo]
 | succ m ih =>
   intro h;rw[List.range_succ_eq_map,a0A,a2C,a0W];have h1:=ih (f ∘ Nat.succ) (λi hi=>by
    have:=h (i+1) (by omega);rw[show m+1-(i+1)=m-i by omega]at this;exact this)
   have h0:=h 0 (by omega);simp only[sumTo];rw[Nat.sub_zero]at h0;omega
theorem Ux {α:Type}(F:α->List NF)(c:α->Nat):∀l:List α,(∀x∈l,sW (F x)<=c x)->sW (l.flatMap F)<=(l.map c).sum
 | [],_=>by simp[sW]
 | x::r,h=>by
   have h1:=h x (by simp);have h2:=Ux F c r (λy hy=>h y (by simp[hy]));rw[a0Z,Im];simp only[a0A,a0W];omega
theorem anj(X:NF):wf X->can X->∀(w:LN) (n:Nat),w.length<=n->nl (dW X w)<=nB X n:=by
 refine NF.ind (P:=λX=>wf X->can X->∀(w:LN) (n:Nat),w.length<=n->nl (dW X w)<=nB X n) ?_ X;intro X ih hw hc w n hn;have hwd:=A9 hw w;obtain⟨oo,s0,hs0⟩:=zk hwd (afC hw hc w)
 let K1:List NF:=(bq X).flatMap λo=>if dE o.1&&!(iU o.1&&o.2.isEmpty&&(0:Nat)==0) then [mk o.1 o.2] else []
 let K2:List NF:=(hsk [] X).flatMap λo=>if oL o.1 then (List.range w.length).map (λi=>mk (dW o.1 (w.drop i)) o.2) else []
 have hK1:sW K1<=oG X 0:=by
  refine a0e (Ux _ (fO 0) _ λo _=>?_) (agN X 0 hw);unfold fO
  split
  ·simp[sW,aio]
  simp[sW]
 have hK2:sW K2<=hG X 0 n:=by
  have h0:=agO X [] n hw;rw[show tn []=0 from rfl]at h0;refine a0e (Ux _ (fH n) _ λo ho=>?_) h0;obtain⟨Y,t⟩:=o;obtain⟨ht,s,sw,hs⟩:=aiq X [] t Y ho;rw[a0Q]at hs;subst hs;have aO:=(nK sw).2 ht;have hg:=bJ hw sw;have hcY:=OM X Y t hc sw;unfold fH;simp only
  split
  ·refine a0e ?_ (sumTo_le hn)
   unfold sW;rw[a2C];refine aep _ _ w.length λi hi=>?_
   have h1:=ih Y aO hg.1 hcY (w.drop i) (w.length-i) (by simp);simp only[Function.comp,aio];omega
  simp[sW]
 have uB:∀p∈parts (dW X w),p ∈ [NF.set s0]++([NF.one]++(K1++K2)):=by
  intro p hp;rcases aei X hw w p hp with h|h|⟨Y,t,ho,hh,rfl⟩|⟨Y,t,v,ho,hk,ht,Yb,hv,hh,rfl,Eo⟩
  ·rw[hs0 p hp h];simp
  ·subst h;simp
  ·refine a1b _ (a1b _ (a1g _ ?_))
   refine a0U.2 ⟨(Y,t),ho,?_⟩;have Ba:(dE Y&&!(iU Y&&t.isEmpty&&(0:Nat)==0))=true:=by
    rw[hh,a2s,a1m];cases hsm:iU Y
    ·simp
    cases t with
    | nil =>
      have:=lq hwd hp;cases Y<;>simp[iU]at hsm
      simp[mk,ik]at this
    | cons x r=>simp
   simp only[Ba,a0C,a0y]
  refine a1b _ (a1b _ (a1b _ ?_));refine a0U.2 ⟨(Y,t),hk,?_⟩;have Be:oL Y=true:=by
   cases v with
   | nil=>exact absurd rfl Yb
   | cons c v=>exact ani c (Eo [c] ⟨v,rfl⟩ (by simp))
  simp only[Be,a0C,a0s,a1Z];have Dy:v.length<=w.length:=hv.length_le;have hvp:0<v.length:=a1P.2 Yb;exact⟨w.length-v.length,by omega,by rw[<-List.suffix_iff_eq_drop.1 hv]⟩
 have h1:=aaE oo uB;rw[Im,Im,Im]at h1;have h2:sW [NF.set s0]<=514:=by have:=Tt s0;simp[sW];omega
 have h3:sW [NF.one]=2:=by simp[sW,nl,name]
 have h4:=agG hwd;unfold nB;omega
set_option linter.unusedVariables false
set_option linter.unusedSimpArgs false
theorem Ko(A:NF):∀B:NF,wf A->aM A=true->wf B->aM B=true ->
 nl (aH A B)=nl A+nl B+3/\(∀k,oG (aH A B) k=oG A (k+nl B+3)+oG B k)/\∀k n,hG (aH A B) k n=hG A (k+nl B+3) n+hG B k n:=by
 refine NF.ind (P:=λA=>∀B:NF,wf A->aM A=true->wf B->aM B=true ->
  nl (aH A B)=nl A+nl B+3/\(∀k,oG (aH A B) k=oG A (k+nl B+3)+oG B k)/\∀k n,hG (aH A B) k n=hG A (k+nl B+3) n+hG B k n) ?_ A
 intro A ih B hA Uy hB Bf;have head:dE A=true->nl (aH A B)=nl A+nl B+3/\(∀k,oG (aH A B) k=oG A (k+nl B+3)+oG B k)/\∀k n,hG (aH A B) k n=hG A (k+nl B+3) n+hG B k n:=λh=>by
  rw[aU h Bf];exact⟨BZ A B,λk=>by simp only[oG],λk n=>by simp only[hG]⟩
 cases A with
 | zero=>simp[aM]at Uy
 | one=>simp[aM]at Uy
 | set s=>exact head rfl
 | sum l=>exact head rfl
 | star a=>exact head rfl
 | pair c d =>
   obtain⟨hc,hd,hhc,htd⟩:=hA;obtain⟨d1,d2,d3⟩:=ih d (by simp[NF.size];have:=NF.size_pos c;omega) B hd htd hB Bf;have hD:=mf hd hB;have htD:=dO hd htd Bf;obtain⟨c1,c2,c3⟩:=ih c (by simp[NF.size];have:=NF.size_pos d;omega) (aH d B) hc (head_tail hhc) hD htD;rw[cz Bf];refine⟨by rw[c1,d1,BZ];omega,λk=>?_,λk n=>?_⟩
   ·rw[c2,d2,d1];simp only[oG]
    rw[show k+(nl d+nl B+3)+3=k+nl B+3+nl d+3 by omega];omega
   rw[c3,d3,d1];simp only[hG];rw[show k+(nl d+nl B+3)+3=k+nl B+3+nl d+3 by omega];omega
structure xH(X:NF)(t:Nat)(C E e:Nat->Nat):Prop where
 t:nl X<=t
 c:∀n,oG X 0+hG X 0 n<=C n
 e:∀k n,1<=k->oG X k+hG X k n<=E n+e n*k
theorem xH.mono {t t':Nat} {C E e C' E' e':Nat->Nat}(h:xH X t C E e)(ht:t<=t')(hC:∀n,C n<=C' n)(hE:∀n,E n<=E' n)(he:∀n,e n<=e' n):xH X t' C' E' e' :=
 ⟨a0e h.t ht,λn=>a0e (h.c n) (hC n),λk n hk=>a0e (h.e k n hk) (a2Z (hE n) (a0w k (he n)))⟩
theorem xH.then {A B:NF} {tA tB:Nat} {CA EA eA CB EB eB:Nat->Nat}(hA:xH A tA CA EA eA)(hB:xH B tB CB EB eB)(wA:wf A)(ta:aM A=true)(wB:wf B)(tb:aM B=true) :
 xH (aH A B) (tA+tB+3) (λn=>EA n+eA n*(tB+3)+CB n) (λn=>EA n+eA n*(tB+3)+EB n) (λn=>eA n+eB n):=by
 obtain⟨h1,h2,h3⟩:=Ko A B wA ta wB tb;have Uy:=hA.t;have Bf:=hB.t;refine⟨by omega,λn=>?_,λk n hk=>?_⟩
 ·have e1:=hA.e (0+nl B+3) n (by omega)
  have e2:=hB.c n;have e3:eA n*(0+nl B+3)<=eA n*(tB+3):=a0m _ (by omega);rw[h2,h3];show _<=EA n+eA n*(tB+3)+CB n;omega
 have e1:=hA.e (k+nl B+3) n (by omega);have e2:=hB.e k n hk;have e3:eA n*(k+nl B+3)<=eA n*(tB+3)+eA n*k:=by rw[<-a0L];exact a0m _ (by omega)
 rw[h2,h3];simp only[a0r];omega
theorem wJ(f g:Nat->Nat):∀n,sumTo (λj=>f j+g j) n=sumTo f n+sumTo g n
 | 0=>rfl
 | n+1=>by simp only[sumTo,wJ f g n];omega
theorem mr(a:Nat):∀n,sumTo (λ_=>a) n=n*a
 | 0=>by simp[sumTo]
 | n+1=>by simp only[sumTo,mr a n,a0r];omega
theorem xH.star {A:NF} {t:Nat} {C E e:Nat->Nat}(h:xH A t C E e) :
 xH (.star A) (t+1) (λn=>t+2+E n+e n*(t+4)+(if fB A then sumTo (λj=>C j+(t+523)) n else 0)) (λn=>t+2+E n+e n*(t+4)+(if fB A then sumTo (λj=>C j+(t+523)) n else 0)) (λn=>1+e n+(if fB A then n else 0)):=by
 have ht:=h.t;have hs:=Uu A;have key:∀k n,oG (.star A) k+hG (.star A) k n<=t+2+E n+e n*(t+4)+(if fB A then sumTo (λj=>C j+(t+523)) n else 0)+(1+e n+(if fB A then n else 0))*k:=by
  intro k n;have e1:=h.e (k+nl (.star A)+3) n (by omega);have e2:e n*(k+nl (.star A)+3)<=e n*(t+4)+e n*k:=by rw[<-a0L];exact a0m _ (by omega)
  simp only[oG,hG,a0r]
  by_cases hp:fB A=true
  ·simp only[hp,a0C]
   have e3:sumTo (λj=>518+oG A 0+hG A 0 j+(k+nl (.star A)+3)+1) n<=sumTo (λj=>C j+(t+523)+k) n :=
    oD λj _ _=>by have:=h.c j;omega
   rw[wJ (λj=>C j+(t+523)) (λ_=>k),mr]at e3;omega
  simp only[hp,a0n,a0G,a3a];omega
 exact⟨by omega,λn=>by have:=key 0 n;simpa using this,λk n _=>key k n⟩
set_option linter.unusedVariables false
set_option linter.unusedSimpArgs false
theorem Mm(x:NF):1<=nl x:=by
 obtain⟨c,r,h,_⟩:=Kg x;simp[nl,h]
theorem JG{t:Nat}(h:∀i,s.testBit i=true->t.testBit i=true):∀k,(setName s k).length<=(setName t k).length
 | 0=>a0a _
 | k+1=>by
   have ih:=JG h k;simp only[setName,a0v];cases e:s.testBit k
   ·simp;omega
   rw[h k e];simp;omega
theorem ab1{t:Nat}(h:∀i,s.testBit i=true->t.testBit i=true):nl (.set s)<=nl (.set t):=by
 have:=JG h 256;simp only[nl,name,a0o];omega
theorem Uz {a b:NF}(ha:wf a)(hb:wf b)(hz:b≠.zero):nl a<=nl (aH a b):=by
 by_cases Uy:aM a=true
 ·by_cases Bf:aM b=true
  ·have:=(Ko a b ha Uy hb Bf).1;omega
  rcases fC Bf with h|h
  ·exact absurd h hz
  rw[h,bz];exact a0a _
 rcases fC Uy with h|h
 ·rw[h];exact Mm _
 rw[h];exact Mm _
theorem ab2 {a b:NF}(ha:wf a)(hb:wf b)(hz:a≠.zero):nl b<=nl (aH a b):=by
 by_cases Uy:aM a=true
 ·by_cases Bf:aM b=true
  ·have:=(Ko a b ha Uy hb Bf).1;omega
  rcases fC Bf with h|h
  ·rw[h];exact Mm _
  rw[h];exact Mm _
 rcases fC Uy with h|h
 ·exact absurd h hz
 rw[h];exact a0a _
theorem air(f:NF->NF):∀l:List NF,(∀p∈l,nl p<=nl (f p))->sW l<=sW (l.map f)
 | [],_=>a0a _
 | p::r,h=>by
   have h1:=h p (by simp);have h2:=air f r (λq hq=>h q (by simp[hq]));rw[a0A,zh,zh];omega
theorem UA {f:NF->NF}:∀{l:List NF},l.Nodup->(∀p∈l,∀q∈l,f p=f q->p=q)->(l.map f).Nodup
 | [],_,_=>List.nodup_nil
 | p::r,h,hi=>by
   obtain⟨h1,h2⟩:=List.nodup_cons.1 h;rw[a0A,List.nodup_cons];refine⟨λhm=>?_,UA h2 (λa ha b hb=>hi a (by simp[ha]) b (by simp[hb]))⟩;obtain⟨q,hq,e⟩:=a0s.1 hm;have:=hi q (by simp[hq]) p (by simp) e;subst this;exact h1 hq
theorem Y6(hw:∀x∈ls,wf x)(hx:x∈ls)(hc:can x) :
 ∃f:NF->NF,((parts x).map f).Nodup/\(∀p∈parts x,f p∈parts (bI ls))/\∀p∈parts x,nl p<=nl (f p):=by
 obtain⟨hn,s,hs⟩:=zk (hw x hx) hc
 let S:=aY (ls.flatMap parts)
 have hS:∀p∈parts x,di p=true->S≠0/\nl p<=nl (.set S):=by
  intro p hp his;cases p with
  | set m =>
    have oC:(.set m:NF)∈ls.flatMap parts:=a0U.2 ⟨x,hx,hp⟩;have afE:∀i,m.testBit i=true->S.testBit i=true:=by
     intro i hi;show(aY _).testBit i=true;rw[qI,a1H];exact⟨_,oC,hi⟩
    refine⟨λh0=>?_,ab1 afE⟩;have hwm:=uy (hw x hx) hp;have hm0:m≠0:=by have:=hwm.1;omega
    obtain⟨i,hi⟩:=Nat.exists_testBit_of_ne_zero hm0;have:=afE i hi;rw[h0]at this;simp at this
  | _=>simp[di]at his
 refine⟨λp=>if di p then .set S else p,UA hn ?_,?_,?_⟩
 ·intro p hp q hq e
  cases h1:di p<;>cases h2:di q<;>simp only[h1,h2,a0C,a0G,a0n]at e
  ·exact e
  ·rw[e]at h1;simp[di]at h1
  ·rw[<-e]at h2;simp[di]at h2
  rw[hs p hp h1,hs q hq h2]
 ·intro p hp
  rw[pE hw,ku];cases h1:di p<;>simp only[h1,a0C,a0G,a0n]
  ·exact .inl ⟨a0U.2 ⟨x,hx,hp⟩,by first | exact h1|trivial⟩
  exact .inr ⟨(hS p hp h1).1,rfl⟩
 intro p hp;cases h1:di p<;>simp only[h1,a0C,a0G,a0n]
 ·exact a0a _
 exact(hS p hp h1).2
theorem Ir(hw:∀x∈ls,wf x)(hx:x∈ls)(hc:can x):(parts x).length<=(parts (bI ls)).length:=by
 obtain⟨f,h1,h2,h3⟩:=Y6 hw hx hc;have:=oK h1 (b:=parts (bI ls)) (by
  intro p hp;obtain⟨q,hq,rfl⟩:=a0s.1 hp;exact h2 q hq)
 simpa using this
theorem UB(h:ik x=true):nl x+1=sW (parts x):=by
 rw[uw h];simp[sW]
theorem or_mono(hw:∀x∈ls,wf x)(hx:x∈ls)(hc:can x):nl x<=nl (bI ls):=by
 obtain⟨f,h1,h2,h3⟩:=Y6 hw hx hc;have uB:=aaE (M:=parts (bI ls)) h1 (by
  intro p hp;obtain⟨q,hq,rfl⟩:=a0s.1 hp;exact h2 q hq)
 have hle:=a0e (air f _ h3) uB;have aok:=Ir hw hx hc;have hO:=Ie hw;generalize bI ls=y at *;have ap9:ik y=true->nl y+1=sW (parts y):=UB
 by_cases hax:ik x=true
 ·have e:=UB hax
  by_cases hay:ik y=true
  ·have:=UB hay;omega
  cases y with
  | zero=>have:sW (parts .zero)=0:=rfl;omega
  | sum l=>have:=Io l;have e2:sW (parts (.sum l))=sW l:=rfl;omega
  | _=>simp[ik]at hay
 cases x with
 | zero=>exact Mm _
 | sum l =>
   have e1:=Io l;have e2:sW (parts (.sum l))=sW l:=rfl;have Ji:2<=l.length:=by
    have hT:mkS (fU (bG ([NF.sum l].flatMap parts)))=.sum l:=hc.2;simp only[a0Z,a2h,a0Q,parts]at hT;generalize hL:fU (bG l)=L at hT
    match L,hT with
    | [],hT=>simp[mkS]at hT
    | [z],hT =>
      have hz:z∈fU (bG l):=by rw[hL];simp
      have UC:z=.sum l:=hT;rcases uu (jR hz) with h|h
      ·rw[UC]at h;simp[di]at h
      have:=(hw _ hx).2 z h;rw[UC]at this;simp[ik]at this
    | a::b::r,hT=>simp only[mkS,NF.sum.injEq]at hT;rw[<-hT];simp
   have ank:2<=(parts y).length:=a0e Ji aok;cases y with
   | sum l2=>have:=Io l2;have e3:sW (parts (.sum l2))=sW l2:=rfl;omega
   | _=>simp[parts]at ank
 | _=>simp[ik]at hax
theorem ab3 {c:Nat} {a b:NF}(h:WC (.pair a b)):nl (left c a)<=nl (aH (left c a) b)/\nl (aH (left c a) b)<=nl (left c (.pair a b)):=by
 have ha:WC a:=⟨h.1.1,h.2.1⟩;have hb:WC b:=⟨h.1.2.1,h.2.2⟩;have hbt:aM b=true:=h.1.2.2.2;have hbz:b≠.zero:=λe=>by rw[e]at hbt;simp[aM]at hbt
 refine⟨Uz (ha.left c).1 hb.1 hbz,?_⟩;have ht:WC (aH (left c a) b):=(ha.left c).then hb;simp only[left]
 split
 ·exact or_mono (by simp;exact⟨ht.1,(hb.left c).1⟩) (by simp) ht.2
 exact a0a _
theorem ab4 {c:Nat} {a b:NF}(h:WC (.pair a b))(hn:dY a=true):nl (left c b)<=nl (left c (.pair a b)):=by
 have ha:WC a:=⟨h.1.1,h.2.1⟩;have hb:WC b:=⟨h.1.2.1,h.2.2⟩;have ht:WC (aH (left c a) b):=(ha.left c).then hb;simp only[left];rw[a0j hn];exact or_mono (by simp;exact⟨ht.1,(hb.left c).1⟩) (by simp) (hb.left c).2
theorem ab5 {c:Nat} {a:NF}(h:WC (.star a)):nl (left c a)<=nl (left c (.star a)):=by
 have ha:WC a:=⟨h.1.1,h.2⟩;simp only[left];exact Uz (ha.left c).1 h.1 (λe=>by simp at e)
set_option linter.unusedVariables false
set_option linter.unusedSimpArgs false
mutual
/-- The sets of an expression,as they stand. -/
def fu:RX->LN
 | .one s=>[s]
 | .seq l=>fP l
 | .alt l=>fP l
 | .rep x _ _=>fu x
def fP:List RX->LN
 | []=>[]
 | x::r=>fu x++fP r
end
theorem wK:∀(a b:List RX),fP (a++b)=fP a++fP b
 | [],b=>by simp[fP]
 | x::a,b=>by simp[fP,wK a b]
theorem zl(x:RX):fP [x]=fu x:=by simp[fP]
theorem vD:∀{k:Nat} {x y:RX} {t r:LB},dF k x t=some (y,r)->fu y=fu x/\r.length<=t.length
 | 0,x,y,t,r,h=>by simp[dF]at h
 | k+1,x,y,t,r,h=>by
   simp only[dF]at h
   split at h
   ·split at h
    ·simp at h
    rename_i b r' hb
    have h1:=BV hb;have h2:=vD (k:=k) h;simp only[fu]at h2;exact⟨h2.1,by omega⟩
   simp only[Option.some.injEq,Prod.mk.injEq]at h;obtain⟨rfl,rfl⟩:=h;exact⟨rfl,a0a _⟩
mutual
theorem Fx:∀{k nest:Nat} {t r:LB} {x:RX},gz k nest t=some (x,r)->(fu x).length+r.length<=t.length/\r.length+1<=t.length
 | 0,nest,t,r,x,h=>by simp[gz]at h
 | k+1,nest,[],r,x,h=>by simp[gz]at h
 | k+1,nest,c::q,r,x,h=>by
   simp only[gz]at h
   split at h
   ·split at h
    ·simp at h
    split at h
    ·simp at h
    rename_i x1 r1 h1
    have e:=Kq (acc:=[]) h1
    split at h
    ·rename_i hc
     have e2:=eH hc;simp at h;obtain⟨rfl,rfl⟩:=h;simp[fP]at e;exact⟨by simp;omega,by simp;omega⟩
    simp at h
   split at h
   ·split at h
    ·simp at h
    rename_i s r1 h1
    have e:=Fs h1;simp at h;obtain⟨rfl,rfl⟩:=h;exact⟨by simp[fu];omega,by simp;omega⟩
   split at h
   ·simp at h
    obtain⟨rfl,rfl⟩:=h;exact⟨by simp[fu];omega,by simp⟩
   split at h
   ·cases q with
    | nil=>simp at h
    | cons d q2 =>
      simp at h;obtain⟨rfl,rfl⟩:=h;exact⟨by simp[fu];omega,by simp⟩
   split at h
   ·simp at h
   simp at h;obtain⟨rfl,rfl⟩:=h;exact⟨by simp[fu];omega,by simp⟩
theorem wL:∀{k nest:Nat} {acc:List RX} {t r:LB} {x:RX},iT k nest acc t=some (x,r)->(fu x).length+r.length<=(fP acc).length+t.length/\r.length<=t.length
 | 0,nest,acc,t,r,x,h=>by simp[iT]at h
 | k+1,nest,acc,t,r,x,h=>by
   simp only[iT]at h
   split at h
   ·simp at h
    obtain⟨rfl,rfl⟩:=h;exact⟨by simp[fu],a0a _⟩
   split at h
   ·simp at h
   rename_i x1 r1 h1
   have e1:=Fx h1
   split at h
   ·simp at h
   rename_i y r2 h2
   have e2:=vD h2;have e3:=wL (acc:=acc++[y]) h;rw[wK,zl,e2.1,a0v]at e3;exact⟨by omega,by omega⟩
theorem Kq:∀{k nest:Nat} {acc:List RX} {t r:LB} {x:RX},gX k nest acc t=some (x,r)->(fu x).length+r.length<=(fP acc).length+t.length/\r.length<=t.length
 | 0,nest,acc,t,r,x,h=>by simp[gX]at h
 | k+1,nest,acc,t,r,x,h=>by
   simp only[gX]at h
   split at h
   ·simp at h
   rename_i x1 r1 h1
   have e1:=wL (acc:=[]) h1;simp only[fP,a1f]at e1
   split at h
   ·rename_i hc
    have e2:=eH hc;have e3:=Kq (acc:=acc++[x1]) h;rw[wK,zl,a0v]at e3;exact⟨by omega,by omega⟩
   simp at h;obtain⟨rfl,rfl⟩:=h;simp only[fu,wK,zl,a0v];exact⟨by omega,by omega⟩
end
set_option linter.unusedVariables false
set_option linter.unusedSimpArgs false
mutual
/-- Places,as they are counted: once there are too many they are not multiplied. -/
def dx:RX->Nat
 | .one _=>1
 | .seq l=>bM l
 | .alt l=>bM l
 | .rep x lo hi=>if 40<dx x then dx x else dx x*times lo hi
def bM:List RX->Nat
 | []=>0
 | x::r=>dx x+bM r
end
mutual
/-- Bounds of repetitions are digits. -/
def rM:RX->Prop
 | .one _=>True
 | .seq l=>lz l
 | .alt l=>lz l
 | .rep x lo hi=>rM x/\lo<=9/\(∀n,hi=some n->n<=9)
def lz:List RX->Prop
 | []=>True
 | x::r=>rM x/\lz r
end
theorem yV:∀{a b:List RX},lz (a++b)↔lz a/\lz b
 | [],b=>by simp[lz]
 | x::a,b=>by simp[lz,yV (a:=a),and_assoc]
theorem Y9 {lo:Nat} {hi:Option Nat}(h1:lo<=9)(h2:∀n,hi=some n->n<=9):times lo hi<=10:=by
 cases hi with
 | none=>simp[times];omega
 | some n=>have:=h2 n rfl;simp[times];omega
mutual
theorem UD:∀{e:RX},rM e->dx e<=400*jh e
 | .one _,_=>by simp[dx,jh]
 | .seq l,h=>Iu (show lz l from h)
 | .alt l,h=>by
   have:=Iu (show lz l from h);simp only[dx,jh];omega
 | .rep x lo hi,h=>by
   have h1:=UD (show rM x from h.1);have h2:=Y9 h.2.1 h.2.2;have h3:=tT lo hi;simp only[dx,jh]
   split
   ·omega
   have:dx x*times lo hi<=40*10:=a0E (by omega) h2;omega
theorem Iu:∀{l:List RX},lz l->bM l<=400*fo l
 | [],_=>by simp[bM]
 | x::r,h=>by
   have h1:=UD h.1;have h2:=Iu h.2;simp only[bM,fo];omega
end
mutual
/-- Few places are counted right. -/
theorem pV:∀{e:RX},dx e<=40->kJ e=dx e
 | .one _,_=>rfl
 | .seq l,h=>zm (show bM l<=40 from h)
 | .alt l,h=>zm (show bM l<=40 from h)
 | .rep x lo hi,h=>by
   simp only[dx]at h |-
   by_cases Bg:40<dx x
   ·rw[a0j Bg]at h;omega
   rw[a0g Bg];simp only[kJ];rw[pV (e:=x) (by omega)]
theorem zm:∀{l:List RX},bM l<=40->gW l=bM l
 | [],_=>rfl
 | x::r,h=>by
   simp only[bM]at h;simp only[gW,bM];rw[pV (e:=x) (by omega),zm (l:=r) (by omega)]
end
theorem aaH{t:LB} {lo:Nat} {hi:Option Nat}(h:bY t=some ((lo,hi),r)):lo<=9/\(∀n,hi=some n->n<=9):=by
 unfold bY at h
 split at h
 ·simp at h
 rename_i lo' r' hd
 have h1:=xE hd
 split at h
 ·split at h
  ·rename_i n r2 kY
   have h3:=xE kY
   split at h
   ·simp only[Option.some.injEq,Prod.mk.injEq]at h
    obtain⟨⟨rfl,rfl⟩,rfl⟩:=h;exact⟨h1.2,by intro m hm;simp at hm;omega⟩
   simp at h
  split at h
  ·simp only[Option.some.injEq,Prod.mk.injEq]at h
   obtain⟨⟨rfl,rfl⟩,rfl⟩:=h;exact⟨h1.2,by intro m hm;simp at hm⟩
  simp at h
 split at h
 ·simp only[Option.some.injEq,Prod.mk.injEq]at h
  obtain⟨⟨rfl,rfl⟩,rfl⟩:=h;exact⟨h1.2,by intro m hm;simp at hm;omega⟩
 simp at h
theorem agP{t:LB} {b:Nat × Option Nat}(h:Ah t=some (b,r)):b.1<=9/\(∀n,b.2=some n->n<=9):=by
 cases t with
 | nil=>simp[Ah]at h
 | cons c q =>
   simp only[Ah]at h
   split at h
   ·simp only[Option.some.injEq,Prod.mk.injEq]at h
    obtain⟨rfl,rfl⟩:=h;exact⟨by simp,by simp⟩
   split at h
   ·simp only[Option.some.injEq,Prod.mk.injEq]at h
    obtain⟨rfl,rfl⟩:=h;exact⟨by simp,by simp⟩
   split at h
   ·simp only[Option.some.injEq,Prod.mk.injEq]at h
    obtain⟨rfl,rfl⟩:=h;exact⟨by simp,by simp⟩
   split at h
   ·obtain⟨lo,hi⟩:=b
    exact aaH h
   simp at h
theorem QF:∀{k:Nat} {x y:RX} {t r:LB},rM x->dF k x t=some (y,r)->rM y
 | 0,x,y,t,r,_,h=>by simp[dF]at h
 | k+1,x,y,t,r,hx,h=>by
   simp only[dF]at h
   split at h
   ·split at h
    ·simp at h
    rename_i b r' hb
    have h1:=agP hb;exact QF (k:=k) (show rM (.rep x b.1 b.2) from ⟨hx,h1⟩) h
   simp only[Option.some.injEq,Prod.mk.injEq]at h;obtain⟨rfl,rfl⟩:=h;exact hx
mutual
theorem aeq:∀{k nest:Nat} {t r:LB} {x:RX},gz k nest t=some (x,r)->rM x
 | 0,nest,t,r,x,h=>by simp[gz]at h
 | k+1,nest,[],r,x,h=>by simp[gz]at h
 | k+1,nest,c::q,r,x,h=>by
   simp only[gz]at h
   split at h
   ·split at h
    ·simp at h
    split at h
    ·simp at h
    rename_i x1 r1 h1
    have e:=OP (acc:=[]) trivial h1
    split at h
    ·simp at h
     obtain⟨rfl,rfl⟩:=h;exact e
    simp at h
   split at h
   ·split at h
    ·simp at h
    simp at h;obtain⟨rfl,rfl⟩:=h
    trivial
   split at h
   ·simp at h
    obtain⟨rfl,rfl⟩:=h
    trivial
   split at h
   ·cases q with
    | nil=>simp at h
    | cons d q2 =>
      simp at h;obtain⟨rfl,rfl⟩:=h
      trivial
   split at h
   ·simp at h
   simp at h;obtain⟨rfl,rfl⟩:=h
   trivial
theorem Za:∀{k nest:Nat} {acc:List RX} {t r:LB} {x:RX},lz acc->iT k nest acc t=some (x,r)->rM x
 | 0,nest,acc,t,r,x,_,h=>by simp[iT]at h
 | k+1,nest,acc,t,r,x,ha,h=>by
   simp only[iT]at h
   split at h
   ·simp at h
    obtain⟨rfl,rfl⟩:=h;exact ha
   split at h
   ·simp at h
   rename_i x1 r1 h1
   have e1:=aeq h1
   split at h
   ·simp at h
   rename_i y r2 h2
   exact Za (acc:=acc++[y]) (yV.2 ⟨ha,QF e1 h2,trivial⟩) h
theorem OP:∀{k nest:Nat} {acc:List RX} {t r:LB} {x:RX},lz acc->gX k nest acc t=some (x,r)->rM x
 | 0,nest,acc,t,r,x,_,h=>by simp[gX]at h
 | k+1,nest,acc,t,r,x,ha,h=>by
   simp only[gX]at h
   split at h
   ·simp at h
   rename_i x1 r1 h1
   have e1:=Za (acc:=[]) trivial h1
   split at h
   ·exact OP (acc:=acc++[x1]) (yV.2 ⟨ha,e1,trivial⟩) h
   simp at h;obtain⟨rfl,rfl⟩:=h;exact yV.2 ⟨ha,e1,trivial⟩
end
theorem Fy {t:LB} {x:RX}(h:fD t=some x):rM x:=by
 unfold fD at h
 split at h
 ·rename_i y h1
  simp at h;subst h;exact OP (acc:=[]) trivial h1
 simp at h
set_option linter.unusedVariables false
set_option linter.unusedSimpArgs false
inductive TR where
 | nil:TR
 | one:Nat->TR
 | both:TR->TR->TR
 | either:TR->TR->TR
 | often:TR->Nat->Option Nat->TR
mutual
def jl:RX->TR
 | .one s=>.one s
 | .seq l=>Dz .nil l
 | .alt l=>Ce l
 | .rep x lo hi=>.often (jl x) lo hi
def Dz(r:TR):List RX->TR
 | []=>r
 | x::l=>Dz (.both r (jl x)) l
def Ce:List RX->TR
 | []=>.nil
 | x::l=>DF (jl x) l
def DF(r:TR):List RX->TR
 | []=>r
 | x::l=>DF (.either r (jl x)) l
end
theorem Zb:∀(l:List RX) (r:TR) (x:RX),Dz r (l++[x])=.both (Dz r l) (jl x)
 | [],r,x=>by simp only[a1a,Dz]
 | y::l,r,x=>by simp only[a0J,Dz];exact Zb l _ x
theorem Zc:∀(l:List RX) (r:TR) (x:RX),DF r (l++[x])=.either (DF r l) (jl x)
 | [],r,x=>by simp only[a1a,DF]
 | y::l,r,x=>by simp only[a0J,DF];exact Zc l _ x
theorem aer {l:List RX}(h:l≠[])(x:RX):Ce (l++[x])=.either (Ce l) (jl x):=by
 cases l with
 | nil=>exact absurd rfl h
 | cons y l=>simp only[a0J,Ce];exact Zc l _ x
def dA:TR->NF
 | .nil=>.one
 | .one s=>if s=0 then .zero else .set s
 | .both a b=>aH (dA a) (dA b)
 | .either a b=>dZ (dA a) (dA b)
 | .often a lo hi=>jM (dA a) lo hi
mutual
theorem Cf:∀(e:RX),vV e->dA (jl e)=bn e
 | .one s,_=>rfl
 | .seq l,h=>by
   have:=afF l .nil WC.one h;simp only[jl,bn];rw[this];rfl
 | .alt l,h=>ais l h.1 h.2
 | .rep x lo hi,h=>by simp only[jl,dA,bn];rw[Cf x h.1]
theorem afF:∀(l:List RX) (r:TR),WC (dA r)->kv l->dA (Dz r l)=aH (dA r) (sF l)
 | [],r,_,_=>by simp only[Dz,sF];rw[bz]
 | x::l,r,hr,h=>by
   have hx:=Cf x h.1;have wx:WC (bn x):=tJ h.1;simp only[Dz,sF];rw[afF l _ (by simp only[dA];rw[hx];exact hr.then wx) h.2];simp only[dA];rw[hx,Dm _ _ _ hr.1 wx.1]
theorem ais:∀(l:List RX),kv l->l≠[]->dA (Ce l)=bI (ji l)
 | [],_,h=>absurd rfl h
 | x::l,h,_=>by
   have hx:=Cf x h.1;have wx:WC (bn x):=tJ h.1;simp only[Ce,ji];rw[afG l (jl x) (by rw[hx];exact wx) h.2,hx]
theorem afG:∀(l:List RX) (r:TR),WC (dA r)->kv l->dA (DF r l)=bI (dA r::ji l)
 | [],r,hr,_=>by simp only[DF,ji];exact(Kh hr.1 hr.2).symm
 | x::l,r,hr,h=>by
   have hx:=Cf x h.1;have wx:WC (bn x):=tJ h.1;have hl:=Fj h.2;simp only[DF,ji];rw[afG l _ (by simp only[dA];rw[hx];exact hr.or wx) h.2];simp only[dA];rw[hx];have:=Md (Oy:=[dA r,bn x]) (bs:=ji l) (by simp;exact⟨hr.1,wx.1⟩) (λy hy=>(hl y hy).1);exact this
end
/-! alc. -/
def uN:TR->Nat
 | .nil=>0
 | .one _=>1
 | .both a b=>uN a+uN b
 | .either a b=>uN a+uN b
 | .often a lo hi=>if 40<uN a then uN a else uN a*times lo hi
mutual
theorem Mo:∀(e:RX),uN (jl e)=dx e
 | .one s=>rfl
 | .seq l=>by have:=ait l .nil;simp only[jl,dx];rw[this];simp[uN]
 | .alt l=>alf l
 | .rep x lo hi=>by simp only[jl,uN,dx];rw[Mo x]
theorem ait:∀(l:List RX) (r:TR),uN (Dz r l)=uN r+bM l
 | [],r=>by simp[Dz,bM]
 | x::l,r=>by simp only[Dz,bM];rw[ait l,uN,Mo x];omega
theorem alf:∀(l:List RX),uN (Ce l)=bM l
 | []=>rfl
 | x::l=>by simp only[Ce,bM];rw[aiu l,Mo x]
theorem aiu:∀(l:List RX) (r:TR),uN (DF r l)=uN r+bM l
 | [],r=>by simp[DF,bM]
 | x::l,r=>by simp only[DF,bM];rw[aiu l,uN,Mo x];omega
end
def je:TR->Nat × Bool
 | .nil=>(0,true)
 | .one _=>(1,true)
 | .both a b=>if 40<(je a).1+(je b).1 then (41,false) else ((je a).1+(je b).1,(je a).2&&(je b).2)
 | .either a b=>if 40<(je a).1+(je b).1 then (41,false) else ((je a).1+(je b).1,(je a).2&&(je b).2)
 | .often a lo hi=>if 40<(je a).1*times lo hi then (41,false) else ((je a).1*times lo hi,(je a).2)
theorem nN:∀t:TR,(je t).1<=41/\(uN t<=40->je t=(uN t,true))/\(40<uN t->(je t).2=false)
 | .nil=>by simp[je,uN]
 | .one s=>by simp[je,uN]
 | .both a b=>by
   obtain⟨a1,a2,a3⟩:=nN a;obtain⟨b1,b2,b3⟩:=nN b;simp only[je,uN]
   split
   ·rename_i h
    refine⟨by simp,λhp=>?_,λ_=>rfl⟩;rw[a2 (by omega),b2 (by omega)]at h;simp at h;omega
   rename_i h
   refine⟨by simp;omega,λhp=>?_,λhp=>?_⟩
   ·rw[a2 (by omega),b2 (by omega)];rfl
   by_cases ha:40<uN a
   ·simp[a3 ha]
   by_cases hb:40<uN b
   ·simp[b3 hb]
   rw[a2 (by omega),b2 (by omega)]at h;simp at h;omega
 | .either a b=>by
   obtain⟨a1,a2,a3⟩:=nN a;obtain⟨b1,b2,b3⟩:=nN b;simp only[je,uN]
   split
   ·rename_i h
    refine⟨by simp,λhp=>?_,λ_=>rfl⟩;rw[a2 (by omega),b2 (by omega)]at h;simp at h;omega
   rename_i h
   refine⟨by simp;omega,λhp=>?_,λhp=>?_⟩
   ·rw[a2 (by omega),b2 (by omega)];rfl
   by_cases ha:40<uN a
   ·simp[a3 ha]
   by_cases hb:40<uN b
   ·simp[b3 hb]
   rw[a2 (by omega),b2 (by omega)]at h;simp at h;omega
 | .often a lo hi=>by
   obtain⟨a1,a2,a3⟩:=nN a;simp only[je,uN]
   by_cases ha:40<uN a
   ·rw[a0j ha]
    refine⟨by split<;>simp;omega,λhp=>by omega,λ_=>?_⟩
    split
    ·rfl
    exact a3 ha
   rw[a0g ha,a2 (by omega)];simp only[];refine⟨by split<;>simp;omega,λhp=>by rw[a0g (by omega)],λhp=>by rw[a0j hp]⟩
/-! Sets. -/
def jF:TR->LN
 | .nil=>[]
 | .one s=>[s]
 | .both a b=>jF a++jF b
 | .either a b=>jF a++jF b
 | .often a _ _=>jF a
mutual
theorem yX:∀(e:RX),jF (jl e)=fu e
 | .one s=>rfl
 | .seq l=>by have:=ab6 l .nil;simp only[jl,fu];rw[this];rfl
 | .alt l=>agQ l
 | .rep x lo hi=>by simp only[jl,jF,fu];rw[yX x]
theorem ab6:∀(l:List RX) (r:TR),jF (Dz r l)=jF r++fP l
 | [],r=>by simp[Dz,fP]
 | x::l,r=>by simp only[Dz,fP];rw[ab6 l,jF,yX x,a0K]
theorem agQ:∀(l:List RX),jF (Ce l)=fP l
 | []=>rfl
 | x::l=>by simp only[Ce,fP];rw[ab7 l,yX x]
theorem ab7:∀(l:List RX) (r:TR),jF (DF r l)=jF r++fP l
 | [],r=>by simp[DF,fP]
 | x::l,r=>by simp only[DF,fP];rw[ab7 l,jF,yX x,a0K]
end
open Go.RowKit
/-! alg in memory. -/
def pq:Option Nat->Value
 | none=>.pointer none
 | some n=>.pointer (some ⟨n,0,none⟩)
def EJ(k:Int)(L:List Bool)(a b:Value)(lo hi:Int):Array Value:=(.int .i64 k::(L.map Value.bool++[a,b,.int .i64 lo,.int .i64 hi])).toArray
def RK(w:World)(p:Nat)(k:Int)(L:List Bool)(a b:Value)(lo hi:Int):Prop :=
 w.heap[p]?=some (.cells (EJ k L a b lo hi) 139 (0,0))/\L.length=256
theorem RK.lt{lo:Int}(h:RK w p k L a b lo hi):p<w.heap.size:=(a0d.1 h.1).1
theorem RK.fz{lo:Int}(h:RK w p k L a b lo hi)(o:Nat):w.frozen? ⟨p,o,none⟩=false:=by simp[World.frozen?,h.1]
theorem RK.aB{lo:Int}(h:RK w p k L a b lo hi)(f:aA S w w')(hS:p∉S):RK w' p k L a b lo hi:=⟨(f.block p h.lt hS).trans h.1,h.2⟩
theorem RK.at{lo:Int}(h:RK w p k L a b lo hi)(o:Nat)(v:Value)(e:(EJ k L a b lo hi).toList[o]?=some v):w.cell? ⟨p,o,none⟩=some v:=by
 simp only[World.cell?,h.1];simpa using e
theorem RK.c0{lo:Int}(h:RK w p k L a b lo hi):w.cell? ⟨p,0,none⟩=some (.int .i64 k):=h.at 0 _ (by simp[EJ])
theorem RK.cin{lo:Int}(h:RK w p k L a b lo hi)(c:Nat)(x:Bool)(hc:L[c]?=some x):w.cell? ⟨p,1+c,none⟩=some (.bool x):=by
 have hl:=(a0i.1 hc).1;refine h.at (1+c) _ ?_;rw[a2m];simp only[EJ,a1u];rw[a0u (by simp;exact hl)];simp[hc]
theorem Mq{lo:Int}(h:L.length=256)(j:Nat):(EJ k L a b lo hi).toList[257+j]?=[a,b,.int .i64 lo,.int .i64 hi][j]?:=by
 rw[show 257+j=(256+j)+1 by omega];simp only[EJ,a1u];rw[a0R (by simp[h])];simp[h]
theorem RK.ends{lo:Int}(h:RK w p k L a b lo hi):w.cell? ⟨p,257,none⟩=some a/\w.cell? ⟨p,258,none⟩=some b/\w.cell? ⟨p,259,none⟩=some (.int .i64 lo)/\w.cell? ⟨p,260,none⟩=some (.int .i64 hi) :=
 ⟨h.at 257 _ (Mq h.2 0),h.at 258 _ (Mq h.2 1),h.at 259 _ (Mq h.2 2),h.at 260 _ (Mq h.2 3)⟩
theorem RK.put{lo:Int}(h:RK w p k L a b lo hi)(o:Nat)(v:Value)(c:Array Value)(e:(EJ k L a b lo hi).toList.set o v=c.toList):(w.setCell ⟨p,o,none⟩ v).heap[p]?=some (.cells c 139 (0,0)):=by
 have h1:=h.1;simp only[World.setCell,a0t,h1,a0C,a1x];have:(EJ k L a b lo hi).setIfInBounds o v=c:=by apply Array.ext';simpa using e
 simp[this]
theorem RK.sin{lo:Int}(h:RK w p k L a b lo hi)(c:Nat)(x:Bool)(hc:c<256):RK (w.setCell ⟨p,1+c,none⟩ (.bool x)) p k (L.set c x) a b lo hi:=by
 refine⟨h.put (1+c) _ _ ?_,by rw[a3k];exact h.2⟩;rw[a2m];simp only[EJ,a1N];rw[a3f _ _ (by simp[h.2];exact hc)];simp[a2n]
theorem RK.slo{lo:Int}(h:RK w p k L a b lo hi)(m:Int):RK (w.setCell ⟨p,259,none⟩ (.int .i64 m)) p k L a b m hi:=by
 refine⟨h.put 259 _ _ ?_,h.2⟩;simp only[EJ,a1N];rw[a1t _ _ (by simp[h.2])];simp[h.2]
theorem RK.shi{lo:Int}(h:RK w p k L a b lo hi)(m:Int):RK (w.setCell ⟨p,260,none⟩ (.int .i64 m)) p k L a b lo m:=by
 refine⟨h.put 260 _ _ ?_,h.2⟩;simp only[EJ,a1N];rw[a1t _ _ (by simp[h.2])];simp[h.2]
theorem RK.new{lo:Int}(w:World)(hL:L.length=256):RK (w.alloc (.cells (EJ k L a b lo hi) 139)) w.heap.size k L a b lo hi:=⟨bK _ _,hL⟩
def nF:List Bool:=List.replicate 256 false
theorem oM:nF.length=256:=List.length_replicate
def bl(s:Nat):List Bool:=(List.range 256).map λi=>s.testBit i
theorem Iv(s:Nat):(bl s).length=256:=by simp[bl]
theorem Iw(s i:Nat)(h:i<256):(bl s)[i]?=some (s.testBit i):=by simp[bl,h]
theorem Mr:bl 0=nF:=by
 apply List.ext_getElem (by rw[Iv,oM]);intro i h1 h2;simp only[bl,nF,List.getElem_map,List.getElem_replicate,Nat.zero_testBit]
theorem afH(s c:Nat)(hc:c<256):(bl s).set c true=bl (s ||| 2 ^ c):=by
 apply List.ext_getElem (by simp[bl]);intro i h1 h2;simp only[bl,List.getElem_set,List.getElem_map,List.getElem_range,a2y,a2M]
 by_cases h:c=i
 ·simp[h]
 simp[h]
def hiT:Option Nat->Int
 | none=>-1
 | some n=>n
def RN(w:World):Nat->TR->Prop
 | p,.nil=>RK w p 0 nF (.pointer none) (.pointer none) 0 0
 | p,.one s=>RK w p 1 (bl s) (.pointer none) (.pointer none) 0 0
 | p,.both x y=>∃a b,RK w p 2 nF (pq (some a)) (pq (some b)) 0 0/\RN w a x/\RN w b y
 | p,.either x y=>∃a b,RK w p 3 nF (pq (some a)) (pq (some b)) 0 0/\RN w a x/\RN w b y
 | p,.often x lo hi=>∃a,RK w p 4 nF (pq (some a)) (.pointer none) lo (hiT hi)/\RN w a x
def eU(w w':World):Prop:=∀(k:Nat) (cur:Array Value) (fz:Nat × Nat),w.heap[k]?=some (Obj.cells cur 139 fz)->w'.heap[k]?=w.heap[k]?
theorem RK.aW{lo:Int}(h:RK w p k L a b lo hi)(f:eU w w'):RK w' p k L a b lo hi:=⟨(f p _ _ h.1).trans h.1,h.2⟩
theorem RN.aW(f:eU w w'):∀{t:TR} {p:Nat},RN w p t->RN w' p t
 | .nil,p,h=>RK.aW h f
 | .one s,p,h=>RK.aW h f
 | .both x y,p,⟨a,b,h1,h2,h3⟩=>⟨a,b,h1.aW f,RN.aW f h2,RN.aW f h3⟩
 | .either x y,p,⟨a,b,h1,h2,h3⟩=>⟨a,b,h1.aW f,RN.aW f h2,RN.aW f h3⟩
 | .often x lo hi,p,⟨a,h1,h2⟩=>⟨a,h1.aW f,RN.aW f h2⟩
theorem eU.aB(f:aA S w w')(hS:∀b∈S,∀cur fz,w.heap[b]?≠some (.cells cur 139 fz)):eU w w':=λk cur fz e =>
 f.block k (a0d.1 e).1 (λhk=>hS k hk cur fz e)
theorem QP.keepR {b:Nat} {t:LB} {ok:Bool}(h:QP w b t ok)(f:aA [b] w w'):eU w w' :=
 eU.aB f (λk hk cur fz e=>by
  simp only[a0y]at hk;subst hk;rw[h.1]at e;simp at e)
def hb:LB->UInt8
 | []=>0
 | c::_=>c
theorem rV(t:LB):iA t=(hb t).toNat:=by cases t<;>rfl
def dgL:LB:=[48,49,50,51,52,53,54,55,56,57]
theorem agR:bs dgL=⟨#[48,49,50,51,52,53,54,55,56,57]⟩:=rfl
theorem anl(t:LB):(mo dgL (hb t)&&!t.isEmpty)=(bO t).isSome:=by
 cases t with
 | nil=>rfl
 | cons c r =>
   have:∀c:UInt8,(mo dgL c&&true)=(if 48<=c&&c<=57 then (some (0,r):Option (Nat × LB)) else none).isSome:=by
    intro c;have h:=tH (p:=λc=>(mo dgL c&&true)==(decide (48<=c)&&decide (c<=57))) (by decide +kernel) c;rw[a0X]at h;rw[h];cases (decide (48<=c)&&decide (c<=57))<;>rfl
   have h:=this c;simp only[hb,a1J,a1y];rw[h];simp only[bO]
   split<;>rfl
theorem alh(t:LB)(h:mo dgL (hb t)=true):t.isEmpty=false:=by
 cases t with
 | nil=>revert h;decide
 | cons c r=>rfl
theorem QG(b:Nat)(t:LB)(ok:Bool)(w:World)(h:QP w b t ok) :
 Calls Tryz.prog 88 #[.pointer (some ⟨b,0,none⟩)] w λe w'=>e=.returned (.int .i64 (((hb t).toNat:Int)-48))/\QP w' b t.tail (ok&&(bO t).isSome)/\aA [b] w w':=by
 have H:=aj h;have hD:=agR;have Yc:=(hb t).toNat_lt;clear h;go_enter Tryz.func88,Tryz.ntmps88
 go_wp2_with fail
 refine(jk b t ok w H).mono ?_;rintro e w1 ⟨rfl,iw,aZ⟩;have P1:=aj iw;have F1:=aj aZ;have c1:=iw.c1;have z1:=iw.fz 1;clear iw aZ;rw[rV];have A:=aj (tN (hb t) dgL w1 (by decide));rw[hD]at A;go_wp2_with fail
 refine(A.o).mono ?_;rintro e w2 ⟨rfl,rfl⟩;have Hd:=aj (anl t);have Ho:=aj (alh t);cases hm:mo dgL (hb t)
 ·have O:=aj P1.o.off
  rw[hm]at Hd;go_wp2;go_ret;refine⟨rfl,?_,F1.o.setCell (.inl (by simp)) _⟩;have:=Hd.o;rw[<-this];simp only[a3p,a3o];exact O
 go_wp2;go_ret;refine⟨rfl,?_,F1⟩;have:=Hd.o;rw[hm]at this;rw[<-this,a2s];exact P1
def nmL:LB:=[93,45,91]
theorem agS:bs nmL=⟨#[93,45,91]⟩:=rfl
theorem anm(c:UInt8):mo nmL c=(c==93||c==91||c==45):=by
 have h:=tH (p:=λc=>mo nmL c==(c==93||c==91||c==45)) (by decide +kernel) c;exact a0X.1 h
def MQ(b:Nat)(t:LB)(w:World)(e:Ending)(w':World):Prop :=
 ∃(n:UInt8) (r:LB) (ok:Bool),e=.returned (.int .i64 n.toNat)/\QP w' b r ok/\aA [b] w w'/\((ok=true/\jN t=some (n,r))\/(ok=false/\jN t=none))
theorem yn(c:UInt8)(n:Nat)(h:n<256):(((c.toNat:Nat):Int)==(n:Int))=(c==UInt8.ofNat n):=by
 by_cases e:c=UInt8.ofNat n
 ·subst e
  have:(UInt8.ofNat n).toNat=n:=by simp;omega
  rw[this];simp
 have h1:(c==UInt8.ofNat n)=false:=by simpa using e
 rw[h1,a0k];intro h2;apply e;have h3:c.toNat=n:=by omega
 rw[<-h3,UInt8.ofNat_toNat]
theorem Ms(b:Nat)(t:LB)(w:World)(h:QP w b t true) :
 Calls Tryz.prog 103 #[.pointer (some ⟨b,0,none⟩)] w (MQ b t w):=by
 have H:=aj h;have hD:=agS;have Yc:=(hb t).toNat_lt;clear h;go_enter Tryz.func103,Tryz.ntmps103
 go_wp2_with fail
 refine(jk b t true w H).mono ?_;rintro e w1 ⟨rfl,iw,aZ⟩;have P1:=aj iw;have F1:=aj aZ;have c1:=iw.c1;have z1:=iw.fz 1;clear iw aZ;rw[rV];have A:=aj (tN (hb t) nmL w1 (by decide));rw[hD]at A;go_wp2_with fail
 refine(A.o).mono ?_;rintro e w2 ⟨rfl,rfl⟩;have zU:=yn (hb t) 92 (by decide);have Hn:=aj (anm (hb t));cases hm:mo nmL (hb t)
 ·cases wM:(hb t==92)
  ·have f92:(((hb t).toNat:Int)==92)=false:=zU.trans wM
   clear zU;go_wp2;go_ret;refine⟨hb t,t.tail,true&&!t.isEmpty,rfl,P1,F1,?_⟩;cases t with
   | nil=>exact .inr ⟨rfl,rfl⟩
   | cons c r =>
     refine .inl ⟨rfl,?_⟩;have h1:=Hn.o;rw[hm]at h1;simp only[hb]at h1 wM;simp only[jN,wM,<-h1,hb,a1z,a0n,a0G]
  have f92:(((hb t).toNat:Int)==92)=true:=zU.trans wM;clear zU;have bL:t≠[]:=by intro e;rw[e]at wM;revert wM;decide
  go_wp2_with fail
  refine(jk b t.tail _ w1 P1).mono ?_;rintro e w2 ⟨rfl,bR,aS⟩;have P2:=aj bR;have F2:=aj (F1.o.trans aS);clear bR aS;rw[rV];have hd8:=(hb t.tail).toNat_lt;go_wp2;go_ret;refine⟨hb t.tail,t.tail.tail,_,rfl,P2,F2,?_⟩;cases t with
  | nil=>exact absurd rfl bL
  | cons c r =>
    simp only[hb]at wM;cases r with
    | nil=>exact .inr ⟨rfl,by simp only[jN,wM,a0C]⟩
    | cons d r=>exact .inl ⟨rfl,by simp only[jN,wM,a0C,hb,a1z]⟩
 have O:=aj P1.o.off;have wM:(hb t==92)=false:=by
  have h1:=Hn.o;rw[hm]at h1;cases hh:(hb t==92)
  ·rfl
  rw[a0X]at hh;rw[hh]at h1;revert h1;decide
 have f92:(((hb t).toNat:Int)==92)=false:=zU.trans wM;clear zU;go_wp2;go_ret;refine⟨hb t,t.tail,false,rfl,O,F1.o.setCell (.inl (by simp)) _,.inr ⟨rfl,?_⟩⟩;cases t with
 | nil=>rfl
 | cons c r =>
   have h1:=Hn.o;rw[hm]at h1;simp only[hb]at h1 wM;simp only[jN,wM,<-h1,a0n,a0G,a0C]
end Go.Proofs.YtgbdcmpmmkfbhaaGreat
