import Derived.Test.YtgbdcmpmmkfbhaaGreatJ18
import Derived.Test.YtgbdcmpmmkfbhaaGreatJ16
import Derived.Test.YtgbdcmpmmkfbhaaGreatJ1
import Derived.Test.YtgbdcmpmmkfbhaaGreatJ2
import Derived.Deep.WholeRow
import Derived.Great.BuildSlice
import Derived.Laws.CopyOwn
import Derived.Test.YtgbdcmpmmkfbhaaGreatJ6
set_option linter.unusedVariables false
set_option linter.unusedSimpArgs false
set_option linter.unnecessarySimpa false
set_option maxRecDepth 100000
set_option maxHeartbeats 200000
namespace Go.Proofs.YtgbdcmpmmkfbhaaGreat
variable {α:Type} {A B S:LN} {g k:Nat} {W w w':World} {o0 o1 o2 o3 o4 v:Value} {vs:List (List Value)} {e t:TypeId} {ops:Array Oper} {rest:List Oper} {a:Act} {E:Prop} {cs:Array Value}
open Go.RowKit
/-! Values. -/
theorem ahM(c:UInt8):(if lI c then ((c-48:UInt8),true) else if 97<=c/\c<=102 then (c-97+10,true) else (0,false))=(if 0<=jE c then (UInt8.ofNat (jE c).toNat,true) else (0,false)):=by
 have:=tH (p:=λc=>decide ((if lI c then ((c-48:UInt8),true) else if 97<=c/\c<=102 then (c-97+10,true) else (0,false))=(if 0<=jE c then (UInt8.ofNat (jE c).toNat,true) else (0,false)))) (by decide +kernel) c;exact a2X this
theorem AO(c:UInt8)(r:LB):fF (c::r)=if 0<=jE c then (UInt8.ofNat (jE c).toNat,true,r) else (0,false,c::r):=by
 have h:=ahM c;unfold fF;dsimp only
 by_cases h1:lI c=true
 ·rw[a0j h1]at h |-
  by_cases h3:0<=jE c
  ·rw[a0j h3]at h |-;simp at h;rw[h]
  rw[a0g h3]at h;simp at h
 rw[a0g h1]at h |-
 by_cases h2:97<=c/\c<=102
 ·rw[a0j h2]at h |-
  by_cases h3:0<=jE c
  ·rw[a0j h3]at h |-;simp at h;rw[h]
  rw[a0g h3]at h;simp at h
 rw[a0g h2]at h |-
 by_cases h3:0<=jE c
 ·rw[a0j h3]at h;simp at h
 rw[a0g h3]
theorem aac(a b:Int)(ha:0<=a)(hb:0<=b):UInt8.ofNat a.toNat*16+UInt8.ofNat b.toNat=UInt8.ofNat (16*a+b).toNat:=by
 have:(16*a+b).toNat=a.toNat*16+b.toNat:=by omega
 rw[this,UInt8.ofNat_add,UInt8.ofNat_mul]
 rfl
theorem abv(x:UInt8)(t:LB)(h:x≠34)(h2:x≠92):lZ (x::t) true false=(x::(lZ t true false).1,(lZ t true false).2):=by
 conv=>lhs;unfold lZ
 have e1:(x==34)=false:=by simpa using h
 have e2:(x==92)=false:=by simpa using h2
 rw[e1,e2];simp
theorem XA(x:UInt8)(t:LB):lZ (92::x::t) true false=(92::x::(lZ t true false).1,(lZ t true false).2):=by
 conv=>lhs;unfold lZ
 simp only[show((92:UInt8)==34)=false from rfl];rw[a0j (by rfl)]
 conv=>lhs;unfold lZ
 rfl
theorem afg(t:LB):lZ (34::t) true false=(34::(lZ t false false).1,(lZ t false false).2):=by
 conv=>lhs;unfold lZ
 rfl
theorem ahN(t:LB):lZ (34::t) false false=(34::(lZ t true false).1,(lZ t true false).2):=by
 conv=>lhs;unfold lZ
 rfl
theorem qo(a b x y:UInt8)(t:LB):aL [a,b] (x::y::t)=(a==x&&b==y):=by simp[aL,List.isPrefixOf]
theorem take1(a x:UInt8)(t:LB):aL [a] (x::t)=(a==x):=by simp[aL,List.isPrefixOf]
theorem PZ(a b x:UInt8)(t:LB)(h:a≠x):aL [a,b] (x::t)=false:=by
 have:(a==x)=false:=by simpa using h
 simp[aL,List.isPrefixOf,this]
theorem rest_of {p l s:LB}(h:l=p++s):aJ p l=s:=by subst h;exact(nZ p s).2
theorem ahO(l:LB)(jT:(mW l).2.1=true)(sP:aL [34] l=false):∃e,l=e++(mW l).2.2/\1<=e.length/\(∀j m acc,dG (j+1) (e++m) acc=dG j m (acc++[(mW l).1]))/\(∀t,lZ (e++t) true false=(e++(lZ t true false).1,(lZ t true false).2)):=by
 unfold mW at *
 by_cases h1:aL [92,34] l=true
 ·rw[a0j h1]
  have e:=dV _ _ h1
  exact⟨[92,34],e,by simp,λj m acc=>by conv=>lhs;unfold dG
                                       rfl,λt=>by have:=XA 34 t;simpa using this⟩
 rw[a0g h1]at jT |-
 by_cases h2:aL [92,92] l=true
 ·rw[a0j h2]
  have e:=dV _ _ h2
  exact⟨[92,92],e,by simp,λj m acc=>by conv=>lhs;unfold dG
                                       rfl,λt=>by have:=XA 92 t;simpa using this⟩
 rw[a0g h2]at jT |-
 by_cases h3:aL [92,120] l=true
 ·rw[a0j h3]at jT |-
  have e:=dV _ _ h3;generalize aJ [92,120] l=r at *;subst e;unfold Bn at *;dsimp only at *;cases r with
  | nil=>simp[fF]at jT
  | cons x r =>
    rw[AO]at jT |-
    by_cases hx:0<=jE x
    ·rw[a0j hx]at jT |-
     dsimp only at *;cases r with
     | nil=>simp[fF]at jT
     | cons y r =>
       rw[AO]at jT |-
       by_cases hy:0<=jE y
       ·rw[a0j hy]at jT |-
        dsimp only;refine⟨[92,120,x,y],by simp,by simp,λj m acc=>?_,λt=>?_⟩
        ·rw[aac _ _ hx hy]
         conv=>lhs;unfold dG
         have d1:decide (jE x<0)=false:=a0f (by omega);have d2:decide (jE y<0)=false:=a0f (by omega);simp[d1,d2,kZ]
        have bL:∀z:UInt8,0<=jE z->z≠34/\z≠92:=by
         intro z hz;have:=tH (p:=λc=>!(decide (0<=jE c))||(!(c==34)&&!(c==92))) (by decide +kernel) z;simp[hz]at this;exact this
        have:=XA 120 (x::y::t);rw[abv x _ (bL x hx).1 (bL x hx).2,abv y _ (bL y hy).1 (bL y hy).2]at this;simpa using this
       rw[a0g hy]at jT;simp at jT
    rw[a0g hx]at jT;simp at jT
 rw[a0g h3]at jT |-;cases l with
 | nil=>simp at jT
 | cons c r =>
   dsimp only at *
   by_cases hc:(!(kZ c.toNat)||c==92)=true
   ·rw[a0j hc]at jT;simp at jT
   rw[a0g hc];simp only[a0Y,not_or,a1m,a2Y,a0X]at hc;have amY:c≠34:=λe=>by subst e;rw[take1]at sP;simp at sP
   refine⟨[c],rfl,by simp,λj m acc=>?_,λt=>?_⟩
   ·conv=>lhs;unfold dG
    simp only[a1j];have e1:(c==34)=false:=by simpa using amY
    have e2:(c==92)=false:=by simpa using hc.2
    rw[e1,e2,hc.1];rfl
   have:=abv c t amY hc.2;simpa using this
theorem XC:∀(k:Nat) (acc l v s:LB),acc.length<=40->qN k acc l=(v,true,s)->∃m,l=m++34::s/\(∀j,m.length<j->dG j m acc=some v)/\(∀t,lZ (m++34::t) true false=(m++34::(lZ t false false).1,(lZ t false false).2))/\v.length<=40
 | 0,acc,l,v,s,_,h=>by simp[qN]at h
 | k+1,acc,l,v,s,ha,h=>by
   unfold qN at h
   by_cases sP:aL [34] l=true
   ·rw[a0j sP]at h
    simp at h;obtain⟨rfl,rfl⟩:=h;have e:=dV _ _ sP;refine⟨[],by simpa using e,λj hj=>?_,λt=>by simpa using afg t,ha⟩;obtain⟨j,rfl⟩:∃j',j=j'+1:=⟨j-1,by simp at hj;omega⟩
    rfl
   rw[a0g sP]at h
   by_cases hc:(!(mW l).2.1||decide (40<=acc.length))=true
   ·rw[a0j hc]at h;simp at h
   rw[a0g hc]at h;simp only[a0Y,not_or,a1m,a2Y,a0S]at hc;obtain⟨e,he,hel,hu,hs⟩:=ahO l hc.1 (by simpa using sP);obtain⟨m,hm,hj,xX,hv⟩:=XC k _ _ v s (by simp;omega) h;refine⟨e++m,by rw[a0K,<-hm];exact he,λj qM=>?_,λt=>?_,hv⟩
   ·obtain⟨j,rfl⟩:∃j',j=j'+1:=⟨j-1,by omega⟩
    rw[hu,hj j (by simp at qM;omega)]
   rw[a0K,hs,xX];simp
theorem afh(m v:LB)(h:dG (m.length+2) m []=some v)(hv:v.length<=40):fK (34::(m++[34]))=(v,true):=by
 unfold fK;have e1:decide ((34::(m++[34])).length<2)=false:=a0f (by simp);have e2:(hd (34::(m++[34]))==34)=true:=rfl;have e3:((34::(m++[34])).getLast?==some 34)=true:=by
  rw[<-a0J,List.getLast?_concat];rfl
 have e4:((34::(m++[34])).take ((34::(m++[34])).length-1)).drop 1=m:=by simp
 have e5:(34::(m++[34])).length=m.length+2:=by simp
 rw[e1,e2,e3,e4,e5,h];simp[hv]
theorem afi(l v s:LB)(h:nS l=(v,true,s)):∃q,l=34::q++s/\fK (34::q)=(v,true)/\(∀t,fw (34::q++t)=34::q++fw t/\uk (34::q++t)=uk t):=by
 unfold nS at h
 by_cases ht:aL [34] l=true
 ·rw[a0j ht]at h
  have e:=dV _ _ ht;obtain⟨m,hm,hu,xX,hv⟩:=XC _ _ _ v s (by simp) h;refine⟨m++[34],by rw[e,hm];simp,afh m v (hu _ (by omega)) hv,λt=>?_⟩;have e2:(34::(m++[34])++t)=34::(m++34::t):=by simp
  unfold fw uk;rw[e2,ahN,xX];simp
 rw[a0g ht]at h;simp at h
theorem aad(j:Nat)(c:UInt8)(r acc v:LB)(h:dG (j+1) (c::r) acc=some v):∃e ch m,c::r=e++m/\1<=e.length/\dG j m (acc++[ch])=some v/\∀t,mW (e++t)=(ch,true,t)/\aL [34] (e++t)=false:=by
 unfold dG at h
 by_cases h1:(c==34||!(kZ c.toNat))=true
 ·rw[a0j h1]at h;simp at h
 rw[a0g h1]at h;simp only[a0Y,not_or,a1m,a2Y,a0X]at h1
 by_cases h2:(c==92)=true
 ·rw[a0j h2]at h
  have:c=92:=by simpa using h2
  subst this;cases r with
  | nil=>simp at h
  | cons d r1 =>
    dsimp only at h
    by_cases h3:(d==120)=true
    ·rw[a0j h3]at h
     have:d=120:=by simpa using h3
     subst this
     match r1,h with
     | [],h=>simp at h
     | [x],h=>simp at h
     | x::y::r2,h =>
       dsimp only at h
       by_cases h4:(decide (jE x<0)||decide (jE y<0))=true
       ·rw[a0j h4]at h;simp at h
       rw[a0g h4]at h;simp only[a0Y,not_or,a0S]at h4;have hx:0<=jE x:=by omega
       have hy:0<=jE y:=by omega
       refine⟨[92,120,x,y],_,r2,by simp,by simp,h,λt=>⟨?_,by simp[take1]⟩⟩;unfold mW;simp only[a0J,a1a];rw[qo,qo,qo];have er:aJ [92,120] (92::120::x::y::t)=x::y::t:=rest_of rfl;rw[er,a0g (by decide),a0g (by decide),a0j (by decide)];unfold Bn;dsimp only;rw[AO,a0j hx];dsimp only;rw[AO,a0j hy,aac _ _ hx hy]
       rfl
    rw[a0g h3]at h
    by_cases h4:(!(d==34)&&!(d==92))=true
    ·rw[a0j h4]at h;simp at h
    rw[a0g h4]at h;refine⟨[92,d],d,r1,by simp,by simp,h,λt=>⟨?_,by simp[take1]⟩⟩;unfold mW;simp only[a0J,a1a];rw[qo,qo]
    by_cases hd:d=34
    ·subst hd
     rw[a0j (by decide)];exact congrArg _ (congrArg _ (rest_of rfl))
    have kY:d=92:=by
     simp at h4;exact h4 hd
    subst kY;rw[a0g (by decide),a0j (by decide)];exact congrArg _ (congrArg _ (rest_of rfl))
 rw[a0g h2]at h;have yo:c≠92:=by simpa using h2
 refine⟨[c],c,r,rfl,by simp,h,λt=>⟨?_,?_⟩⟩
 ·unfold mW
  simp only[a0J,a1a];rw[PZ _ _ _ _ yo.symm,PZ _ _ _ _ yo.symm,PZ _ _ _ _ yo.symm];simp[h1.2,yo]
 simp only[a0J,a1a];rw[take1];simpa using λe=>h1.1 e.symm
theorem adB:∀(j:Nat) (m acc v:LB),dG j m acc=some v->acc.length<=v.length
 | 0,m,acc,v,h=>by simp[dG]at h
 | j+1,[],acc,v,h=>by simp[dG]at h;subst h;omega
 | j+1,c::r,acc,v,h=>by
   obtain⟨e,ch,m,_,_,h2,_⟩:=aad j c r acc v h;have:=adB j m _ v h2;simp at this;omega
theorem Rv:∀(j k:Nat) (m acc v s:LB),dG j m acc=some v->v.length<=40->m.length<k->qN k acc (m++34::s)=(v,true,s)
 | 0,k,m,acc,v,s,h,_,_=>by simp[dG]at h
 | j+1,0,m,acc,v,s,h,_,hk=>by omega
 | j+1,k+1,[],acc,v,s,h,_,_=>by
   simp[dG]at h;subst h;unfold qN;have:=nZ [34] s;simp only[a1j]at this;rw[a1a,this.1,a0j rfl,this.2]
 | j+1,k+1,c::r,acc,v,s,h,hv,hk=>by
   obtain⟨e,ch,m,he,hel,h2,ht⟩:=aad j c r acc v h;have hl:=adB j m _ v h2;simp only[a0v,a1k]at hl;rw[he,a0K];unfold qN;have Ji:(c::r).length=e.length+m.length:=by rw[he];simp
   rw[(ht _).2,(ht _).1,a0g (by simp),a0g (by simp;omega)];exact Rv j k m _ v s h2 hv (by omega)
theorem ahP(q v:LB)(h:fK q=(v,true)):∃m,q=34::(m++[34])/\dG q.length m []=some v/\v.length<=40:=by
 unfold fK at h
 by_cases h1:(decide (q.length<2)||!(hd q==34)||!(q.getLast?==some 34))=true
 ·rw[a0j h1]at h;simp at h
 rw[a0g h1]at h;simp only[a0Y,not_or,a0S,a1m,a2Y,a0X]at h1;obtain⟨⟨h2,h3⟩,h4⟩:=h1;have e:q=34::(((q.take (q.length-1)).drop 1)++[34]):=by
  cases q with
  | nil=>simp at h2
  | cons c r =>
    have hc:c=34:=by
     apply a1w.1;have:(c.toNat:Int)=34:=h3;show c.toNat=34;omega
    subst hc;have hr:r≠[]:=λe=>by subst e;simp at h2
    have h5:r.getLast hr=34:=by
     rw[List.getLast?_cons,List.getLast?_eq_some_getLast hr]at h4;simpa using h4
    have h6:=a2w hr;rw[h5]at h6;have h7:(List.take ((34::r).length-1) (34::r)).drop 1=r.dropLast:=by
     rw[List.dropLast_eq_take];obtain⟨n,hn⟩:∃n,r.length=n+1:=⟨r.length-1,by have:=a1P.2 hr;omega⟩;simp[hn]
    rw[h7,h6]
 cases hu:dG q.length ((q.take (q.length-1)).drop 1) [] with
 | none=>rw[hu]at h;simp at h
 | some v' =>
   rw[hu]at h;simp at h;obtain⟨rfl,hv⟩:=h;exact⟨_,e,hu,hv⟩
theorem Rw(q v s:LB)(h:fK q=(v,true)):nS (q++s)=(v,true,s)/\∃q',q=34::q':=by
 obtain⟨m,rfl,hu,hv⟩:=ahP q v h;refine⟨?_,_,rfl⟩;have e:(34::(m++[34])++s)=34::(m++34::s):=by simp
 rw[e];unfold nS;have:=nZ [34] (m++34::s);simp only[a1j]at this;rw[this.1,a0j rfl,this.2];exact Rv _ _ m [] v s hu hv (by simp;omega)
/-! A matcher. -/
def rR(m:CM):RM:=(m.1,iK m.2.1,m.2.2)
theorem adC(l:LB)(h:(gQ l).2.1=true):l=iK (gQ l).1++(gQ l).2.2:=by
 unfold gQ at *
 by_cases h1:aL [61,126] l=true
 ·rw[a0j h1];exact dV _ _ h1
 rw[a0g h1]at h |-
 by_cases h2:aL [33,126] l=true
 ·rw[a0j h2];exact dV _ _ h2
 rw[a0g h2]at h |-
 by_cases h3:aL [33,61] l=true
 ·rw[a0j h3];exact dV _ _ h3
 rw[a0g h3]at h |-;exact dV _ _ h
theorem adD(k:Nat)(h:k<=3):k=0\/k=1\/k=2\/k=3:=by omega
theorem abw(k:Nat)(hk:k<=3)(t:LB):gQ (iK k++34::t)=(k,true,34::t):=by
 rcases adD k hk with rfl|rfl|rfl|rfl
 ·have e:iK 0++34::t=61::34::t:=rfl
  rw[e];unfold gQ;rw[qo,qo,qo,a0g (by decide),a0g (by decide),a0g (by decide),take1];have er:aJ [61] (61::34::t)=34::t:=rest_of rfl;rw[er];rfl
 ·have e:iK 1++34::t=33::61::34::t:=rfl
  rw[e];unfold gQ;rw[qo,qo,qo,a0g (by decide),a0g (by decide),a0j (by decide)];exact congrArg _ (congrArg _ (rest_of rfl))
 ·have e:iK 2++34::t=61::126::34::t:=rfl
  rw[e];unfold gQ;rw[qo,a0j (by decide)];exact congrArg _ (congrArg _ (rest_of rfl))
 have e:iK 3++34::t=33::126::34::t:=rfl;rw[e];unfold gQ;rw[qo,qo,a0g (by decide),a0j (by decide)];exact congrArg _ (congrArg _ (rest_of rfl))
theorem aae(k:Nat):∃x t,iK k=x::t/\(x=61\/x=33):=by
 unfold iK
 split
 ·exact⟨_,_,rfl,.inr rfl⟩
 split
 ·exact⟨_,_,rfl,.inl rfl⟩
 split
 ·exact⟨_,_,rfl,.inr rfl⟩
 exact⟨_,_,rfl,.inl rfl⟩
theorem abx(k:Nat):clean (iK k)=true:=by
 unfold iK
 split
 ·decide
 split
 ·decide
 split<;>decide
theorem aaf {p:UInt8->Bool}(n:LB)(x:UInt8)(t:LB)(hn:n.all p=true)(hx:p x=false):(n++x::t).takeWhile p=n/\(n++x::t).dropWhile p=x::t:=by
 induction n with
 | nil=>simp[hx]
 | cons y n ih =>
   simp only[a1Q,a0N]at hn;have:=ih hn.2;simp only[a0J];rw[List.takeWhile_cons,List.dropWhile_cons,hn.1];simp[this]
theorem ahQ(c:UInt8):(!(bA c)||nY c)=true:=tH (p:=λc=>!(bA c)||nY c) (by decide +kernel) c
theorem afj(n:LB)(h:n.all bA=true):n.all nY=true:=by
 rw[a1e]at h |-;intro x hx;have:=ahQ x;rw[h x hx]at this;simpa using this
theorem aag(n:LB)(h:aI n=true):n.all bA=true:=by
 unfold aI at h;simp only[a0N]at h;exact h.2
theorem afk(n:LB)(k:Nat)(q v:LB)(hn:aI n=true)(hk:k<=3)(hq:fK q=(v,true)):pM (n++(iK k++q))=((n,iK k,v),true):=by
 obtain⟨_,q',rfl⟩:=Rw q v [] hq;have fJ:=afj n (aag n hn);obtain⟨x,t,e,hx⟩:=aae k;have hx2:nY x=false:=by rcases hx with rfl|rfl<;>decide
 have hs:=aaf n x (t++34::q') fJ hx2;rw[<-a0J,<-e]at hs;unfold pM;rw[hs.1,hs.2];dsimp only;rcases adD k hk with rfl|rfl|rfl|rfl
 ·have e:iK 0++34::q'=61::34::q':=rfl
  rw[e];have s2:oJ (61::34::q')=false:=by simp[oJ]
  have s1:zL (61::34::q')=true:=by simp[zL,hd]
  rw[s2,s1];simp[hq,hn,iK]
 ·have e:iK 1++34::q'=33::61::34::q':=rfl
  rw[e];have s2:oJ (33::61::34::q')=true:=by simp[oJ]
  rw[s2];simp[hq,hn,iK]
 ·have e:iK 2++34::q'=61::126::34::q':=rfl
  rw[e];have s2:oJ (61::126::34::q')=true:=by simp[oJ]
  rw[s2];simp[hq,hn,iK]
 have e:iK 3++34::q'=33::126::34::q':=rfl;rw[e];have s2:oJ (33::126::34::q')=true:=by simp[oJ]
 rw[s2];simp[hq,hn,iK]
theorem apK(r:LB)(h:zL r=true):∃t,r=61::t:=by
 unfold zL at h;cases r with
 | nil=>simp at h
 | cons c t =>
   simp only[a0N,a0X]at h;have:(c.toNat:Int)=61:=h.2;have:c=61:=a1w.1 (by show c.toNat=61;omega);exact⟨t,by rw[this]⟩
theorem akr(h:LB)(m:RM)(e:pM h=(m,true)):∃n k q v,h=n++(iK k++q)/\k<=3/\aI n=true/\fK q=(v,true)/\m=(n,iK k,v):=by
 have xX:h.takeWhile nY++h.dropWhile nY=h:=a1K;unfold pM at e;dsimp only at e;generalize h.takeWhile nY=n at *;generalize h.dropWhile nY=r at *
 by_cases h2:oJ r=true
 ·rw[a0j h2]at e
  simp only[Prod.mk.injEq,a0N]at e;obtain⟨rfl,hu,hn⟩:=e;unfold oJ at h2;simp only[a0N,a0S,a0Y,a0X]at h2;have hr:r=r.take 2++r.drop 2:=(a1I 2 r).symm;have hq:fK (r.drop 2)=((fK (r.drop 2)).1,true):=by rw[<-hu]
  rcases h2.2 with(e2|e2)|e2
  ·exact⟨n,2,r.drop 2,_,by rw[<-xX];conv=>lhs;rw[hr,e2]
                           rfl,by omega,hn,hq,by rw[e2];rfl⟩
  ·exact⟨n,3,r.drop 2,_,by rw[<-xX];conv=>lhs;rw[hr,e2]
                           rfl,by omega,hn,hq,by rw[e2];rfl⟩
  exact⟨n,1,r.drop 2,_,by rw[<-xX];conv=>lhs;rw[hr,e2]
                          rfl,by omega,hn,hq,by rw[e2];rfl⟩
 rw[a0g h2]at e
 by_cases h1:zL r=true
 ·rw[a0j h1]at e
  obtain⟨t,rfl⟩:=apK r h1;simp only[Prod.mk.injEq,a0N]at e;obtain⟨rfl,hu,hn⟩:=e;have hq:fK t=((fK t).1,true):=by
   have:(fK t).2=true:=hu;rw[<-this]
  exact⟨n,0,t,_,by rw[<-xX];rfl,by omega,hn,hq,rfl⟩
 rw[a0g h1]at e;simp at e
theorem adE(n:LB)(k:Nat)(q v s:LB)(hn:aI n=true)(hk:k<=3)(hq:fK q=(v,true)):jB (n++(iK k++q)++s)=((n,k,v),true,s):=by
 have hv:=Rw q v s hq;obtain⟨q',rfl⟩:=hv.2;obtain⟨x,t,e,hx⟩:=aae k;have hx2:bA x=false:=by rcases hx with rfl|rfl<;>decide
 have hs:=aaf n x (t++34::(q'++s)) (aag n hn) hx2;rw[<-a0J,<-e]at hs;have e2:n++(iK k++34::q')++s=n++(iK k++34::(q'++s)):=by simp
 rw[e2];unfold jB;dsimp only;rw[hs.1,hs.2,abw k hk];dsimp only;have hv1:=hv.1;rw[a0J]at hv1;rw[hv1,hn];rfl
theorem alY(r:LB):(pM (fw r)).2=((jB r).2.1&&bd (jB r).2.2)/\((jB r).2.1=true->bd (jB r).2.2=true->(pM (fw r)).1=rR (jB r).1/\uk r=(jB r).2.2):=by
 have fwd:(jB r).2.1=true->bd (jB r).2.2=true->pM (fw r)=(rR (jB r).1,true)/\uk r=(jB r).2.2:=by
  intro h1 h2;unfold jB at *;dsimp only at *;simp only[a0N]at h1;obtain⟨⟨hn,hk⟩,hv⟩:=h1;have e1:r.takeWhile bA++r.dropWhile bA=r:=a1K;have hc:clean (r.takeWhile bA)=true:=I4 (p:=bA) (λc h=>⟨(GR h).1,(GR h).2.1⟩) _ (j5 _ _);have e2:=adC _ hk;have Py:=Zo (r.dropWhile bA);generalize r.takeWhile bA=n at *;generalize r.dropWhile bA=l1 at *;generalize hK:gQ l1=K at *;obtain⟨k,kb,l2⟩:=K;dsimp only at *;generalize hV:nS l2=V at *;obtain⟨v,vb,s⟩:=V;dsimp only at *;subst hv;obtain⟨q,e3,hu,hf⟩:=afi l2 v s hV;have f1:=kF n (iK k++(34::q++s)) hc;have f2:=kF (iK k) (34::q++s) (abx k);have f3:=hf s;have f4:=um s h2;have er:r=n++(iK k++(34::q++s)):=by rw[<-e1,e2,e3]
  rw[er,f1.1,f1.2,f2.1,f2.2,f3.1,f3.2,f4.1,f4.2,a0Q,afk n k (34::q) v hn Py hu];exact⟨rfl,rfl⟩
 have bwd:(pM (fw r)).2=true->(jB r).2.1=true/\bd (jB r).2.2=true:=by
  intro h;obtain⟨n,k,q,v,e,hk,hn,hq,_⟩:=akr (fw r) (pM (fw r)).1 (by rw[<-h]);have er:=I1 r;rw[e]at er;rw[er,adE n k q v (uk r) hn hk hq];exact⟨rfl,abt r⟩
 refine⟨?_,λh1 h2=>?_⟩
 ·rw[a0P,a0N]
  exact⟨bwd,λh=>by rw[(fwd h.1 h.2).1]⟩
 have:=fwd h1 h2;rw[this.1];exact⟨rfl,this.2⟩
/-! What is behind the times. -/
def S5(l:LB):Option Bool:=if (aJ gB l).isEmpty then some (aL gB l) else none
theorem anX(l:LB)(h:bd l=false):S5 l=none:=by
 unfold S5;have:=akk [99,111,110,116,105,110,117,101] l h;have e:aJ gB l=l:=this;rw[e];obtain⟨x,r,rfl,_⟩:=zQ h
 rfl
def Qa(W:List LB):Option Bool:=if (W.length==1)&&(W.getD 0 []==zN) then some true else if W.isEmpty then some false else none
theorem anY(l:LB)(h:bd l=true):S5 l=Qa (tw l):=by
 cases l with
 | nil=>rfl
 | cons x r =>
   have:x=32:=by simpa[bd] using h
   subst this;rw[xQ,By];unfold Qa S5
   by_cases hc:aL gB (32::r)=true
   ·have e:=dV _ _ hc
    have e':r=zN++aJ gB (32::r):=by
     have:(32::r)=32::(zN++aJ gB (32::r)):=e;simpa using this
    rw[hc];generalize aJ gB (32::r)=s at *;subst e';have f:=kF zN s (by decide);rw[f.1,f.2];cases s with
    | nil=>rfl
    | cons y s =>
      simp only[a1J];rw[a0g (by simp)];cases hb:bd (y::s)
      ·obtain⟨h',e'⟩:=GU y s hb
       rw[e'];rw[a0g]
       ·rfl
       simp
      rw[(um _ hb).2,xQ,By];simp
   have hr:aJ gB (32::r)=32::r:=by unfold aL at hc;unfold aJ;rw[a0g hc]
   rw[hr];simp only[a1J];rw[a0g (by simp),a0g]
   ·rfl
   intro hh;apply hc;simp only[a0o,a0N,a0X]at hh;have h0:uk r=[]:=(alV _).1 (by omega);have h1:fw r=zN:=by simpa using hh.2
   have:=I1 r;rw[h0,h1,a0Q]at this;rw[this];decide
theorem aby(k:Nat)(W:List LB)(acc:List RM)(h:LG wIf W=false):(if (dC (k+1) W acc).2.2 then some ((dC (k+1) W acc).1,(dC (k+1) W acc).2.1) else none)=if acc.length<=4 then (Qa W).map (λb=>(acc,b)) else none:=by
 unfold dC;unfold LG at h;rw[h];unfold Qa
 by_cases h1:((W.length==1)&&(W.getD 0 []==zN))=true
 ·rw[h1]
  by_cases h4:acc.length<=4<;>simp[h4]
 have TQ:((W.length==1)&&(W.getD 0 []==zN))=false:=by simpa using h1
 rw[TQ]
 by_cases h2:W.isEmpty=true
 ·by_cases h4:acc.length<=4<;>simp[h4,h2]
 by_cases h4:acc.length<=4<;>simp[h4,h2]
theorem Rx:∀(k:Nat) (W:List LB) (acc:List RM),4<acc.length->(dC k W acc).2.2=false
 | 0,W,acc,h=>rfl
 | k+1,W,acc,h=>by
   unfold dC
   split
   ·split
    ·exact Rx k _ _ (by simp;omega)
    rfl
   split
   ·simp;omega
   simp;omega
def S4g(k:Nat)(acc:List CM)(l:LB):Option (List CM × Bool):=if (uE k acc l).2.1 then (S5 (uE k acc l).2.2).map (λb=>((uE k acc l).1,b)) else none
def YG(k:Nat)(acc:List RM)(W:List LB):Option (List RM × Bool):=if (dC k W acc).2.2 then some ((dC k W acc).1,(dC k W acc).2.1) else none
theorem adF(k:Nat)(acc:List CM)(l:LB)(h:bd l=false):S4g (k+1) acc l=none:=by
 unfold S4g uE;have:aL qz l=false:=NT [105,102,32] l h;rw[this];simp[anX l h]
theorem aah:∀(k k2:Nat) (acc:List CM) (l:LB),6<=k+acc.length->acc.length<=4->bd l=true->(tw l).length<k2->(S4g k acc l).map (λx=>(x.1.map rR,x.2))=YG k2 (acc.map rR) (tw l)
 | 0,k2,acc,l,h1,h2,_,_=>by omega
 | k+1,0,acc,l,h1,h2,hb,ME=>by omega
 | k+1,k2+1,acc,l,h1,h2,hb,ME=>by
   have LH:LG wIf (tw l)=aL qz l:=aff wIf l (by decide) hb
   by_cases ht:aL qz l=true
   ·have hr:=Xw wIf l (by decide) ht
    have lG:(tw l).getD 1 []=fw (aJ qz l):=hr.1;have pX:(tw l).drop 2=tw (uk (aJ qz l)):=hr.2;rw[ht]at LH;have hlen:1<(tw l).length:=by
     unfold LG at LH;simp at LH;exact LH.1
    have hm:=alY (aJ qz l);have hR:YG (k2+1) (acc.map rR) (tw l)=if (pM (fw (aJ qz l))).2 then YG k2 (acc.map rR++[(pM (fw (aJ qz l))).1]) (tw (uk (aJ qz l))) else none:=by
     unfold YG;have e:dC (k2+1) (tw l) (acc.map rR)=if (pM (fw (aJ qz l))).2 then dC k2 (tw (uk (aJ qz l))) (acc.map rR++[(pM (fw (aJ qz l))).1]) else (acc.map rR,false,false):=by
      conv=>lhs;unfold dC
      unfold LG at LH;rw[LH,lG,pX];rfl
     rw[e]
     by_cases hx:(pM (fw (aJ qz l))).2=true
     ·rw[a0j hx];simp only[a0j hx]
     rw[a0g hx];simp only[a0g hx];rfl
    have hS:S4g (k+1) acc l=if !(jB (aJ qz l)).2.1||decide (4<=acc.length) then none else S4g k (acc++[(jB (aJ qz l)).1]) (jB (aJ qz l)).2.2:=by
     unfold S4g;have e:uE (k+1) acc l=if !(jB (aJ qz l)).2.1||decide (4<=acc.length) then (acc,false,(jB (aJ qz l)).2.2) else uE k (acc++[(jB (aJ qz l)).1]) (jB (aJ qz l)).2.2:=by
      conv=>lhs;unfold uE
      rw[ht];rfl
     rw[e]
     by_cases hx:(!(jB (aJ qz l)).2.1||decide (4<=acc.length))=true
     ·rw[a0j hx];simp only[a0j hx];rfl
     rw[a0g hx];simp only[a0g hx]
    rw[hR,hS,hm.1];generalize hX:jB (aJ qz l)=X at *;obtain⟨x,xok,xr⟩:=X;dsimp only at *;cases xok
    ·simp
    cases Jn:bd xr
    ·by_cases h4:4<=acc.length
     ·simp[h4]
     obtain⟨k',rfl⟩:∃k',k=k'+1:=⟨k-1,by omega⟩;rw[a0g (by simp[h4]),adF _ _ _ Jn];simp
    have Jq:=hm.2 rfl Jn
    by_cases h4:4<=acc.length
    ·have:YG k2 (acc.map rR++[(pM (fw (aJ qz l))).1]) (tw (uk (aJ qz l)))=none:=by
      unfold YG;rw[Rx _ _ _ (by simp;omega)];rfl
     rw[this];simp[h4]
    rw[a0g (by simp[h4]),Jq.1,Jq.2];have ih:=aah k k2 (acc++[x]) xr (by simp;omega) (by simp;omega) Jn (by
     have:(tw xr).length=(tw l).length-2:=by rw[<-Jq.2,<-pX,a2I]
     omega)
    rw[a0T]at ih;rw[ih];simp
   have LW:aL qz l=false:=by simpa using ht
   rw[LW]at LH;have h:=aby k2 (tw l) (acc.map rR) LH;have hR:YG (k2+1) (acc.map rR) (tw l)=(Qa (tw l)).map (λb=>(acc.map rR,b)):=by
    unfold YG;rw[h,a0j (by simp;omega)]
   rw[hR];unfold S4g uE;rw[LW];simp only[a0n,a0G,a0C];rw[anY l hb];cases Qa (tw l)<;>simp
def S4(l:LB):Option (List CM × Bool):=S4g 6 [] l
theorem anZ(l:LB)(h:bd l=false):S4 l=none:=adF 5 [] l h
def R4(W:List LB):Option (List RM × Bool):=YG (W.length+1) [] W
theorem an0(l:LB)(h:bd l=true):(S4 l).map (λx=>(x.1.map rR,x.2))=R4 (tw l):=aah 6 _ [] l (by simp) (by simp) h (a2B _)
theorem XD(p:LB)(hp:clean p=true)(F:LB->Int->Option α)(G:List LB->Int->Option α)(hF:∀l n,bd l=false->F l n=none)(hG:∀l n,bd l=true->F l n=G (tw l) n)(l:LB)(hb:bd l=true) :
 (if (bP (32::(p++[32])) l).2.1 then F (bP (32::(p++[32])) l).2.2 (bP (32::(p++[32])) l).1 else none)=(if LG p (tw l) then (if decide (fZ ((tw l).getD 1 [])<0) then none else G ((tw l).drop 2) (fZ ((tw l).getD 1 []))) else G (tw l) (-1)):=by
 rw[aff p l hp hb];unfold bP
 by_cases ht:aL (32::(p++[32])) l=true
 ·have hr:=Xw p l hp ht
  have hn:=alW (aJ (32::(p++[32])) l);simp only[a0j ht];rw[hr.1,hr.2];generalize aJ (32::(p++[32])) l=r at *;generalize hN:jU r=N at *;obtain⟨n,nok,nr⟩:=N;dsimp only at *;cases nok
  ·have:fZ (fw r)<0:=by
    have:=hn.1;simp at this;exact this
   simp[this]
  cases Be:bd nr
  ·have:fZ (fw r)<0:=by
    have:=hn.1;rw[Be]at this;simp at this;exact this
   simp[this,hF nr _ Be]
  have h2:=hn.2 rfl Be;have:¬ fZ (fw r)<0:=by rw[h2.1];omega
  rw[a0f this,h2.1,h2.2];simp[hG nr _ Be]
 simp only[a0g ht,a0C];exact hG l _ hb
theorem afl(p:LB)(F:LB->Int->Option α)(hF:∀l n,bd l=false->F l n=none)(l:LB)(hb:bd l=false) :
 (if (bP (32::p) l).2.1 then F (bP (32::p) l).2.2 (bP (32::p) l).1 else none)=none:=by
 unfold bP;rw[NT p l hb];simp[hF l _ hb]
theorem by_step(F:LB->Bool->List LB->Option α)(G:List LB->Bool->List LB->Option α)(hF:∀l t n,bd l=false->F l t n=none)(hG:∀l t n,bd l=true->F l t n=G (tw l) t n)(l:LB)(hb:bd l=true) :
 (if (jW l).ok then F (jW l).rest (jW l).tells (jW l).names else none)=(match oU (tw l) with | none=>none|some (told,names,W)=>G W told names):=by
 have hk:=aff wBy l (by decide) hb;have hk':LG wBy (tw l)=aL [32,98,121,32] l:=hk;unfold oU;unfold LG at hk';rw[hk'];unfold jW
 by_cases ht:aL [32,98,121,32] l=true
 ·have hr:=Xw wBy l (by decide) ht
  have lG:(tw l).getD 1 []=fw (aJ [32,98,121,32] l):=hr.1;have pX:(tw l).drop 2=tw (uk (aJ [32,98,121,32] l)):=hr.2;simp only[a0j ht];rw[lG,pX];generalize aJ [32,98,121,32] l=r at *
  by_cases h45:aL [45] r=true
  ·simp only[a0j h45]
   have e:=dV _ _ h45;generalize aJ [45] r=s at *;subst e;have f:=kF [45] s (by decide);rw[f.1,f.2];cases Xl:bd s
   ·obtain⟨x,s',rfl,_⟩:=zQ Xl
    obtain⟨h',e'⟩:=GU x s' Xl;rw[e'];simp only[a0C];rw[hF _ _ _ Xl];have h1:([45]++x::h' == [45])=false:=by simp
    rw[h1];have h2:(dm false 44 ([45]++x::h')).all aI=false:=by
     rw[NQ];have:=abu [45] (x::h') (by simp);unfold C0 at this;rw[this];cases hz:l6 false 44 (x::h') false false with
     | nil=>exact(zP _ _ _ _ _ hz).elim
     | cons y Y =>
       have:=CZ [] 45 y (by decide);simp only[glue,a1Q];rw[a1a]at this;rw[a1j,this];rfl
    rw[h2];simp
   rw[(um s Xl).1,(um s Xl).2];simp[hG s _ _ Xl]
  simp only[a0g h45];have h1:(fw r == [45])=false:=by
   rw[a0k];intro e;apply h45;have:=I1 r;rw[e]at this;rw[this];exact(nZ [45] _).1
  rw[h1];have hs:=akq r;have hc:dm false 44 (fw r)=C0 (fw r):=NQ _ _ _;rw[hc,hs.1];generalize fG r=z at *;obtain⟨z1,zok,zr⟩:=z;dsimp only at *;cases zok
  ·simp
  cases hbz:bd zr
  ·simp[hF zr _ _ hbz]
  have h2:=hs.2 rfl hbz;rw[h2.1,h2.2,akn];simp[hG zr _ _ hbz]
 simp only[a0g ht,a0C];exact hG l _ _ hb
def qw(c:CR):RR:=⟨c.rc,c.tb,c.nU,c.wt,c.ev,c.rp,c.ifs.map rR,c.co,c.d⟩
def F0(d:Nat)(rc:LB)(told:Bool)(names:List LB)(t0 t1 t2:Int)(l:LB):Option RR:=(S4 l).map λx=>⟨rc,told,names,t0,t1,t2,x.1.map rR,x.2,d⟩
def G0(d:Nat)(rc:LB)(told:Bool)(names:List LB)(t0 t1 t2:Int)(W:List LB):Option RR:=(R4 W).map λx=>⟨rc,told,names,t0,t1,t2,x.1,x.2,d⟩
theorem aks(d:Nat)(rc:LB)(told:Bool)(names:List LB)(t0 t1 t2:Int)(l:LB)(h:bd l=false):F0 d rc told names t0 t1 t2 l=none:=by
 unfold F0;rw[anZ l h];rfl
theorem an1(d:Nat)(rc:LB)(told:Bool)(names:List LB)(t0 t1 t2:Int)(l:LB)(h:bd l=true):F0 d rc told names t0 t1 t2 l=G0 d rc told names t0 t1 t2 (tw l):=by
 unfold F0 G0;rw[<-an0 l h];cases S4 l<;>rfl
def F1(d:Nat)(rc:LB)(told:Bool)(names:List LB)(t0 t1:Int)(l:LB):Option RR:=if (bP pI l).2.1 then F0 d rc told names t0 t1 (bP pI l).1 (bP pI l).2.2 else none
def F2(d:Nat)(rc:LB)(told:Bool)(names:List LB)(t0:Int)(l:LB):Option RR:=if (bP nE l).2.1 then F1 d rc told names t0 (bP nE l).1 (bP nE l).2.2 else none
def F3(d:Nat)(rc:LB)(told:Bool)(names:List LB)(l:LB):Option RR:=if (bP nT l).2.1 then F2 d rc told names (bP nT l).1 (bP nT l).2.2 else none
def Qb(d:Nat)(rc:LB)(told:Bool)(names:List LB)(k:Nat)(ts:Int × Int × Int)(W:List LB):Option RR:=match lQ k ts W with | none=>none|some (ts,W2)=>G0 d rc told names ts.1 ts.2.1 ts.2.2 W2
theorem akt(d:Nat)(rc:LB)(told:Bool)(names:List LB)(t0 t1:Int)(l:LB)(h:bd l=false):F1 d rc told names t0 t1 l=none:=by
 have:=afl (pO++[32]) (λl n=>F0 d rc told names t0 t1 n l) (λl n h=>aks _ _ _ _ _ _ _ l h) l h;exact this
theorem aku(d:Nat)(rc:LB)(told:Bool)(names:List LB)(t0:Int)(l:LB)(h:bd l=false):F2 d rc told names t0 l=none:=by
 have:=afl (tL++[32]) (λl n=>F1 d rc told names t0 n l) (λl n h=>akt _ _ _ _ _ _ l h) l h;exact this
theorem akv(d:Nat)(rc:LB)(told:Bool)(names:List LB)(l:LB)(h:bd l=false):F3 d rc told names l=none:=by
 have:=afl (yh++[32]) (λl n=>F2 d rc told names n l) (λl n h=>aku _ _ _ _ _ l h) l h;exact this
theorem Qc(d:Nat)(rc:LB)(told:Bool)(names:List LB)(k:Nat)(ts:Int × Int × Int)(W:List LB):Qb d rc told names (k+1) ts W=if LG (agd k) W then (if decide (fZ (W.getD 1 [])<0) then none else Qb d rc told names k (aj1 k ts (fZ (W.getD 1 []))) (W.drop 2)) else Qb d rc told names k ts W:=by
 unfold Qb;have e:lQ (k+1) ts W=if LG (agd k) W then (if decide (fZ (W.getD 1 [])<0) then none else lQ k (aj1 k ts (fZ (W.getD 1 []))) (W.drop 2)) else lQ k ts W:=by
  conv=>lhs;unfold lQ
  rfl
 rw[e]
 by_cases h1:LG (agd k) W=true
 ·simp only[a0j h1]
  by_cases h2:decide (fZ (W.getD 1 [])<0)=true
  ·simp only[a0j h2]
  simp only[a0g h2]
 simp only[a0g h1]
theorem an3(d:Nat)(rc:LB)(told:Bool)(names:List LB)(t0 t1:Int)(l:LB)(h:bd l=true):F1 d rc told names t0 t1 l=Qb d rc told names 1 (t0,t1,-1) (tw l):=by
 have:=XD pO (by decide) (λl n=>F0 d rc told names t0 t1 n l) (λW n=>Qb d rc told names 0 (t0,t1,n) W) (λl n h=>aks _ _ _ _ _ _ _ l h) (λl n h=>an1 _ _ _ _ _ _ _ l h) l h;rw[Qc];exact this
theorem an4(d:Nat)(rc:LB)(told:Bool)(names:List LB)(t0:Int)(l:LB)(h:bd l=true):F2 d rc told names t0 l=Qb d rc told names 2 (t0,-1,-1) (tw l):=by
 have:=XD tL (by decide) (λl n=>F1 d rc told names t0 n l) (λW n=>Qb d rc told names 1 (t0,n,-1) W) (λl n h=>akt _ _ _ _ _ _ l h) (λl n h=>an3 _ _ _ _ _ _ l h) l h;rw[Qc];exact this
theorem an5(d:Nat)(rc:LB)(told:Bool)(names:List LB)(l:LB)(h:bd l=true):F3 d rc told names l=Qb d rc told names 3 (-1,-1,-1) (tw l):=by
 have:=XD yh (by decide) (λl n=>F2 d rc told names n l) (λW n=>Qb d rc told names 2 (n,-1,-1) W) (λl n h=>aku _ _ _ _ _ l h) (λl n h=>an4 _ _ _ _ _ l h) l h;rw[Qc];exact this
def F4(d:Nat)(rc:LB)(l:LB):Option RR:=if (jW l).ok then F3 d rc (jW l).tells (jW l).names (jW l).rest else none
theorem an6(d:Nat)(rc:LB)(l:LB)(h:bd l=false):F4 d rc l=none:=by
 unfold F4 jW;rw[NT [98,121,32] l h];simp[akv _ _ _ _ l h]
def G4(d:Nat)(rc:LB)(W:List LB):Option RR:=match oU W with | none=>none|some (told,names,W1)=>Qb d rc told names 3 (-1,-1,-1) W1
theorem an7(d:Nat)(rc:LB)(l:LB)(h:bd l=true):F4 d rc l=G4 d rc (tw l) :=
 by_step (λl t n=>F3 d rc t n l) (λW t n=>Qb d rc t n 3 (-1,-1,-1) W) (λl t n h=>akv _ _ _ _ l h) (λl t n h=>an5 _ _ _ _ l h) l h
def F5(d:Nat)(l:LB):Option RR:=if (dR l).2.1 then F4 d (dR l).1 (dR l).2.2 else none
theorem an8(d:Nat)(r:LB):F5 d r=if aI (fw r)||(fw r == [45]) then G4 d (fw r) (tw (uk r)) else none:=by
 have h:=akm r;rw[h.1];unfold F5;generalize dR r=z at *;obtain⟨z1,zok,zr⟩:=z;dsimp only at *;cases zok
 ·simp
 cases hb:bd zr
 ·simp[an6 _ _ _ hb]
 have h2:=h.2 rfl hb;rw[h2.1,h2.2,<-an7 _ _ _ hb];simp
theorem ahR(t:LB):(fI t).map qw=if aL jP (bD t).2 then F5 (bD t).1 (aJ jP (bD t).2) else none:=by
 rw[VF];unfold F5 F4 F3 F2 F1 F0 S4 S4g;have ea:srA t=dR (aJ jP (bD t).2):=rfl;have eb:VD t=jW (srA t).2.2:=rfl;have ec:Sw t=dB (VD t).rest:=rfl;have em:VE t=uE 6 [] (Sw t).rest:=rfl
 by_cases h0:aL jP (bD t).2=true
 ·rw[a0j h0,a0j h0,<-ea]
  by_cases h1:(srA t).2.1=true
  ·rw[a0j h1,a0j h1,<-eb]
   by_cases h2:(VD t).ok=true
   ·rw[a0j h2,a0j h2]
    generalize hc:Sw t=c at *;unfold dB at ec;dsimp only at ec;subst ec;dsimp only at *;generalize bP nT (VD t).rest=a at *;generalize bP nE a.2.2=b at *;generalize bP pI b.2.2=c at *
    by_cases h3:a.2.1=true
    ·by_cases h4:b.2.1=true
     ·by_cases h5:c.2.1=true
      ·rw[a0j (by simp[h3,h4,h5]),a0j h3,a0j h4,a0j h5,<-em]
       by_cases h6:(VE t).2.1=true
       ·rw[a0j h6,a0j h6]
        unfold S5
        by_cases h7:(aJ gB (VE t).2.2).isEmpty=true
        ·rw[a0j h7,a0j h7];rfl
        rw[a0g h7,a0g h7];rfl
       rw[a0g h6,a0g h6];rfl
      rw[a0g (by simp[h5]),a0j h3,a0j h4,a0g h5];rfl
     rw[a0g (by simp[h4]),a0j h3,a0g h4];rfl
    rw[a0g (by simp[h3]),a0g h3];rfl
   rw[a0g h2,a0g h2];rfl
  rw[a0g h1,a0g h1];rfl
 rw[a0g h0,a0g h0];rfl
theorem an9(d:Nat)(W:List LB):rtW d W=if decide (W.length<2)||!(W.getD 0 []==yN) then none else if aI (W.getD 1 [])||(W.getD 1 [] == [45]) then G4 d (W.getD 1 []) (W.drop 2) else none:=by
 unfold rtW
 by_cases h0:(decide (W.length<2)||!(W.getD 0 []==yN))=true
 ·rw[a0j h0,a0j h0]
 rw[a0g h0,a0g h0]
 by_cases h1:(aI (W.getD 1 [])||(W.getD 1 [] == [45]))=true
 ·rw[a0j h1,a0g (by
   intro h;simp only[a0N,a1m]at h;rw[h.1,h.2]at h1;simp at h1)]
  unfold G4;cases oU (W.drop 2) with
  | none=>rfl
  | some x =>
    obtain⟨told,names,W1⟩:=x;dsimp only;unfold Qb;cases lQ 3 (-1,-1,-1) W1 with
    | none=>rfl
    | some y =>
      obtain⟨ts,W2⟩:=y;dsimp only;unfold G0 R4 YG
      by_cases h2:(dC (W2.length+1) W2 []).2.2=true
      ·rw[a0j h2,a0j h2];rfl
      rw[a0g h2,a0g h2];rfl
 rw[a0g h1,a0j (by
  simp only[a0Y,not_or,a2J]at h1;rw[h1.1,h1.2];rfl)]
theorem ahS(t:LB):wZ t=(fI t).map qw:=by
 rw[ahR];unfold wZ;rw[an9,NQ];generalize (bD t).2=l;generalize (bD t).1=d;have hW:l6 true 32 l false false=fw l::tw (uk l):=By l;rw[hW]
 by_cases h:aL jP l=true
 ·rw[a0j h]
  have e:=dV _ _ h;generalize aJ jP l=r at *;have e':l=yN++32::r:=e;subst e';have f:=kF yN (32::r) (by decide);have b:=um (32::r) rfl;rw[f.1,f.2,b.1,b.2,xQ,By,an8];simp;intro h;omega
 rw[a0g h,a0j];simp only[a0Y,a0S,a0o,a1m,List.getD_cons_zero]
 by_cases h1:fw l=yN
 ·left
  by_cases h2:uk l=[]
  ·rw[h2,agp];simp
  exfalso
  obtain⟨r,e⟩:=adx (abt l) h2;apply h;have:=I1 l;rw[h1,e]at this;rw[this];exact(nZ jP r).1
 right;simpa using h1
/-! The first line. -/
def D0(c:UInt8)(l:LB):List LB:=l6 false c l false false
theorem TF(c:UInt8):D0 c []=[[]]:=rfl
theorem Qd(c:UInt8)(r:LB):D0 c (c::r)=[]::D0 c r:=by
 unfold D0;conv=>lhs;unfold l6
 simp
theorem NU(c x:UInt8)(r:LB)(h:x≠c):D0 c (x::r)=glue [x] (D0 c r):=by
 unfold D0;conv=>lhs;unfold l6
 simp[h]
theorem GV(c:UInt8)(l:LB):D0 c l≠[]:=zP _ _ _ _ _
theorem abz(c:UInt8):∀(p s:LB),(∀x∈p,x≠c)->D0 c (p++s)=glue p (D0 c s)
 | [],s,_=>by
   cases h:D0 c s with
   | nil=>exact(GV c s h).elim
   | cons=>simp[h,glue]
 | x::p,s,h=>by
   rw[a0J,NU c x _ (h x (by simp)),abz c p s (λy hy=>h y (by simp[hy])),xc];rfl
theorem amZ(c:UInt8)(l:LB):dm false c l=D0 c l:=NQ _ _ _
theorem adG(c:UInt8)(l:LB):∃h W,D0 c l=h::W/\(∀x r,l=x::r->x≠c->∃h',h=x::h'):=by
 cases l with
 | nil=>exact⟨[],[],rfl,by simp⟩
 | cons x r =>
   by_cases hx:x=c
   ·subst hx;exact⟨[],D0 x r,Qd _ _,λy r' e hy=>by simp at e;exact(hy e.1.symm).elim⟩
   cases hz:D0 c r with
   | nil=>exact(GV c r hz).elim
   | cons y Y=>exact⟨x::y,Y,by rw[NU c x r hx,hz];rfl,λz r' e _=>by simp at e;exact⟨y,by rw[e.1]⟩⟩
theorem akw:∀(k:Nat) (acc:List LB) (l:LB),9<=k+acc.length->acc.length<=8 ->
 Aq (k+1) acc l=(match l with
  | []=>if 0<acc.length then some acc else none
  | x::r=>if x=32/\(D0 32 r).all aI/\acc.length+(D0 32 r).length<=8 then some (acc++D0 32 r) else none):=by
 intro k
 induction k with
 | zero=>intro acc l h1 h2;omega
 | succ k ih =>
 intro acc l h1 h2;unfold Aq;cases l with
 | nil =>
   have:aL [32] []=false:=rfl;rw[this]
   by_cases h0:0<acc.length<;>simp[h0]
 | cons x r =>
   by_cases hx:x=32
   ·subst hx
    have ht:=nZ [32] r;rw[a1j]at ht;rw[a0j ht.1];dsimp only;rw[ht.2];have e:r.takeWhile bA++r.dropWhile bA=r:=a1K;have h32:∀x∈r.takeWhile bA,x≠32:=λx hx=>(GR (a1e.1 (j5 bA r) x hx)).1
    have nA:=sV bA r;have eD:D0 32 r=glue (r.takeWhile bA) (D0 32 (r.dropWhile bA)):=by rw[<-abz 32 _ _ h32,e]
    rw[eD];generalize r.takeWhile bA=n at *;generalize r.dropWhile bA=s at *;obtain⟨h,W,hW,hh⟩:=adG 32 s;rw[hW];simp only[glue,a1Q,a0o];have akx:aI (n++h)=true->aI n=true/\(s=[]\/∃r',s=32::r'):=by
     intro hn;cases s with
     | nil=>rw[TF]at hW;simp at hW;obtain⟨rfl,_⟩:=hW;rw[a0Q]at hn;exact⟨hn,.inl rfl⟩
     | cons y s' =>
       by_cases hy:y=32
       ·subst hy
        rw[Qd]at hW;simp at hW;obtain⟨rfl,_⟩:=hW;rw[a0Q]at hn;exact⟨hn,.inr ⟨s',rfl⟩⟩
       obtain⟨h',rfl⟩:=hh y s' rfl hy;rw[CZ n y h' (nA y s' rfl)]at hn;cases hn
    by_cases hc:(!(aI n)||decide (8<=acc.length))=true
    ·rw[a0j hc,a0g]
     intro⟨_,ha,hl⟩;rw[a0Y]at hc;rw[a0N]at ha;rcases hc with hc|hc
     ·rw[(akx ha.1).1]at hc;cases hc
     have:8<=acc.length:=by simpa using hc
     omega
    rw[a0g hc];simp only[a0Y,not_or,a1m,a2Y,a0S]at hc;rw[ih (acc++[n]) s (by simp;omega) (by simp;omega)];cases s with
    | nil =>
      rw[TF]at hW;simp at hW;obtain⟨rfl,rfl⟩:=hW;simp[hc.1];omega
    | cons y s' =>
      dsimp only
      by_cases hy:y=32
      ·subst hy
       rw[Qd]at hW;simp at hW;obtain⟨rfl,rfl⟩:=hW;rw[a0Q]
       by_cases Bh:(D0 32 s').all aI=true/\(acc++[n]).length+(D0 32 s').length<=8
       ·rw[a0j ⟨rfl,Bh.1,Bh.2⟩,a0j ⟨trivial,by rw[hc.1,Bh.1];rfl,by have:=Bh.2;simp at this;omega⟩];simp
       rw[a0g (λh=>Bh ⟨h.2.1,h.2.2⟩),a0g];intro⟨_,ha,hl⟩;rw[a0N]at ha;exact Bh ⟨ha.2,by simp;omega⟩
      rw[a0g (λh=>hy h.1),a0g];intro⟨_,ha,hl⟩;rw[a0N]at ha;rcases(akx ha.1).2 with e|⟨r',e⟩
      ·cases e
      simp at e;exact hy e.1
   have ht:aL [32] (x::r)=false:=by
    rw[take1];simpa using λe=>hx e.symm
   rw[ht];simp[hx]
theorem aky(t:LB):Xi t=iy t:=by
 unfold Xi iy;rw[amZ]
 by_cases ht:aL nW t=true
 ·rw[a0j ht]
  have e:=dV _ _ ht;generalize aJ nW t=l at *;subst e;rw[abz 32 nW l (by decide),akw 9 [] l (by simp) (by simp)];cases l with
  | nil=>rfl
  | cons x r =>
    dsimp only
    by_cases hx:x=32
    ·subst hx
     rw[Qd];have hp:1<=(D0 32 r).length:=by
      cases h:D0 32 r with
      | nil=>exact(GV _ _ h).elim
      | cons=>simp
     simp only[glue,a0Q,List.getD_cons_zero,a0o,a3j,a2A,a1f,a1v,a1a,a1X];have e1:(nW==nW)=true:=by simp
     rw[e1,a0h (by omega:1<(D0 32 r).length+1)]
     by_cases h1:(D0 32 r).all aI=true
     ·by_cases h2:(D0 32 r).length<=8
      ·rw[a0j (by rw[h1,a0h (by omega)];rfl),a0j ⟨h1,h2⟩]
      rw[a0g (by rw[a0f (by omega)];simp),a0g (λh=>h2 h.2)]
     rw[a0g (by simp only[a2J]at h1;rw[h1];simp),a0g (λh=>h1 h.1)]
    obtain⟨h,W,hW,hh⟩:=adG 32 (x::r);obtain⟨h',rfl⟩:=hh x r rfl hx;rw[hW,a0g (by simp[glue]),a0g (λh=>hx h.1)]
 rw[a0g ht,a0g];intro hh;apply ht;simp only[a0N,a0X]at hh;have h0:=hh.1.1.1;have h1:1<(D0 32 t).length:=by simpa using hh.1.1.2
 have key:∀(l:LB) (h:LB) (W:List LB),D0 32 l=h::W->∃s,l=h++s:=by
  intro l
  induction l with
  | nil=>intro h W e;rw[TF]at e;simp at e;exact⟨[],by rw[e.1];rfl⟩
  | cons x r ih =>
    intro h W e
    by_cases hx:x=32
    ·subst hx;rw[Qd]at e;simp at e;exact⟨32::r,by rw[e.1];rfl⟩
    rw[NU 32 x r hx]at e;cases hz:D0 32 r with
    | nil=>exact(GV _ _ hz).elim
    | cons y Y =>
      rw[hz]at e;simp[glue]at e;obtain⟨s,hs⟩:=ih y Y hz;exact⟨s,by rw[<-e.1,hs];rfl⟩
 cases hz:D0 32 t with
 | nil=>exact(GV _ _ hz).elim
 | cons h W =>
   rw[hz]at h0;have:h=nW:=by simpa using h0
   subst this;obtain⟨s,rfl⟩:=key t _ W hz;exact(nZ nW s).1
/-! The lines. -/
def agt(x:Except Nat (List LB × List CR)):Except Nat (List LB × List RR):=match x with | .error n=>.error n | .ok (L,C)=>.ok (L,C.map qw)
theorem aoa(x:LB)(W:List LB)(hW:W≠[])(i:Nat)(L:List LB)(R:List RR):qm (x::W) i L R=if i==0 then (match Xi x with | none=>.error 1|some L'=>qm W 1 L' R) else (match wZ x with | none=>.error (i+1)|some r=>qm W (i+1) L (R++[r])):=by
 cases W with
 | nil=>exact(hW rfl).elim
 | cons y W=>conv=>lhs;unfold qm
             rfl
theorem I6:∀(l:LB) (i:Nat) (cur:LB) (L:List LB) (C:List CR),qm (glue cur (D0 10 l)) i L (C.map qw)=agt (wh l (i+1) cur L C)
 | [],i,cur,L,C=>by
   rw[TF];simp only[glue,a0Q];unfold qm wh
   by_cases h1:cur.isEmpty=true
   ·by_cases h2:i=0
    ·subst h2;simp[h1,agt]
    have:(i==0)=false:=by simpa using h2
    have h3:(i+1==1)=false:=by simpa using h2
    rw[h1,this,h3];rfl
   have:cur.isEmpty=false:=by simpa using h1
   rw[this];rfl
 | c::r,i,cur,L,C=>by
   unfold wh
   by_cases hc:c=10
   ·subst hc
    rw[Qd];simp only[glue,a0Q];have h10:((10:UInt8)==10)=true:=rfl;rw[aoa _ _ (GV _ _),h10,aky,ahS];simp only[a0C];have hg:D0 10 r=glue [] (D0 10 r):=by
     cases h:D0 10 r with
     | nil=>exact(GV _ _ h).elim
     | cons=>rfl
    by_cases hi:i=0
    ·subst hi
     rw[a0j (by rfl),a0j (by rfl)];cases hs:iy cur with
     | none=>rfl
     | some L' =>
       dsimp only;rw[hg];exact I6 r 1 [] L' C
    have h0:(i==0)=false:=by simpa using hi
    have h3:(i+1==1)=false:=by simpa using hi
    rw[h0,h3];simp only[a0n,a0G];cases hs:fI cur with
    | none=>rfl
    | some x =>
      simp only[a1x];rw[hg];have:=I6 r (i+1) [] L (C++[x]);rw[a0T]at this;exact this
   rw[NU 10 c r hc,xc,a0g (by simpa using hc)];exact I6 r i (cur++[c]) L C
theorem afm(t:LB):qm (dm false 10 t) 0 [] []=agt (mD t):=by
 have:=I6 t 0 [] [] [];have hg:glue [] (D0 10 t)=D0 10 t:=by
  cases h:D0 10 t with
  | nil=>exact(GV _ _ h).elim
  | cons=>rfl
 rw[hg]at this;rw[amZ];exact this
/-! Tree and names. -/
theorem adH:∀(C:List CR) (i:Nat) (da:Nat),0<i->nI (C.map qw) i (da+1)=qh C i da
 | [],i,da,_=>rfl
 | c::C,i,da,hi=>by
   rw[a0A];unfold nI qh;have h0:(i==0)=false:=by rw[a0k];omega
   have hr:rY i (qw c)=false:=by unfold rY;rw[h0];rfl
   rw[hr,h0];have hd:(qw c).d=c.d:=rfl;simp only[a0n,a0G];have e:((!false&&!(oW i (da+1) (qw c)))||decide (5<(qw c).d)||decide (16<=i))=(!(jH (c.d:Int) (da:Int))||decide (16<=i)):=by
    unfold oW jH;rw[hd,a0h hi];rw[a0P];simp;omega
   rw[e,hd,adH C (i+1) c.d (by omega)]
theorem ahT(C:List CR):nI (C.map qw) 0 0=qh C 0 0:=by
 cases C with
 | nil=>rfl
 | cons c C =>
   rw[a0A];unfold nI qh;have hr:rY 0 (qw c)=nG c:=by
    unfold rY nG qw;dsimp only;rw[a0P];simp
   have hb:oW 0 0 (qw c)=false:=by unfold oW;rfl
   have hd:(qw c).d=c.d:=rfl;rw[hr,hb,hd];have e:((!(nG c)&&!false)||decide (5<c.d)||decide (16<=0))=(!(if (0==0)=true then nG c else jH (c.d:Int) 0)||decide (16<=0)):=by
    have:nG c=true->c.d=0:=by
     intro h;unfold nG at h;simp at h;exact h.1.1.1
    cases h:nG c
    ·simp
    simp[this h]
   rw[e,adH C 1 c.d (by omega)]
theorem ahU(C:List CR):rG (C.map qw)=iX C:=by
 unfold rG iX;rw[ahT];cases C<;>rfl
theorem adI(L:List LB):∀(C:List CR) (i:Nat),jZ L (C.map qw) i=tK L C i
 | [],i=>rfl
 | c::C,i=>by
   rw[a0A];unfold jZ tK;rw[adI L C (i+1)];rfl
def apL(x:Except (Nat × Nat) (List LB × List CR)):Except (Nat × Nat) (List LB × List RR):=match x with | .error n=>.error n | .ok (L,C)=>.ok (L,C.map qw)
theorem akz(t:LB):nu t=apL (mX t):=by
 unfold nu mX
 by_cases hl:1200<t.length
 ·rw[a0j hl,a0j hl];rfl
 rw[a0g hl,a0g hl,afm];cases mD t with
 | error n=>rfl
 | ok x =>
   obtain⟨L,C⟩:=x;simp only[agt];have e:uQ L (C.map qw)=if 0<iX C then (3,iX C) else if 0<kN L C then (4,kN L C) else (0,0):=by
    unfold uQ kN;rw[ahU,adI]
    by_cases h1:0<iX C
    ·rw[a0j h1,a0j (by omega)]
    rw[a0g h1,a0g (by omega)]
    by_cases h2:kM [] L=true
    ·simp[h2]
    simp only[a2J]at h2;rw[h2]
    by_cases h3:0<tK L C 0
    ·simp[h3,Nat.pos_iff_ne_zero.1 h3]
    have:tK L C 0=0:=by omega
    simp[this]
   rw[e]
   by_cases h1:0<iX C
   ·simp only[a0j h1];rfl
   simp only[a0g h1]
   by_cases h2:0<kN L C
   ·simp only[a0j h2];rfl
   simp only[a0g h2];rfl
theorem alZ(c:CR)(h:ID c)(hd:c.d<=5):age (qw c):=by
 refine⟨by show c.d<=9000;omega,?_,h.byl,λn hn=>DY (h.nU n hn),h.wt,h.ev,h.rp,by show(c.ifs.map rR).length<=4;rw[a0B];exact h.ifl,λm hm=>?_⟩
 ·rcases h.rc with e|e
  ·show c.rc.length<=8;rw[e];simp
  exact DY e
 have hm':m∈c.ifs.map rR:=hm;rw[a0s]at hm';obtain⟨x,hx,rfl⟩:=hm';have g:=h.ifs x hx;exact⟨DY g.name,by show(iK x.2.1).length<=2;unfold iK;split<;>(try split)<;>(try split)<;>simp,g.val⟩
abbrev PT(α:Type):Type:=LB->Option (α × LB)
structure lS where
 k:Nat
 cl:LN
 acc:LN
 nx:LN
structure pP where
 n:Nat
 k:Nat
 x:Nat
structure C6 where
 rc:LB
 bl:List LB
 wt:Nat
 ev:Nat
 rp:Nat
structure gD where
 op:Nat
 x:Nat
 a:Nat
 b:Nat
structure adJ where
 names:List LB
 consts:List LB
 aob:List lS
 tests:List pP
 agf:List C6
 code:List gD
def RW(A:LN)(k:Nat)(w:World)(v:Value)(vs:List (List Value)):Prop :=
 ∃a cap,v=.slice a vs.length cap/\vs.length<=cap/\∀(j:Nat) (h:j<vs.length),∃g off,a=some ⟨g,off,none⟩/\g∉A/\g<w.heap.size/\∀c x,vs[j][c]?=some x->w.cell? ⟨g,off+j*k+c,none⟩=some x
theorem RW.aB(h:RW A k w v vs)(f:aA S w w')(hS:∀g∈S,g∈A):RW A k w' v vs:=by
 obtain⟨a,cap,rfl,h1,h2⟩:=h;refine⟨a,cap,rfl,h1,λj hj=>?_⟩;obtain⟨g,off,rfl,h3,h4,h5⟩:=h2 j hj;exact⟨g,off,rfl,h3,a0x h4 f.size,λc x hx=>(f.cell (p:=⟨g,off+j*k+c,none⟩) h4 (λhm=>h3 (hS g hm))).trans (h5 c x hx)⟩
theorem RW.bW(h:RW A k w v vs)(hB:∀g∈B,g∈A\/w.heap.size<=g):RW B k w v vs:=by
 obtain⟨a,cap,rfl,h1,h2⟩:=h;refine⟨a,cap,rfl,h1,λj hj=>?_⟩;obtain⟨g,off,rfl,h3,h4,h5⟩:=h2 j hj;refine⟨g,off,rfl,λhm=>?_,h4,h5⟩;rcases hB g hm with h|h
 ·exact h3 h
 omega
theorem RW.nil(A:LN)(k:Nat)(w:World):RW A k w (.slice none 0 0) []:=⟨none,0,rfl,a0a _,λj hj=>absurd hj (by simp)⟩
def OW(e:TypeId)(k base:Nat)(w:World)(v:Value)(vs:List (List Value)):Prop:=w.ownsRow base e k v vs.length vs.flatten/\∀x∈vs,x.length=k
theorem OW.nil(e:TypeId)(k base:Nat)(w:World):OW e k base w (.slice none 0 0) []:=⟨World.ownsRow_nil w base e k,by simp⟩
theorem OW.aB{base:Nat}(h:OW e k base w v vs)(f:aA S w w')(hS:∀g∈S,g<base):OW e k base w' v vs:=⟨ek h.1 f hS,h.2⟩
theorem OW.shape{base:Nat}(h:OW e k base w v vs):∃a cap,v=.slice a vs.length cap:=by
 rcases h.1.2 with⟨e,h0⟩|⟨g,cap,cur,e,_⟩
 ·exact⟨none,0,by rw[e,h0]⟩
 exact⟨_,_,e⟩
theorem OW.lt{base:Nat}(h:OW e k base w v vs)(hg:v.ownBlock=some g):base<=g/\g<w.heap.size:=h.1.lt g hg
theorem OW.empty(e:TypeId)(k base:Nat)(w:World)(hb:base<=w.heap.size):OW e k base (w.alloc (.cells #[] e)) (.slice (some ⟨w.heap.size,0,none⟩) 0 0) []:=by
 refine⟨⟨by simp,.inr ⟨w.heap.size,0,#[],rfl,hb,?_,a0a _,by unfold maxLen;omega,by simp,by simp⟩⟩,by simp⟩;show(w.heap.push (.cells #[] e))[w.heap.size]?=_;simp
theorem XE:∀(vs:List (List Value)),(∀x∈vs,x.length=k)->∀(j:Nat) (h:j<vs.length) (c:Nat) (x:Value),vs[j][c]?=some x->vs.flatten[j*k+c]?=some x
 | [],_,j,h,_,_,_=>absurd h (by simp)
 | y::vs,hk,0,_,c,x,hx=>by
   have U0:y[c]?=some x:=hx;have hc:c<y.length:=(a0i.1 U0).1;rw[List.flatten_cons,a3a,a1v,a0u hc];exact U0
 | y::vs,hk,j+1,h,c,x,hx=>by
   have hy:=hk y (by simp);have hm:(j+1)*k=j*k+k:=Nat.succ_mul j k;rw[List.flatten_cons,a0R (by omega),show(j+1)*k+c-y.length=j*k+c by omega];exact XE vs (λz hz=>hk z (by simp[hz])) j (by simpa using h) c x (by simpa using hx)
theorem OW.rw{base:Nat}(h:OW e k base w v vs)(hA:∀g,v.ownBlock=some g->g∉A):RW A k w v vs:=by
 rcases h.1.2 with⟨rfl,h0⟩|⟨g,cap,cur,rfl,hb,hg,hn,hc,za,ht⟩
 ·rw[List.length_eq_zero_iff.1 h0];exact RW.nil _ _ _
 refine⟨_,cap,rfl,hn,λj hj=>⟨g,0,rfl,hA g rfl,(a0d.1 hg).1,λc x hx=>?_⟩⟩;have:=World.ownsRow.cells h.1 (g:=g) rfl (j*k+c) x (XE vs h.2 j hj c x hx)
 rwa [add0,show j*k+c=0+j*k+c by omega]at this
theorem oZ {z:Value}{b:Nat}(h:(Tryz.prog.info? e).map (λi=>(i.zero,i.size,i.bytes))=some (some z,k,b)):∃i,Tryz.prog.info? e=some i/\i.zero=some z/\i.size=k/\i.bytes=b:=by
 cases hi:Tryz.prog.info? e with
 | none=>rw[hi]at h;cases h
 | some i =>
   rw[hi]at h;simp only[a1x,Option.some.injEq,Prod.mk.injEq]at h;exact⟨i,rfl,h.1,h.2.1,h.2.2⟩
theorem og {o:Oper} {Q:Exit->Act->World->Prop}(w:World)(nJ:o.guard=none)(s x:Operand)(t e:TypeId)(z:Value)(k FC:Nat)
 (Ks:(Tryz.prog.info? e).map (λi=>(i.zero,i.size,i.bytes))=some (some z,k,FC)) (ht:Tryz.prog.underlying t=some (.slice e)) (UC:z.cells.size=k) (fM:0<k)
 (ho:o.op=.call { callee:=.builtin .append,args:=#[s,x],argTypes:=#[t,t] })
 (base:Nat) (v:Value) (vs:List (List Value)) (b1:Nat) (cs:List Value) (hs:a.eval s=v) (aQ:OW e k base w v vs) (hx:a.eval x=.slice (some ⟨b1,0,none⟩) 1 1)
 (yx:cs.length=k) (hc:∀j u,cs[j]?=some u->w.cell? ⟨b1,j,none⟩=some u) (hv:∀u∈cs,u.oneCell'=true) (hlen:(vs.length+1)*FC<=140737488355328) (aaG:vs.length<=140737488355328) (iW:base<=w.heap.size)
 (h:∀g cap w',OW e k base w' (.slice (some ⟨g,0,none⟩) (vs.length+1) cap) (vs++[cs])->w.grownBy w' v.ownBlock->(v.ownBlock=some g\/g=w.heap.size)->g<w'.heap.size->wpList Tryz.prog ops Q rest (a.put o.dst (.slice (some ⟨g,0,none⟩) (vs.length+1) cap)) w') :
 wpList Tryz.prog ops Q (o::rest) a w:=by
 obtain⟨i0,hi,iA,fT,gF⟩:=oZ Ks;refine wpList_append_lies w nJ s x t ho base e i0 z k FC ht hi iA fT gF UC fM v vs.length vs.flatten hs aQ.1 ⟨b1,0,none⟩ 1 1 cs hx (by rw[yx];omega) ?_ hv (by decide) (by unfold maxLen;omega) hlen iW w.heap.size rfl ?_
 ·intro j u hj
  rw[add0];exact hc j u hj
 intro g cap w' h1 h2 h3 h4;refine h g cap w' ⟨?_,?_⟩ h2 h3 h4
 ·rw[List.flatten_append,List.flatten_singleton,a0v];exact h1
 intro y hy;rw[a0b,a0y]at hy;rcases hy with hy|rfl
 ·exact aQ.2 y hy
 exact yx
structure V6 where
 n:Value
 c:Value
 a:Value
 t:Value
 r:Value
 i:Value
def sc(L:List LB):List (List Value):=L.map λs=>[.string (bs s)]
theorem XF(L:List LB)(s:LB):sc L++[[.string (bs s)]]=sc (L++[s]):=by simp[sc]
theorem jq(L:List LB):(sc L).length=L.length:=by simp[sc]
theorem ahV {o:Oper} {Q:Exit->Act->World->Prop}(w:World)(nJ:o.guard=none)(s x:Operand)
 (ho:o.op=.call { callee:=.builtin .append,args:=#[s,x],argTypes:=#[35,35] })
 (base:Nat) (v:Value) (acc:List LB) (b1:Nat) (y:LB) (hs:a.eval s=v) (aQ:OW 9 1 base w v (sc acc)) (hx:a.eval x=.slice (some ⟨b1,0,none⟩) 1 1)
 (hc:w.cell? ⟨b1,0,none⟩=some (.string (bs y))) (hlen:acc.length<=1000000) (iW:base<=w.heap.size)
 (h:∀g cap w',OW 9 1 base w' (.slice (some ⟨g,0,none⟩) (acc.length+1) cap) (sc (acc++[y]))->w.grownBy w' v.ownBlock->(v.ownBlock=some g\/g=w.heap.size)->g<w'.heap.size->wpList Tryz.prog ops Q rest (a.put o.dst (.slice (some ⟨g,0,none⟩) (acc.length+1) cap)) w') :
 wpList Tryz.prog ops Q (o::rest) a w:=by
 have hl:=jq acc;refine og w nJ s x 35 9 (.string ByteArray.empty) 1 16 uS Tryz.underlying35 rfl (by decide) ho base v (sc acc) b1 [.string (bs y)] hs aQ hx rfl ?_ ?_ (by omega) (by omega) iW ?_
 ·intro j u hj
  cases j with
  | zero=>simp at hj;rw[<-hj];exact hc
  | succ j=>simp at hj
 ·intro u hu
  simp at hu;subst hu;rfl
 rw[hl,XF];exact h
theorem aA.over{T:LN} {a b c:World}(h:aA T a b)(k:aA S b c)(hS:∀x∈S,a.heap.size<=x\/x∈T):aA T a c :=
 ⟨k.os.trans h.os,k.tape.trans h.tape,k.output.trans h.output,a0e h.size k.size,λi hi hT=>by
   rw[k.block i (a0x hi h.size) (λhm=>by rcases hS i hm with h1|h1;exact absurd h1 (by omega);exact hT h1)];exact h.block i hi hT⟩
def bc(L:LN):List (List Value):=L.map λa=>[.bool (a==1)]
def ic(L:LN):List (List Value):=L.map λ(n:Nat)=>[.int .i64 n]
theorem akA(L:LN)(s:Nat):bc L++[[.bool (s==1)]]=bc (L++[s]):=by simp[bc]
theorem akB(L:LN)(s:Nat):ic L++[[.int .i64 (s:Nat)]]=ic (L++[s]):=by simp[ic]
theorem al0(L:LN):(bc L).length=L.length:=by simp[bc]
theorem I7(L:LN):(ic L).length=L.length:=by simp[ic]
theorem aof {o:Oper} {Q:Exit->Act->World->Prop}(w:World)(nJ:o.guard=none)(s x:Operand)
 (ho:o.op=.call { callee:=.builtin .append,args:=#[s,x],argTypes:=#[155,155] })
 (base:Nat) (v:Value) (acc:LN) (b1:Nat) (y:Nat) (hs:a.eval s=v) (aQ:OW 4 1 base w v (bc acc)) (hx:a.eval x=.slice (some ⟨b1,0,none⟩) 1 1)
 (hc:w.cell? ⟨b1,0,none⟩=some (.bool (y==1))) (hlen:acc.length<=1000000) (iW:base<=w.heap.size)
 (h:∀g cap w',OW 4 1 base w' (.slice (some ⟨g,0,none⟩) (acc.length+1) cap) (bc (acc++[y]))->w.grownBy w' v.ownBlock->(v.ownBlock=some g\/g=w.heap.size)->g<w'.heap.size->wpList Tryz.prog ops Q rest (a.put o.dst (.slice (some ⟨g,0,none⟩) (acc.length+1) cap)) w') :
 wpList Tryz.prog ops Q (o::rest) a w:=by
 have hl:=al0 acc;refine og w nJ s x 155 4 (.bool false) 1 1 Y0 Tryz.underlying155 rfl (by decide) ho base v (bc acc) b1 [.bool (y==1)] hs aQ hx rfl ?_ ?_ (by omega) (by omega) iW ?_
 ·intro j u hj
  cases j with
  | zero=>simp only[a2O,Option.some.injEq]at hj;rw[<-hj];exact hc
  | succ j=>simp at hj
 ·intro u hu
  simp only[a0y]at hu;subst hu;rfl
 rw[hl,akA];exact h
theorem ahW {o:Oper} {Q:Exit->Act->World->Prop}(w:World)(nJ:o.guard=none)(s x:Operand)
 (ho:o.op=.call { callee:=.builtin .append,args:=#[s,x],argTypes:=#[128,128] })
 (base:Nat) (v:Value) (acc:LN) (b1:Nat) (y:Nat) (hs:a.eval s=v) (aQ:OW 3 1 base w v (ic acc)) (hx:a.eval x=.slice (some ⟨b1,0,none⟩) 1 1)
 (hc:w.cell? ⟨b1,0,none⟩=some (.int .i64 (y:Nat))) (hlen:acc.length<=1000000) (iW:base<=w.heap.size)
 (h:∀g cap w',OW 3 1 base w' (.slice (some ⟨g,0,none⟩) (acc.length+1) cap) (ic (acc++[y]))->w.grownBy w' v.ownBlock->(v.ownBlock=some g\/g=w.heap.size)->g<w'.heap.size->wpList Tryz.prog ops Q rest (a.put o.dst (.slice (some ⟨g,0,none⟩) (acc.length+1) cap)) w') :
 wpList Tryz.prog ops Q (o::rest) a w:=by
 have hl:=I7 acc;refine og w nJ s x 128 3 (.int .i64 0) 1 8 Ur Tryz.underlying128 rfl (by decide) ho base v (ic acc) b1 [.int .i64 (y:Nat)] hs aQ hx rfl ?_ ?_ (by omega) (by omega) iW ?_
 ·intro j u hj
  cases j with
  | zero=>simp only[a2O,Option.some.injEq]at hj;rw[<-hj];exact hc
  | succ j=>simp at hj
 ·intro u hu
  simp only[a0y]at hu;subst hu;rfl
 rw[hl,akB];exact h
theorem OW.base{base b2:Nat}(h:OW e k base w v vs)(hb:b2<=base):OW e k b2 w v vs:=by
 refine⟨⟨h.1.1,?_⟩,h.2⟩;rcases h.1.2 with hn|⟨g,cap,cur,rfl,hg,rest⟩
 ·exact .inl hn
 exact .inr ⟨g,cap,cur,rfl,by omega,rest⟩
theorem uo {o:Oper} {K:Act->World->Prop} {Q:Exit->Act->World->Prop}(w:World)(nJ:o.guard=none)(s x:Operand)(t e:TypeId)(z:Value)(k FC:Nat)
 (Ks:(Tryz.prog.info? e).map (λi=>(i.zero,i.size,i.bytes))=some (some z,k,FC)) (ht:Tryz.prog.underlying t=some (.slice e)) (UC:z.cells.size=k) (fM:0<k)
 (ho:o.op=.call { callee:=.builtin .append,args:=#[s,x],argTypes:=#[t,t] })
 (base:Nat) (v:Value) (vs:List (List Value)) (b1:Nat) (cs:Array Value) (fr:Nat × Nat) (hs:a.eval s=v) (aQ:OW e k base w v vs) (hx:a.eval x=.slice (some ⟨b1,0,none⟩) 1 1)
 (yx:cs.size=k) (hb:w.heap[b1]?=some (.cells cs e fr)) (hv:cs.all (·.oneCell')=true) (hlen:(vs.length+1)*FC<=140737488355328) (aaG:vs.length<=140737488355328) (iW:base<=w.heap.size) (H:Nat) (hH:w.heap.size=H)
 (h:∀g cap w',OW e k base w' (.slice (some ⟨g,0,none⟩) (vs.length+1) cap) (vs++[cs.toList])->w.grownBy w' v.ownBlock->(v.ownBlock=some g\/g=H)->g<w'.heap.size->K (a.put o.dst (.slice (some ⟨g,0,none⟩) (vs.length+1) cap)) w') :
 if Region.wanted o (yielded ops a.tmps)=true then Oper.wp Tryz.prog o a w K Q else E:=by
 obtain⟨i0,hi,iA,fT,gF⟩:=oZ Ks;refine step_append_lies w nJ s x t ho base e i0 z k FC ht hi iA fT gF UC fM v vs.length vs.flatten hs aQ.1 ⟨b1,0,none⟩ 1 1 cs.toList hx (by rw[Array.length_toList,yx];omega) (World.news_of_block hb) ?_ (by decide) (by unfold maxLen;omega) hlen iW H hH ?_
 ·intro u hu
  exact(a2g.1 hv) u (by simpa using hu)
 intro g cap w' h1 h2 h3 h4;refine h g cap w' ⟨?_,?_⟩ h2 h3 h4
 ·rw[List.flatten_append,List.flatten_singleton,a0v];exact h1
 intro y hy;rw[a0b,a0y]at hy;rcases hy with hy|rfl
 ·exact aQ.2 y hy
 rw[Array.length_toList];exact yx
def lT(x:pP):Array Value:=#[.int .i64 (x.n:Nat),.int .i64 (x.k:Nat),.int .i64 (x.x:Nat)]
def tc(L:List pP):List (List Value):=L.map λx=>(lT x).toList
theorem afn(x:pP):(lT x).all (·.oneCell')=true:=by simp[lT,Value.oneCell']
theorem TG(L:List pP):(tc L).length=L.length:=by simp[tc]
theorem akC(L:List pP)(x:pP):tc L++[(lT x).toList]=tc (L++[x]):=by simp[tc]
theorem ahX:(Tryz.prog.info? 94).map (λi=>(i.zero,i.size,i.bytes))=some (some (.agg #[.int .i64 0,.int .i64 0,.int .i64 0]),3,24):=by kernel_rfl
structure Qe(α:Type) where
 rel:LN->World->Array Value->α->Prop
 aB:∀{A S:LN} {w w':World} {cs:Array Value} {x:α},rel A w cs x->aA S w w'->(∀g∈S,g∈A)->rel A w' cs x
 bW:∀{A B:LN} {w:World} {cs:Array Value} {x:α},rel A w cs x->(∀g∈B,g∈A\/w.heap.size<=g)->rel B w cs x
def iG{α:Type}(I:Qe α)(A:LN)(w:World)(eu:List (Array Value))(xs:List α):Prop:=eu.length=xs.length/\∀(n:Nat) cs x,eu[n]?=some cs->xs[n]?=some x->I.rel A w cs x
theorem iG.nil(I:Qe α)(A:LN)(w:World):iG I A w [] []:=⟨rfl,λn cs x h=>by simp at h⟩
theorem iG.aB {I:Qe α} {eu:List (Array Value)} {xs:List α}(h:iG I A w eu xs)(f:aA S w w')(hS:∀g∈S,g∈A):iG I A w' eu xs:=⟨h.1,λn cs x h1 h2=>I.aB (h.2 n cs x h1 h2) f hS⟩
theorem iG.bW {I:Qe α} {eu:List (Array Value)} {xs:List α}(h:iG I A w eu xs)(hB:∀g∈B,g∈A\/w.heap.size<=g):iG I B w eu xs:=⟨h.1,λn cs x h1 h2=>I.bW (h.2 n cs x h1 h2) hB⟩
theorem iG.snoc {I:Qe α} {eu:List (Array Value)} {xs:List α} {x:α}(h:iG I A w eu xs)(hx:I.rel A w cs x):iG I A w (eu++[cs]) (xs++[x]):=by
 refine⟨by simp[h.1],λn c y h1 h2=>?_⟩;rcases Nat.lt_trichotomy n eu.length with hn|hn|hn
 ·rw[a0u hn]at h1
  rw[a0u (by rw[<-h.1];exact hn)]at h2;exact h.2 n c y h1 h2
 ·subst hn
  rw[a0R (a0a _)]at h1;rw[a0R (by rw[h.1];exact a0a _),h.1]at h2;simp at h1 h2;subst h1 h2;exact hx
 rw[a1W (by simp;omega)]at h1;cases h1
theorem iG.app {I:Qe α} {row:Option Nat} {eu:List (Array Value)} {xs:List α}(h:iG I (A++row.toList) w eu xs)(hg:w.grownBy w' row)(ha:row=some g\/g=w.heap.size):iG I (A++[g]) w' eu xs:=by
 have h1:iG I (A++(g::row.toList)) w eu xs:=h.bW (by
  intro x hx;simp at hx;rcases hx with hx|rfl|hx
  ·left;simp[hx]
  ·rcases ha with ha|ha
   ·left;simp[ha]
   right;omega
  left;simp[hx])
 have h2:iG I (A++(g::row.toList)) w' eu xs:=h1.aB (S:=row.toList) ((aA.refl row.toList w).grown hg (λr e=>.inl (by simp[e]))) (by intro x hx;simp at hx;simp[hx]);exact h2.bW (by intro x hx;left;simp at hx |-;rcases hx with hx|hx<;>simp[hx])
def iO(eu:List (Array Value)):List (List Value):=eu.map (·.toList)
theorem sZ(eu:List (Array Value)):(iO eu).length=eu.length:=by simp[iO]
theorem y7(eu:List (Array Value))(c:Array Value):iO eu++[c.toList]=iO (eu++[c]):=by simp[iO]
def akD(x:lS)(va vn:Value):Array Value:=(Value.int .i64 x.k::(nv .u8 x.cl++[va,vn])).toArray
def adK:Qe lS where
 rel A w cs x:=∃va vn,cs=akD x va vn/\RW A 1 w va (bc x.acc)/\RW A 1 w vn (ic x.nx)
 aB:=by
  rintro A S w w' cs x ⟨va,vn,h1,h2,h3⟩ f hS;exact⟨va,vn,h1,h2.aB f hS,h3.aB f hS⟩
 bW:=by
  rintro A B w cs x ⟨va,vn,h1,h2,h3⟩ hB;exact⟨va,vn,h1,h2.bW hB,h3.bW hB⟩
theorem NV:(Tryz.prog.info? 157).map (λi=>(i.zero,i.size,i.bytes))=some (some (.agg Tryz.zeroCells157),259,312):=by kernel_rfl
theorem GY {o:Oper} {K:Act->World->Prop} {Q:Exit->Act->World->Prop}(w:World)(nJ:o.guard=none)(x:Operand)(ho:o.op=.load 157 x)(g:Nat)(hx:a.eval x=.pointer (some ⟨g,0,none⟩))(cs:Array Value)(hl:(loadVar 157 ⟨g,0,none⟩).run Tryz.prog w=.ok (.agg cs) w)(h:K (a.put o.dst (.agg cs)) w) :
 if Region.wanted o (yielded ops a.tmps)=true then Oper.wp Tryz.prog o a w K Q else E:=by
 have hw:Region.wanted o (yielded ops a.tmps)=true:=by simp[Region.wanted,nJ]
 rw[a0j hw];exact Dw x ho g hx cs hl h
theorem yj {o:Oper} {K:Act->World->Prop} {Q:Exit->Act->World->Prop}(w:World)(nJ:o.guard=none)(x:Operand)(ho:o.op=.buildSlice 41 1 #[(0,x)])(cs:Array Value)(hx:a.eval x=.agg cs)(hs:cs.size=259)(h:K (a.put o.dst (.slice (some ⟨w.heap.size,0,none⟩) 1 1)) (w.alloc (.cells cs 157))) :
 if Region.wanted o (yielded ops a.tmps)=true then Oper.wp Tryz.prog o a w K Q else E:=by
 have hw:Region.wanted o (yielded ops a.tmps)=true:=by simp[Region.wanted,nJ]
 rw[a0j hw];obtain⟨i0,hi,iA,fT,gF⟩:=oZ NV;refine wp_buildSlice 41 157 1 _ ho cs i0 _ Tryz.underlying41 hi iA (by rw[fT];decide) (by rw[fT];decide) ?_ h;have e:((#[(0,x)]:Array (Nat × Operand)).map λ(y:Nat × Operand)=>(y.1,a.eval y.2)).toList=(([Value.agg cs]:List Value).zipIdx 0).map λy=>(y.2,y.1):=by
  simp[hx]
 have e2:=Great.fill_whole (s:=259) (by omega) [Value.agg cs] ((Array.range (1*259)).map ((Value.agg Tryz.zeroCells157).cells[· % (Value.agg Tryz.zeroCells157).cells.size]!)) (by intro v hv;simp at hv;subst hv;exact hs) (by simp);rw[fT];refine Eq.trans (congrArg _ e) (e2.trans ?_);simp[Value.cells]
theorem RW.str {L:List LB}(h:RW A 1 w v (sc L)):∃a cap,v=.slice a L.length cap/\∀(j:Nat) (hj:j<L.length),∃g off,a=some ⟨g,off,none⟩/\g<w.heap.size/\w.cell? ⟨g,off+j,none⟩=some (.string (bs L[j])):=by
 obtain⟨a,cap,rfl,h1,h2⟩:=h;refine⟨a,cap,by rw[jq],λj hj=>?_⟩;obtain⟨g,off,e,_,h4,h5⟩:=h2 j (by rw[jq];exact hj);refine⟨g,off,e,h4,?_⟩;have:=h5 0 (.string (bs L[j])) (by simp[sc])
 rwa [a1c,a1G]at this
def aV(x:C6)(vb:Value):Array Value:=#[.string (bs x.rc),vb,.int .i64 (x.wt:Nat),.int .i64 (x.ev:Nat),.int .i64 (x.rp:Nat)]
def am0:Qe C6 where
 rel A w cs x:=∃vb,cs=aV x vb/\RW A 1 w vb (sc x.bl)
 aB:=by
  rintro A S w w' cs x ⟨vb,h1,h2⟩ f hS;exact⟨vb,h1,h2.aB f hS⟩
 bW:=by
  rintro A B w cs x ⟨vb,h1,h2⟩ hB;exact⟨vb,h1,h2.bW hB⟩
abbrev hz:Array Value:=#[.string ByteArray.empty,.slice none 0 0,.int .i64 0,.int .i64 0,.int .i64 0]
theorem akE:(Tryz.prog.info? 101).map (·.size)=some 5:=by kernel_rfl
theorem I8(v0 v1 v2 v3 v4:Value)(h:w.heap[g]?=some (.cells #[o0,o1,o2,o3,o4] t (0,0))):(((((w.setCell ⟨g,0,none⟩ v0).setCell ⟨g,1,none⟩ v1).setCell ⟨g,2,none⟩ v2).setCell ⟨g,3,none⟩ v3).setCell ⟨g,4,none⟩ v4).heap[g]?=some (.cells #[v0,v1,v2,v3,v4] t (0,0)):=by
 simp[World.setCell,a0t,h]
theorem kG(w:World)(g:Nat)(v0 v1 v2 v3 v4:Value):aA [g] w (((((w.setCell ⟨g,0,none⟩ v0).setCell ⟨g,1,none⟩ v1).setCell ⟨g,2,none⟩ v2).setCell ⟨g,3,none⟩ v3).setCell ⟨g,4,none⟩ v4) :=
 (((((aA.refl [g] w).setCell (p:=⟨g,0,none⟩) (.inl (by simp)) v0).setCell (p:=⟨g,1,none⟩) (.inl (by simp)) v1).setCell (p:=⟨g,2,none⟩) (.inl (by simp)) v2).setCell (p:=⟨g,3,none⟩) (.inl (by simp)) v3).setCell (p:=⟨g,4,none⟩) (.inl (by simp)) v4
theorem NW(h:w.heap[g]?=some (.cells cs 101 (0,0)))(hs:cs.size=5):(loadVar 101 ⟨g,0,none⟩).run Tryz.prog w=.ok (.agg cs) w :=
 run_loadVar_row w g 101 101 cs (0,0) _ h Tryz.underlying101 rfl (by rw[hs];exact akE)
theorem adL:(Tryz.prog.info? 101).map (λi=>(i.zero,i.size,i.bytes))=some (some (.agg hz),5,64):=by kernel_rfl
def kT(x:gD):Array Value:=#[.int .i64 (x.op:Nat),.int .i64 (x.x:Nat),.int .i64 (x.a:Nat),.int .i64 (x.b:Nat)]
theorem afo(x:gD):(kT x).all (·.oneCell')=true:=by simp[kT,Value.oneCell']
def vY(L:List gD):List (List Value):=L.map λx=>(kT x).toList
theorem zR(L:List gD):(vY L).length=L.length:=by simp[vY]
theorem I9(L:List gD)(x:gD):vY L++[(kT x).toList]=vY (L++[x]):=by simp[vY]
theorem NY:(Tryz.prog.info? 105).map (λi=>(i.zero,i.size,i.bytes))=some (some (.agg #[.int .i64 0,.int .i64 0,.int .i64 0,.int .i64 0]),4,32):=by kernel_rfl
theorem Qf(v0 v1 v2 v3:Value)(h:w.heap[g]?=some (.cells #[o0,o1,o2,o3] t (0,0))):((((w.setCell ⟨g,0,none⟩ v0).setCell ⟨g,1,none⟩ v1).setCell ⟨g,2,none⟩ v2).setCell ⟨g,3,none⟩ v3).heap[g]?=some (.cells #[v0,v1,v2,v3] t (0,0)):=by
 simp[World.setCell,a0t,h]
theorem Ja(w:World)(g:Nat)(v0 v1 v2 v3:Value):aA [g] w ((((w.setCell ⟨g,0,none⟩ v0).setCell ⟨g,1,none⟩ v1).setCell ⟨g,2,none⟩ v2).setCell ⟨g,3,none⟩ v3) :=
 ((((aA.refl [g] w).setCell (p:=⟨g,0,none⟩) (.inl (by simp)) v0).setCell (p:=⟨g,1,none⟩) (.inl (by simp)) v1).setCell (p:=⟨g,2,none⟩) (.inl (by simp)) v2).setCell (p:=⟨g,3,none⟩) (.inl (by simp)) v3
structure PG(A:LN)(w:World)(V:V6)(m:adJ):Prop where
 n:RW A 1 w V.n (sc m.names)
 c:RW A 1 w V.c (sc m.consts)
 a:∃eu,RW A 259 w V.a (iO eu)/\iG adK A w eu m.aob
 t:RW A 3 w V.t (tc m.tests)
 r:∃eu,RW A 5 w V.r (iO eu)/\iG am0 A w eu m.agf
 i:RW A 4 w V.i (vY m.code)
theorem PG.aB {V:V6} {m:adJ}(h:PG A w V m)(f:aA S w w')(hS:∀g∈S,g∈A):PG A w' V m:=by
 obtain⟨eu,h1,h2⟩:=h.a;obtain⟨dss,h3,h4⟩:=h.r;exact⟨h.n.aB f hS,h.c.aB f hS,⟨eu,h1.aB f hS,h2.aB f hS⟩,h.t.aB f hS,⟨dss,h3.aB f hS,h4.aB f hS⟩,h.i.aB f hS⟩
theorem PG.bW {V:V6} {m:adJ}(h:PG A w V m)(hB:∀g∈B,g∈A\/w.heap.size<=g):PG B w V m:=by
 obtain⟨eu,h1,h2⟩:=h.a;obtain⟨dss,h3,h4⟩:=h.r;exact⟨h.n.bW hB,h.c.bW hB,⟨eu,h1.bW hB,h2.bW hB⟩,h.t.bW hB,⟨dss,h3.bW hB,h4.bW hB⟩,h.i.bW hB⟩
def V6.cells(V:V6):Array Value:=#[V.n,V.c,V.a,V.t,V.r,V.i]
theorem ahY:(Tryz.prog.info? 46).map (·.size)=some 6:=by kernel_rfl
theorem aai(h:w.heap[g]?=some (.cells cs 46 (0,0)))(hs:cs.size=6):(loadVar 46 ⟨g,0,none⟩).run Tryz.prog w=.ok (.agg cs) w :=
 run_loadVar_row w g 46 46 cs (0,0) _ h Tryz.underlying46 rfl (by rw[hs];exact ahY)
theorem aaj{o5:Value}(v0 v1 v2 v3 v4 v5:Value)(h:w.heap[g]?=some (.cells #[o0,o1,o2,o3,o4,o5] t (0,0))):((((((w.setCell ⟨g,0,none⟩ v0).setCell ⟨g,1,none⟩ v1).setCell ⟨g,2,none⟩ v2).setCell ⟨g,3,none⟩ v3).setCell ⟨g,4,none⟩ v4).setCell ⟨g,5,none⟩ v5).heap[g]?=some (.cells #[v0,v1,v2,v3,v4,v5] t (0,0)):=by
 simp[World.setCell,a0t,h]
theorem aak(w:World)(g:Nat)(v0 v1 v2 v3 v4 v5:Value):aA [g] w ((((((w.setCell ⟨g,0,none⟩ v0).setCell ⟨g,1,none⟩ v1).setCell ⟨g,2,none⟩ v2).setCell ⟨g,3,none⟩ v3).setCell ⟨g,4,none⟩ v4).setCell ⟨g,5,none⟩ v5) :=
 (((((((aA.refl [g] w).setCell (p:=⟨g,0,none⟩) (.inl (by simp)) v0).setCell (p:=⟨g,1,none⟩) (.inl (by simp)) v1).setCell (p:=⟨g,2,none⟩) (.inl (by simp)) v2).setCell (p:=⟨g,3,none⟩) (.inl (by simp)) v3).setCell (p:=⟨g,4,none⟩) (.inl (by simp)) v4)).setCell (p:=⟨g,5,none⟩) (.inl (by simp)) v5
theorem RW.num {L:LN}(h:RW A 1 w v (ic L)):∃a cap,v=.slice a L.length cap/\∀(j:Nat) (hj:j<L.length),∃g off,a=some ⟨g,off,none⟩/\g<w.heap.size/\w.cell? ⟨g,off+j,none⟩=some (.int .i64 (L[j]:Nat)):=by
 obtain⟨a,cap,rfl,h1,h2⟩:=h;refine⟨a,cap,by rw[I7],λj hj=>?_⟩;obtain⟨g,off,e,_,h4,h5⟩:=h2 j (by rw[I7];exact hj);refine⟨g,off,e,h4,?_⟩;have:=h5 0 (.int .i64 (L[j]:Nat)) (by simp[ic])
 rwa [a1c,a1G]at this
theorem yO {I:Qe α} {eu:List (Array Value)} {xs:List α}(h:RW A k w v (iO eu))(hi:iG I A w eu xs) :
 ∃a cap,v=.slice a xs.length cap/\∀(j:Nat) (hj:j<xs.length),∃g off cs,a=some ⟨g,off,none⟩/\g<w.heap.size/\g∉A/\I.rel A w cs xs[j]/\∀c x,cs[c]?=some x->w.cell? ⟨g,off+j*k+c,none⟩=some x:=by
 obtain⟨a,cap,rfl,h1,h2⟩:=h;refine⟨a,cap,by rw[sZ,hi.1],λj hj=>?_⟩;have hjc:j<eu.length:=by rw[hi.1];exact hj
 obtain⟨g,off,e,h3,h4,h5⟩:=h2 j (by rw[sZ];exact hjc);refine⟨g,off,eu[j],e,h4,h3,hi.2 j _ _ (a0c hjc) (a0c hj),λc x hx=>h5 c x ?_⟩;simp[iO,hx]
theorem aA.at {p:Addr}(f:aA [] w W)(hp:p.block<w.heap.size)(h:w.cell? p=some v):W.cell? p=some v:=(f.cell hp (by simp)).trans h
def adM:Qe C6 where
 rel A w cs x:=∃g,cs=aV x (.slice (some ⟨g,0,none⟩) x.bl.length x.bl.length)/\RW A 1 w (.slice (some ⟨g,0,none⟩) x.bl.length x.bl.length) (sc x.bl)
 aB:=by
  rintro A S w w' cs x ⟨g,h1,h2⟩ f hS;exact⟨g,h1,h2.aB f hS⟩
 bW:=by
  rintro A B w cs x ⟨g,h1,h2⟩ hB;exact⟨g,h1,h2.bW hB⟩
theorem RW.akF{n c:Nat}(h:RW A k w (.slice (some ⟨g,0,none⟩) n c) vs)(hg:g∉B):RW B k w (.slice (some ⟨g,0,none⟩) n c) vs:=by
 obtain⟨a,cap,e,h1,h2⟩:=h;refine⟨a,cap,e,h1,λj hj=>?_⟩;obtain⟨g',off,e',h3,h4,h5⟩:=h2 j hj;refine⟨g',off,e',?_,h4,h5⟩;simp only[Value.slice.injEq]at e;rw[<-e.1]at e';simp only[Option.some.injEq,Addr.mk.injEq,and_true]at e';rw[<-e'.1];exact hg
theorem NZ(w:World)(o o':Obj):((w.alloc o).alloc o').heap[w.heap.size+1]?=some o':=by
 have:=bK (w.alloc o) o'
 rwa [show(w.alloc o).heap.size=w.heap.size+1 by simp]at this
theorem vR {fn:Func} {p:Tmp} {ty:TypeId}(h:fn.results=#[.cell p ty])(tmps:Array Value)(w:World)(g:Nat)(cs:Array Value)
 (hp:tmps.getD p undef=.pointer (some ⟨g,0,none⟩)) (hl:(loadVar ty ⟨g,0,none⟩).run Tryz.prog w=.ok (.agg cs) w) :
 (results fn tmps).run Tryz.prog w=.ok (.agg cs) w:=by
 have Sd:tmps[p]?.getD undef=.pointer (some ⟨g,0,none⟩):=by simpa using hp
 simp[results,h,Sd,asAddr,hl]
structure PR(A:LN)(w:World)(pb:Nat)(V:V6)(m:adJ):Prop where
 row:w.heap[pb]?=some (.cells V.cells 50 (0,0))
 pg:PG (pb::A) w V m
 av:pb∉A
theorem aA.abA {B:Nat}(f:aA S w W)(b:Below B W w')(hB:w.heap.size<=B):aA S w w' :=
 ⟨b.os.trans f.os,b.tape.trans f.tape,b.output.trans f.output,a0e f.size b.size,λk hk hS=>(b.block k (by omega)).trans (f.block k hk hS)⟩
theorem aal:(Tryz.prog.info? 9).map (·.size)=some 1:=by kernel_rfl
def iZ(L:List LB)(x:LB):Nat:=L.findIdx (·==x)
def tq(L:List LB)(x:LB):List LB:=if iZ L x=L.length then L++[x] else L
def Tn(a b:pP):Bool:=a.n==b.n&&(a.k==b.k&&a.x==b.x)
def Qg(L:List pP)(x:pP):Nat:=L.findIdx (Tn · x)
def xR(L:List pP)(x:pP):List pP:=if Qg L x=L.length then L++[x] else L
structure CS where
 n:List LB
 c:List LB
 x:List LB
 a:List lS
 t:List pP
 q:List (List (Nat × Bool))
def pZ(re:LB->Nat)(dw:LB->lS)(s:CS)(m:CM):Option (pP × CS) :=
 if m.2.1=2\/m.2.1=3 then
  if iZ s.x m.2.2<s.x.length then some (⟨iZ s.n m.1,1,iZ s.x m.2.2⟩,{ s with n:=tq s.n m.1 })
  else if re m.2.2=0 then some (⟨iZ s.n m.1,1,iZ s.x m.2.2⟩,{ s with n:=tq s.n m.1,x:=s.x++[m.2.2],a:=s.a++[dw m.2.2] })
  else none
 else some (⟨iZ s.n m.1,0,iZ s.c m.2.2⟩,{ s with n:=tq s.n m.1,c:=tq s.c m.2.2 })
def abB(m:CM):Bool:=m.2.1==0||m.2.1==2
def qT(re:LB->Nat)(dw:LB->lS):CS->List (Nat × Bool)->List CM->Except Nat (List (Nat × Bool) × CS)
 | s,acc,[]=>.ok (acc,s)
 | s,acc,m::r=>match pZ re dw s m with
   | none=>.error (re m.2.2)
   | some (t,s1)=>qT re dw { s1 with t:=xR s1.t t } (acc++[(Qg s1.t t,abB m)]) r
def pread(re:LB->Nat)(dw:LB->lS):CS->Nat->List CR->Except (Nat × Nat) CS
 | s,_,[]=>.ok s
 | s,i,c::r=>match qT re dw s [] c.ifs with
   | .error e=>.error (e,i+2)
   | .ok (l,s1)=>pread re dw { s1 with q:=s1.q++[l] } (i+1) r
def rZ(C:List CR)(d:Nat):Nat->Option Nat
 | 0=>none
 | j+1=>if (C[j]?.map λc=>c.d+1)=some d then some j else rZ C d j
def par(C:List CR)(i:Nat):Option Nat:=match C[i]? with | some c=>rZ C c.d i|none=>none
def yP(x:Int)(y:Nat):Nat:=if x=-1 then y else x.toNat
def pQ(ab:C6)(r:CR):C6:=⟨if r.rc == [45] then ab.rc else r.rc,if r.tb then r.nU else ab.bl,yP r.wt ab.wt,yP r.ev ab.ev,yP r.rp ab.rp⟩
def o6:C6:=⟨[],[],30,300,14400⟩
def AR(C:List CR)(H:List C6)(i:Nat):C6:=match par C i with | some p=>H.getD p o6|none=>o6
def jr(C:List CR):Nat->List C6
 | 0=>[]
 | i+1=>jr C i++[match C[i]? with | some c=>pQ (AR C (jr C i) i) c|none=>o6]
def dX:List (Nat × Bool)->Nat->Nat->List gD->Nat × List gD
 | [],y,_,l=>(y,l)
 | c::r,y,n,l=>((dX r y n l).2.length,(dX r y n l).2++[if c.2 then ⟨2,c.1,(dX r y n l).1,n⟩ else ⟨2,c.1,n,(dX r y n l).1⟩])
def kids(C:List CR)(r:Nat):LN:=(List.range C.length).filter λj=>decide (r<j)&&(par C j==some r)
def mM(rec:Nat->Nat->List gD->Nat × List gD)(C:List CR)(q:List (List (Nat × Bool)))(done:Nat)(l:List gD):LN->Nat × LN × List gD
 | []=>(done,[],l)
 | c::r =>
   let x:=mM rec C q done l r
   let b:=rec c (if (C[c]?.map (·.co))=some true then x.1 else done) x.2.2
   let s:=dX (q.getD c []) b.1 x.1 b.2
   (s.1,b.1::x.2.1,s.2)
def tu(q:List (List (Nat × Bool)))(first:Nat)(l:List gD):List (Nat × Nat)->Nat × List gD
 | []=>(first,l)
 | c::r=>dX (q.getD c.1 []) c.2 (tu q first l r).1 (tu q first l r).2
def lD(C:List CR)(q:List (List (Nat × Bool))):Nat->Nat->Nat->List gD->Nat × List gD
 | 0,_,d,l=>(d,l)
 | f+1,r,d,l =>
   let x:=mM (lD C q f) C q d l (kids C r)
   tu q x.2.2.length (x.2.2++[⟨1,r,d,0⟩]) ((kids C r).zip x.2.1)
def qU(l:List gD):Nat->List Bool->List Int->Nat->List Int
 | 0,_,N,_=>N
 | i+1,R,N,c =>
   if R.getD i false then
    match l[i]? with
    | some x=>qU l i (if x.op=0 then R else if x.op=2 then (R.set x.a true).set x.b true else R.set x.a true) (N.set i c) (c+1)
    | none=>N
   else qU l i R (N.set i (-1)) c
def numsOf(l:List gD)(first:Nat):List Int:=qU l l.length ((List.replicate l.length false).set first true) (List.replicate l.length 0) 0
def Qh(N:List Int)(x:gD):gD:=⟨x.op,x.x,if x.op=0 then x.a else (N.getD x.a 0).toNat,if x.op=2 then (N.getD x.b 0).toNat else x.b⟩
def rH(l:List gD)(N:List Int):Nat->List gD->List gD
 | 0,out=>out
 | i+1,out=>if N.getD i 0<0 then rH l N i out else match l[i]? with | some x=>rH l N i (out++[Qh N x])|none=>out
def Bz(l:List gD)(first:Nat):List gD:=rH l (numsOf l first) (first + 1) []
def LJ(C:List CR)(q:List (List (Nat × Bool))):List gD :=
 if C.isEmpty then [⟨0,0,0,0⟩] else
  let x:=lD C q 6 0 0 [⟨0,0,0,0⟩]
  Bz x.2 x.1
def Qi(C:List CR)(s:CS):adJ:=⟨s.n,s.c,s.a,s.t,jr C C.length,LJ C s.q⟩
def C8:CS:=⟨[],[],[],[],[],[]⟩
end Go.Proofs.YtgbdcmpmmkfbhaaGreat
