import Derived.Test.YtgbdcmpmmkfbhaaGreatJ4
import Derived.Test.YtgbdcmpmmkfbhaaGreatJ3
import Derived.Deep.MidRow
import Derived.Test.YtgbdcmpmmkfbhaaGreatJ1
import Derived.Test.YtgbdcmpmmkfbhaaGreatJ2
set_option linter.unusedVariables false
set_option linter.unusedSimpArgs false
set_option linter.unnecessarySimpa false
set_option maxRecDepth 100000
set_option maxHeartbeats 4000000
namespace Go.Proofs.YtgbdcmpmmkfbhaaGreat
variable {e:TypeId} {S:LN} {w w':World} {a l u v:Value} {xs:List Value} {X x:NF} {r t:LB} {b i k p:Nat} {L:List Bool}
open Go.RowKit
/-! Rows of things of one cell each. -/
def OV(e:TypeId)(base:Nat)(w:World)(v:Value)(xs:List Value):Prop:=w.ownsRow base e 1 v xs.length xs
theorem OV.nil(e:TypeId)(base:Nat)(w:World):OV e base w (.slice none 0 0) []:=World.ownsRow_nil _ _ _ _
theorem OV.aB {base:Nat}(h:OV e base w v xs)(f:aA S w w')(hS:∀k,k∈S->k<base):OV e base w' v xs:=ek h f hS
theorem OV.shape {base:Nat}(h:OV e base w v xs):∃a cap,v=.slice a xs.length cap:=aT h
theorem OV.cell {base:Nat} {a:Option Addr} {n cap:Nat}(h:OV e base w (.slice a n cap) xs) {j:Nat}(hj:xs[j]?=some u):∃g,a=some ⟨g,0,none⟩/\base<=g/\g<w.heap.size/\w.cell? ⟨g,j,none⟩=some u:=by
 rcases h.2 with⟨e,h0⟩|⟨g,cap,cur,e,hb,hg,rest⟩
 ·have:=(a0i.1 hj).1;omega
 simp only[Value.slice.injEq]at e;obtain⟨rfl,rfl,rfl⟩:=e;have h3:=World.ownsRow.cells h (g:=g) rfl j u hj;rw[add0]at h3;exact⟨g,rfl,hb,(a0d.1 hg).1,h3⟩
theorem Ak {ops:Array Oper} {rest:List Oper} {o:Oper} {a:Act} {Q:Exit->Act->World->Prop}(w:World)(nJ:o.guard=none)(s x:Operand)(t e:TypeId)(z:Value)(FC:Nat)
 (Ks:(Tryz.prog.info? e).map (λi=>(i.zero,i.size,i.bytes))=some (some z,1,FC)) (ht:Tryz.prog.underlying t=some (.slice e)) (UC:z.cells.size=1)
 (ho:o.op=.call { callee:=.builtin .append,args:=#[s,x],argTypes:=#[t,t] })
 (base:Nat) (v:Value) (xs:List Value) (N b1:Nat) (u:Value) (hN:N=xs.length+1) (hs:a.eval s=v) (aQ:OV e base w v xs) (hx:a.eval x=.slice (some ⟨b1,0,none⟩) 1 1)
 (hc:w.cell? ⟨b1,0,none⟩=some u) (hv:u.oneCell'=true) (hlen:(xs.length+1)*FC<=140737488355328) (aaG:xs.length<=140737488355328) (iW:base<=w.heap.size)
 (h:∀g cap w',OV e base w' (.slice (some ⟨g,0,none⟩) N cap) (xs++[u])->w.grownBy w' v.ownBlock->(v.ownBlock=some g\/g=w.heap.size)->g<w'.heap.size->wpList Tryz.prog ops Q rest (a.put o.dst (.slice (some ⟨g,0,none⟩) N cap)) w') :
 wpList Tryz.prog ops Q (o::rest) a w:=by
 subst hN;obtain⟨i0,hi,iA,fT,gF⟩:=info_parts Ks;refine wpList_append_lies w nJ s x t ho base e i0 z 1 FC ht hi iA fT gF UC (by decide) v xs.length xs hs aQ ⟨b1,0,none⟩ 1 1 [u] hx rfl ?_ (λy hy=>by simp at hy;subst hy;exact hv) (by decide) (by unfold maxLen;omega) hlen iW w.heap.size rfl ?_
 ·intro j y hj
  have:j=0:=by
   cases j with
   | zero=>rfl
   | succ j=>simp at hj
  subst this;rw[add0];simp at hj;rw[<-hj];exact hc
 intro g cap w' h1 h2 h3 h4;exact h g cap w' (by unfold OV;rw[a0v];exact h1) h2 h3 h4
theorem kK(w:World)(v:Value)(t:TypeId)(n:Nat)(h:w.heap.size=n):(w.alloc (.cells #[v] t)).cell? ⟨n,0,none⟩=some v:=by subst h;simp
theorem OV.base {base:Nat}(h:OV e base w v xs):∀k,v.ownBlock=some k->base<=k:=λk hk=>(h.lt k hk).1
def aK(n:Nat):Value:=.pointer (some ⟨n,0,none⟩)
theorem OV.open {base:Nat}(h:OV e base w v xs):∃a n cap,v=.slice a n cap/\n=xs.length:=by
 obtain⟨a,cap,rfl⟩:=h.shape;exact⟨a,_,cap,rfl,rfl⟩
theorem aiG:(Tryz.prog.info? 80).map (λi=>(i.zero,i.size,i.bytes))=some (some (.pointer none),1,8):=by kernel_rfl
def SQ(w:World):LN->LN->Prop
 | [],[]=>True
 | q::qs,s::S=>RN w q (.one s)/\SQ w qs S
 | _,_=>False
theorem SQ.app:∀{a b:LN} {S T:LN},SQ w a S->SQ w b T->SQ w (a++b) (S++T)
 | [],b,[],T,_,h=>h
 | q::a,b,s::S,T,h,k=>⟨h.1,SQ.app h.2 k⟩
 | [],_,_::_,_,h,_=>by simp[SQ]at h
 | _::_,_,[],_,h,_=>by simp[SQ]at h
theorem SQ.len:∀{a S:LN},SQ w a S->a.length=S.length
 | [],[],_=>rfl
 | q::a,s::S,h=>by simp[SQ.len h.2]
 | [],_::_,h=>by simp[SQ]at h
 | _::_,[],h=>by simp[SQ]at h
theorem SQ.get:∀{a S:LN},SQ w a S->∀(j:Nat) (s:Nat),S[j]?=some s->∃q,a[j]?=some q/\RN w q (.one s)
 | [],[],_,j,s,h=>by simp at h
 | q::a,s0::S,h,0,s,hj=>by simp at hj;subst hj;exact⟨q,rfl,h.1⟩
 | q::a,s0::S,h,j+1,s,hj=>by simpa using SQ.get h.2 j s (by simpa using hj)
 | [],_::_,h,_,_,_=>by simp[SQ]at h
 | _::_,[],h,_,_,_=>by simp[SQ]at h
def StQ(w0:World)(ps:LN)(t:TR)(e:Ending)(w':World):Prop :=
 ∃v qs,e=.returned v/\OV 80 w0.heap.size w' v ((ps++qs).map aK)/\aA [] w0 w'/\SQ w0 qs (jF t)
def StC(t:TR):Prop:=∀(w0 w:World) (p:Nat) (v:Value) (ps:LN),RN w0 p t->aA [] w0 w->OV 80 w0.heap.size w v (ps.map aK)->ps.length+(jF t).length<=1000000 ->
 Calls Tryz.prog 68 #[.pointer (some ⟨p,0,none⟩),v] w (StQ w0 ps t)
theorem eU.of(f:aA [] w w'):eU w w':=eU.nil f
theorem wO:∀t:TR,StC t
 | .nil=>by
   intro w0 w p v ps h hF ho hl;have c0:=RK.c0 (RN.aW (eU.of hF) h);obtain⟨av,nv0,cv,rfl,UQ⟩:=ho.open;clear UQ;have O:=aj ho;have F:=aj hF;clear ho hF h;go_enter Tryz.func68,Tryz.ntmps68
   go_wp2;go_ret;exact⟨_,[],rfl,by rw[a0Q];exact O,F,trivial⟩
 | .one s=>by
   intro w0 w p v ps h hF ho hl;have c0:=RK.c0 (RN.aW (eU.of hF) h);obtain⟨av,nv0,cv,rfl,UQ⟩:=ho.open;have O:=aj ho;have F:=aj hF;have HN:=aj h;have iA:=hF.size;have Ji:(ps.map aK).length=ps.length:=by simp
   rw[Ji]at UQ;have Hnv:=aj UQ;clear UQ;simp only[jF,a0o,a1f]at hl;clear ho hF h;go_enter Tryz.func68,Tryz.ntmps68
   go_wp2_with (at_builtin;refine Ak _ rfl _ _ 162 80 _ 8 aiG Tryz.underlying162 rfl rfl w0.heap.size (.slice av nv0 cv) (ps.map aK) (nv0+1) w.heap.size (aK p) (by rw[Ji,Hnv.o]) rfl (O.o.aB (S:=[]) ((aA.refl [] _).alloc _) (by simp)) rfl (kK _ _ _ _ rfl) rfl (by rw[Ji];omega) (by rw[Ji];omega) (by simp;omega) ?_;intro g cap w5 aQ aG aX iD;have O5:=aj aQ;have F5:=aj ((F.o.alloc _).grown aG (λk hk=>.inr (O.o.base k hk)));clear aQ aG aX)
   go_ret;exact⟨_,[p],rfl,by rw[a0T];exact O5,F5,⟨HN,trivial⟩⟩
 | .both x y=>by
   intro w0 w p v ps h hF ho hl;obtain⟨a,b,hk,hx,hy⟩:=h;have c0:=(hk.aW (eU.of hF)).c0;obtain⟨ca,_⟩:=(hk.aW (eU.of hF)).ends;unfold pq at ca;simp only[jF,a0v]at hl;have A:=aj (wO x w0 w a v ps hx hF ho (by omega));obtain⟨av,nv0,cv,rfl,UQ⟩:=ho.open;clear UQ;have HK:=aj hk;have HY:=aj hy;clear ho hF hk hx hy;go_enter Tryz.func68,Tryz.ntmps68
   go_wp2_with fail
   refine(A.o).mono ?_;rintro e w1 ⟨v1,qs,rfl,sw,rC,lK⟩;have B:=aj (wO y w0 w1 b v1 (ps++qs) HY.o rC sw (by rw[a0v,lK.len];omega));have S1:=aj lK;obtain⟨_,cb,_⟩:=(HK.o.aW (eU.of rC)).ends;unfold pq at cb;obtain⟨av1,nv1,cv1,rfl,aiH⟩:=sw.open;clear aiH;clear sw rC lK A;go_wp2_with fail
   refine(B.o).mono ?_;rintro e w2 ⟨v2,qs2,rfl,UR,vF,nQ⟩;have O2:=aj UR;have F2:=aj vF;have S2:=aj nQ;obtain⟨av2,nv2,cv2,rfl,acj⟩:=UR.open;clear acj;clear UR vF nQ B;go_wp2;go_ret;exact⟨_,qs++qs2,rfl,by rw[<-a0K];exact O2,F2,S1.o.app S2⟩
 | .either x y=>by
   intro w0 w p v ps h hF ho hl;obtain⟨a,b,hk,hx,hy⟩:=h;have c0:=(hk.aW (eU.of hF)).c0;obtain⟨ca,_⟩:=(hk.aW (eU.of hF)).ends;unfold pq at ca;simp only[jF,a0v]at hl;have A:=aj (wO x w0 w a v ps hx hF ho (by omega));obtain⟨av,nv0,cv,rfl,UQ⟩:=ho.open;clear UQ;have HK:=aj hk;have HY:=aj hy;clear ho hF hk hx hy;go_enter Tryz.func68,Tryz.ntmps68
   go_wp2_with fail
   refine(A.o).mono ?_;rintro e w1 ⟨v1,qs,rfl,sw,rC,lK⟩;have B:=aj (wO y w0 w1 b v1 (ps++qs) HY.o rC sw (by rw[a0v,lK.len];omega));have S1:=aj lK;obtain⟨_,cb,_⟩:=(HK.o.aW (eU.of rC)).ends;unfold pq at cb;obtain⟨av1,nv1,cv1,rfl,aiH⟩:=sw.open;clear aiH;clear sw rC lK A;go_wp2_with fail
   refine(B.o).mono ?_;rintro e w2 ⟨v2,qs2,rfl,UR,vF,nQ⟩;have O2:=aj UR;have F2:=aj vF;have S2:=aj nQ;obtain⟨av2,nv2,cv2,rfl,acj⟩:=UR.open;clear acj;clear UR vF nQ B;go_wp2;go_ret;exact⟨_,qs++qs2,rfl,by rw[<-a0K];exact O2,F2,S1.o.app S2⟩
 | .often x lo hi=>by
   intro w0 w p v ps h hF ho hl;obtain⟨a,hk,hx⟩:=h;have c0:=(hk.aW (eU.of hF)).c0;obtain⟨ca,_⟩:=(hk.aW (eU.of hF)).ends;unfold pq at ca;simp only[jF]at hl;have A:=aj (wO x w0 w a v ps hx hF ho hl);obtain⟨av,nv0,cv,rfl,UQ⟩:=ho.open;clear UQ;clear ho hF hk hx;go_enter Tryz.func68,Tryz.ntmps68
   go_wp2_with fail
   refine(A.o).mono ?_;rintro e w1 ⟨v1,qs,rfl,sw,rC,lK⟩;have O2:=aj sw;have F2:=aj rC;have S2:=aj lK;obtain⟨av2,nv2,cv2,rfl,acj⟩:=sw.open;clear acj;clear sw rC lK A;go_wp2;go_ret;exact⟨_,qs,rfl,O2,F2,S2⟩
set_option linter.unusedVariables false
set_option linter.unusedSimpArgs false
theorem ack(f:NF->Nat):∀(l:List NF) (x:NF),((put l x).map f).sum<=(l.map f).sum+f x
 | [],x=>by simp[put]
 | y::r,x=>by
   have:=ack f r x;unfold put
   split
   ·simp only[a0A,a0W];omega
   split
   ·simp only[a0A,a0W];omega
   simp only[a0A,a0W];omega
theorem FD(f:NF->Nat):∀(l acc:List NF),((l.foldl put acc).map f).sum<=(acc.map f).sum+(l.map f).sum
 | [],acc=>by simp
 | x::r,acc=>by
   have h1:=FD f r (put acc x);have h2:=ack f acc x;simp only[a1M,a0A,a0W];omega
theorem aiI(f:NF->Nat)(l:List NF):((fU l).map f).sum<=(l.map f).sum:=by
 have:=FD f l [];simpa[fU] using this
theorem QK:∀{l:List NF},aY l≠0->∃y∈l,di y=true
 | [],h=>by simp[aY]at h
 | x::r,h=>by
   cases hx:di x
   ·have hb:bits x=0:=by cases x<;>simp[di]at hx<;>rfl
    rw[qG,hb,Nat.zero_or]at h;obtain⟨y,hy,hs⟩:=QK h;exact⟨y,by simp[hy],hs⟩
   exact⟨x,by simp,hx⟩
theorem agX(f:NF->Nat)(a:Nat)(hf:∀y,di y=true->f y=a)(l:List NF):((bG l).map f).sum<=(l.map f).sum:=by
 have h1:∀l:List NF,((l.filter (λx=>!di x)).map f).sum+(if l.any di then a else 0)<=(l.map f).sum:=by
  intro l
  induction l with
  | nil=>simp
  | cons x r ih =>
    cases hx:di x
    ·simp only[a2z,hx,a1y,a0C,a0A,a0W,List.any_cons,Bool.false_or];omega
    have:=hf x hx;simp only[a2z,hx,a2q,a0n,a0G,a0A,a0W,List.any_cons,Bool.true_or,a0C]
    split at ih<;>omega
 have h2:=h1 l;unfold bG;rw[a0T,a2c]
 by_cases hj:aY l=0
 ·rw[a0j hj];simp;split at h2<;>omega
 rw[a0g hj];obtain⟨y,hy,hs⟩:=QK hj;have h3:l.any di=true:=a1H.2 ⟨y,hy,hs⟩;rw[h3]at h2;simp only[a0C]at h2;have:=hf (.set (aY l)) rfl;simp only[a0A,a1T,a0W,List.sum_nil];omega
theorem Al {xs:List NF}(hw:∀x∈xs,wf x)(f:NF->Nat)(a:Nat)(hf:∀y,di y=true->f y=a):((parts (bI xs)).map f).sum<=((xs.flatMap parts).map f).sum:=by
 have ha:∀p∈fU (bG (xs.flatMap parts)),ik p=true:=by
  intro p hp;rcases uu (jR hp) with h|h
  ·exact BH h
  obtain⟨x,hx,h⟩:=a0U.1 h;exact lq (hw x hx) h
 have e:parts (bI xs)=fU (bG (xs.flatMap parts)):=by
  unfold bI;generalize fU (bG (xs.flatMap parts))=L at *
  match L,ha with
  | [],_=>rfl
  | [y],ha=>exact uw (ha y (by simp))
  | y::z::r,_=>rfl
 rw[e];exact a0e (aiI f _) (agX f a hf _)
def pc(k n:Nat)(y:NF):Nat:=if di y then 514+k else oG y k+hG y k n
def pn(y:NF):Nat:=if di y then 514 else nl y+1
structure KP(X:NF)(t:Nat)(C E e:Nat->Nat):Prop where
 t:((parts X).map pn).sum<=t
 c:∀n,((parts X).map (pc 0 n)).sum<=C n
 e:∀k n,1<=k->((parts X).map (pc k n)).sum<=E n+e n*k
theorem Pb(k n:Nat)(y:NF):oG y k+hG y k n<=pc k n y:=by
 unfold pc
 split
 ·rename_i h
  cases y<;>simp[di]at h
  rename_i s
  have:=Tt s;simp only[oG,hG];omega
 exact a0a _
theorem aiJ(y:NF):nl y+1<=pn y:=by
 unfold pn
 split
 ·rename_i h
  cases y<;>simp[di]at h
  rename_i s
  have:=Tt s;omega
 exact a0a _
theorem aaN(k n:Nat):∀l:List NF,Sf l k+Sg l k n<=(l.map (pc k n)).sum
 | []=>by simp[Sf,Sg]
 | x::r=>by
   have h1:=Pb k n x;have h2:=aaN k n r;simp only[Sf,Sg,a0A,a0W];omega
theorem KP.plain {t:Nat} {C E e:Nat->Nat}(h:KP X t C E e)(hs:iU X=false)(hz:X≠.zero):xH X t C E e:=by
 have hp:parts X=[X]:=by
  cases X with
  | zero=>exact absurd rfl hz
  | sum l=>simp[iU]at hs
  | one=>rfl
  | set s=>rfl
  | pair a b=>rfl
  | star a=>rfl
 refine⟨?_,λn=>?_,λk n hk=>?_⟩
 ·have:=h.t;rw[hp]at this;simp at this;have:=aiJ X;omega
 ·have h1:=h.c n;rw[hp]at h1;simp at h1;have:=Pb 0 n X;omega
 have h1:=h.e k n hk;rw[hp]at h1;simp at h1;have:=Pb k n X;omega
theorem KP.sum {l:List NF} {t:Nat} {C E e:Nat->Nat}(h:KP (.sum l) t C E e) :
 xH (.sum l) (t+2) C (λn=>t+3+E n+(if EI l then sumTo (λj=>C j+519) n else 0)) (λn=>1+e n+(if EI l then n else 0)):=by
 have h0:∀n,Sf l 0+Sg l 0 n<=C n:=λn=>a0e (aaN 0 n l) (h.c n)
 have ht:nl (.sum l)<=t+2:=by
  rw[Io];have h1:∀l:List NF,sW l<=(l.map pn).sum:=by
   intro l
   induction l with
   | nil=>simp[sW]
   | cons x r ih=>have:=aiJ x;rw[zh];simp only[a0A,a0W];omega
  have:=h1 l;have:=h.t;simp only[parts]at this;omega
 refine⟨ht,λn=>?_,λk n hk=>?_⟩
 ·simp only[oG,hG,a0C];have:=h0 n;omega
 have h1:Sf l k+Sg l k n<=E n+e n*k:=a0e (aaN k n l) (h.e k n hk);have hk0:¬ k=0:=by omega
 simp only[oG,hG,hk0,a0G,a0r]
 by_cases hb:EI l=true
 ·simp only[hb,a0C]
  have e3:sumTo (λj=>518+Sf l 0+Sg l 0 j+k+1) n<=sumTo (λj=>C j+519+k) n:=oD λj _ _=>by have:=h0 j;omega
  rw[wJ (λj=>C j+519) (λ_=>k),mr]at e3;omega
 simp only[hb,a0n,a0G,a3a];omega
set_option linter.unusedVariables false
set_option linter.unusedSimpArgs false
def np(x:NF):Nat:=(parts x).length
theorem acm:∀l:List NF,l.length<=bB l
 | []=>a0a _
 | x::r=>by have:=x.size_pos;have:=acm r;simp only[a0o,bB];omega
theorem US(x:NF):np x<=x.size:=by
 cases x with
 | sum l=>have:=acm l;simp only[np,parts,NF.size];omega
 | _=>simp only[np,parts,NF.size,a0o,a1f];omega
theorem UT {y b:NF}(hy:wf y)(hb:aM b=true):np (aH y b)<=np b+1:=by
 by_cases ht:aM y=true
 ·have:∃p q,aH y b=.pair p q:=by
   revert hy ht
   refine NF.ind (P:=λy=>wf y->aM y=true->∃p q,aH y b=.pair p q) ?_ y;intro y ih hy ht;cases y with
   | zero=>simp[aM]at ht
   | one=>simp[aM]at ht
   | pair c d =>
     rw[cz hb];have htD:=dO hy.2.1 hy.2.2.2 hb;rw[aU hy.2.2.1 htD];exact⟨_,_,rfl⟩
   | set s=>rw[aU rfl hb];exact⟨_,_,rfl⟩
   | sum l=>rw[aU rfl hb];exact⟨_,_,rfl⟩
   | star a=>rw[aU rfl hb];exact⟨_,_,rfl⟩
  obtain⟨p,q,e⟩:=this;rw[e];simp[np,parts]
 rcases fC ht with e|e
 ·rw[e];simp[np,parts,aH]
 rw[e];show np b<=_;omega
theorem aeu {ls:List NF}(hw:∀x∈ls,wf x):np (bI ls)<=(ls.map np).sum:=by
 have:=Al hw (λ_=>1) 1 (λ_ _=>rfl);simp only[List.map_const']at this;have e:(ls.flatMap parts).length=(ls.map np).sum:=by rw[List.length_flatMap];rfl
 simp at this;have e2:((List.map (λx=>(parts x).length) ls).sum)=(ls.map np).sum:=rfl;unfold np;omega
theorem aiK(c:Nat)(x:NF):wf x->np (left c x)<=x.size*(x.size+1):=by
 refine NF.ind (P:=λx=>wf x->np (left c x)<=x.size*(x.size+1)) ?_ x;intro x ih hx;cases x with
 | zero=>simp[left,np,parts]
 | one=>simp[left,np,parts]
 | set s=>simp only[left];split<;>simp[np,parts,NF.size]
 | star a =>
   have h1:=UT (y:=left c a) (b:=.star a) (gK c a hx.1) rfl;have h2:np (.star a)=1:=rfl;simp only[left,NF.size];have:=a.size_pos;have h3:2*3<=(a.size+1)*(a.size+1+1):=a0E (by omega) (by omega);omega
 | pair a b =>
   have h1:=UT (y:=left c a) (gK c a hx.1) hx.2.2.2;have h2:=ih b (by simp[NF.size];omega) hx.2.1;have h3:=US b;have hw:∀x ∈ [aH (left c a) b,left c b],wf x:=by simp;exact⟨mf (gK c a hx.1) hx.2.1,gK c b hx.2.1⟩
   have h4:np (left c (.pair a b))<=np (aH (left c a) b)+np (left c b):=by
    simp only[left]
    split
    ·have:=aeu hw;simpa[dZ] using this
    omega
   simp only[NF.size];have h5:(b.size+1)*(b.size+1)<=(a.size+b.size+1)*(a.size+b.size+1+1):=a0E (by omega) (by omega);have h6:(b.size+1)*(b.size+1)=b.size*(b.size+1)+b.size+1:=by rw[a0r];omega
   omega
 | sum l =>
   have hw:∀x∈uV c l,wf x:=by
    rw[gJ];intro y hy;obtain⟨z,hz,rfl⟩:=a0s.1 hy;exact gK c z (jQ.1 hx.1 z hz)
   have h1:=aeu hw;have h2:∀l':List NF,(∀y∈l',y∈l)->((uV c l').map np).sum<=bB l'*(bB l+1):=by
    intro l'
    induction l' with
    | nil=>intro _;simp[uV]
    | cons y r ihl =>
      intro hs;have hy:=hs y (by simp);have hm:=dK hy;have h3:=ih y (by simp[NF.size];omega) (jQ.1 hx.1 y hy);have h4:=ihl (λz hz=>hs z (by simp[hz]));have h5:y.size*(y.size+1)<=y.size*(bB l+1):=a0m _ (by omega);simp only[uV,a0A,a0W,bB,a0r (n:=y.size)];omega
   have h3:=h2 l (λ_ h=>h);have h4:bB l*(bB l+1)<=(bB l+1)*(bB l+1+1):=a0E (by omega) (by omega);simp only[left,NF.size];omega
def Et(t:List NF):Nat:=(t.map λx=>x.size+1).sum
theorem Zf(s t:List NF):Et (s++t)=Et s+Et t:=by simp[Et]
theorem FH:∀{t:List NF},t≠[]->Et t=(chain t).size+1
 | [x],_=>by simp[Et,chain]
 | x::y::r,_=>by
   have:=FH (t:=y::r) (by simp);rw[Qt (by simp)];simp only[NF.size];show(x.size+1)+Et (y::r)=_;omega
theorem agY(X:NF):∀(Y:NF) (t:List NF),wf X->(Y,t)∈bq X->Et t<=X.size*dJ X:=by
 refine NF.ind (P:=λX=>∀(Y:NF) (t:List NF),wf X->(Y,t)∈bq X->Et t<=X.size*dJ X) ?_ X;intro X ih Y t hX h;rcases qH h with⟨_,rfl⟩|⟨a,b,s,rfl,h1,rfl⟩|⟨a,b,rfl,h1⟩|⟨l,x,rfl,hx,h1⟩|⟨a,s,rfl,h1,rfl⟩
 ·simp[Et]
 ·have h2:=ih a (by simp[NF.size];omega) Y s hX.1 h1
  have h3:=FH (BI b);rw[uW hX.2.1]at h3;rw[Zf,h3];simp only[NF.size,dJ];have h4:a.size*dJ a<=a.size*(max (dJ a) (dJ b)+1):=a0m _ (by omega);have h5:(b.size+1)*1<=(b.size+1)*(max (dJ a) (dJ b)+1):=a0m _ (by omega);rw[show a.size+b.size+1=a.size+(b.size+1) by omega,a0r];omega
 ·have h2:=ih b (by simp[NF.size];omega) Y t hX.2.1 h1
  simp only[NF.size,dJ];exact a0e h2 (a0E (by omega) (by omega))
 ·have hm:=dK hx
  have hh:=Fe hx;have h2:=ih x (by simp[NF.size];omega) Y t (jQ.1 hX.1 x hx) h1;simp only[NF.size,dJ];exact a0e h2 (a0E (by omega) (by omega))
 have h2:=ih a (by simp[NF.size]) Y s hX.1 h1;have h3:Et [.star a]=a.size+2:=by simp[Et,NF.size]
 have h4:=Mf a;rw[Zf,h3];simp only[NF.size,dJ,a0r,a0L];omega
theorem aiL(X:NF):∀(Y:NF) (t:List NF),(Y,t)∈bq X->dJ Y<=dJ X:=by
 refine NF.ind (P:=λX=>∀(Y:NF) (t:List NF),(Y,t)∈bq X->dJ Y<=dJ X) ?_ X;intro X ih Y t h;rcases qH h with⟨rfl,rfl⟩|⟨a,b,s,rfl,h1,rfl⟩|⟨a,b,rfl,h1⟩|⟨l,x,rfl,hx,h1⟩|⟨a,s,rfl,h1,rfl⟩
 ·exact a0a _
 ·have h2:=ih a (by simp[NF.size];omega) Y s h1
  simp only[dJ];omega
 ·have h2:=ih b (by simp[NF.size];omega) Y t h1
  simp only[dJ];omega
 ·have hm:=dK hx
  have hh:=Fe hx;have h2:=ih x (by simp[NF.size];omega) Y t h1;simp only[dJ];omega
 have h2:=ih a (by simp[NF.size]) Y s h1;simp only[dJ];omega
theorem aiM(hX:WC X) {w:LN} {c:Nat} {g:NF}(hs:X.size*dJ X<=524800)(hw:w.length<=40)(h:di g=true\/g=.one\/qx X w g):np (left c g)<=1000000000000:=by
 rcases h with h|h|h
 ·cases g with
  | set s=>simp only[left];split<;>simp[np,parts]
  | _=>simp[di]at h
 ·rw[h];simp[left,np,parts]
 obtain⟨Z,u,Y,t,v,hZ,hY,hv,rfl,hh⟩:=h;have gZ:=(bJ hX.1 hZ).1;have gY:=bJ gZ hY;have cZ:=OM X Z u hX.2 hZ;have cY:=OM Z Y t cZ hY;have szZ:=(nK hZ).1;have szY:=(nK hY).1;have hpX:=Mf X;have hX1:X.size<=524800:=by
  have:X.size*1<=X.size*dJ X:=a0m _ hpX;omega
 by_cases ht:t=[]
 ·subst ht
  have e:left c (mk (dW Y v) [])=dW Y (v++[c]):=(su Y v c).symm;rw[e];have hWC:WC (dW Y (v++[c])):=by
   have:∀(u:LN) (y:NF),WC y->WC (dW y u):=by
    intro u
    induction u with
    | nil=>intro y hy;exact hy
    | cons a r ih=>intro y hy;exact ih _ (hy.left a)
   exact this _ _ ⟨gY.1,cY⟩
  obtain⟨hn,s,nQ⟩:=zk hWC.1 hWC.2
  let M:List NF:=.set s::.one::((bq Y).flatMap λo=>(Af (v++[c])).map λv'=>mk (dW o.1 v') o.2)
  have uB:∀p∈parts (dW Y (v++[c])),p∈M:=by
   intro p hp;rcases wG Y gY.1 (v++[c]) p hp with h1|h1|⟨Y',s',v',h1,h2,h3,h4,h5⟩
   ·rw[nQ p hp h1];simp[M]
   ·rw[h1];simp[M]
   have:p∈(bq Y).flatMap λo=>(Af (v++[c])).map λv'=>mk (dW o.1 v') o.2 :=
    a0U.2 ⟨(Y',s'),h1,a0s.2 ⟨v',Ii h2,h4.symm⟩⟩
   simp only[M,a0l];exact .inr (.inr this)
  have hle:=oK hn uB;have hM:M.length=2+Y.size*(v.length+2):=by
   have:=uY (λo:NF × List NF=>(Af (v++[c])).map λv'=>mk (dW o.1 v') o.2) (λ_=>v.length+2) (by intro o;simp[Ij]) (bq Y);have e3:((bq Y).map λ_=>v.length+2).sum=Y.size*(v.length+2):=by
    rw[<-Uo Y]
    induction bq Y with
    | nil=>simp
    | cons a r ihl=>simp only[a0A,a0W,ihl,a0o,a0r,a1U];omega
   have e4:M.length=((bq Y).flatMap λo=>(Af (v++[c])).map λv'=>mk (dW o.1 v') o.2).length+2:=by simp[M]
   rw[e4,this,e3];omega
  have Dy:=hv.length_le;have h6:Y.size*(v.length+2)<=524800*42:=a0E (by omega) (by omega);unfold np;omega
 rw[jS ht];have hts:=agY Z Y t gZ hY;have hZX:Z.size*dJ Z<=524800:=a0e (a0E szZ (aiL X Z u hZ)) hs;have fM:=FH ht;have hcw:=BM gY.2;have hct:=eG gY.2 ht;have hdw:wf (dW Y v):=A9 gY.1 v;have h1:=UT (y:=left c (dW Y v)) (gK c _ hdw) hct;have h2:=aiK c (chain t) hcw;have h3:=US (chain t);have EH:∀x ∈ [aH (left c (dW Y v)) (chain t),left c (chain t)],wf x:=by simp;exact⟨mf (gK c _ hdw) hcw,gK c _ hcw⟩
 have h4:np (left c (.pair (dW Y v) (chain t)))<=np (aH (left c (dW Y v)) (chain t))+np (left c (chain t)):=by
  show np (if dY (dW Y v) then dZ (aH (left c (dW Y v)) (chain t)) (left c (chain t)) else aH (left c (dW Y v)) (chain t))<=_
  split
  ·have:=aeu EH;simpa[dZ] using this
  omega
 have h5:(chain t).size*((chain t).size+1)<=524800*524801:=a0E (by omega) (by omega);omega
/-! apX UU in memory. -/
def FJ(k:Nat)(L:List Bool)(a b l:Value)(nm:LB):Array Value:=(.int .u8 k::(L.map Value.bool++[a,b,l,.string (bs nm)])).toArray
def TK(w:World)(p k:Nat)(L:List Bool)(a b l:Value)(nm:LB):Prop :=
 w.heap[p]?=some (.cells (FJ k L a b l nm) 145 (0,0))/\L.length=256
theorem TK.lt{b:Value} {nm:LB}(h:TK w p k L a b l nm):p<w.heap.size:=(a0d.1 h.1).1
theorem TK.aB{b:Value} {nm:LB}(h:TK w p k L a b l nm)(f:aA S w w')(hS:p∉S):TK w' p k L a b l nm:=⟨(f.block p h.lt hS).trans h.1,h.2⟩
theorem TK.at{b:Value} {nm:LB}(h:TK w p k L a b l nm)(o:Nat)(v:Value)(e:(FJ k L a b l nm).toList[o]?=some v):w.cell? ⟨p,o,none⟩=some v:=by
 simp only[World.cell?,h.1];simpa using e
theorem TK.c0{b:Value} {nm:LB}(h:TK w p k L a b l nm):w.cell? ⟨p,0,none⟩=some (.int .u8 k):=h.at 0 _ (by simp[FJ])
theorem TK.cin{b:Value} {nm:LB}(h:TK w p k L a b l nm)(c:Nat)(x:Bool)(hc:L[c]?=some x):w.cell? ⟨p,1+c,none⟩=some (.bool x):=by
 have hl:=(a0i.1 hc).1;refine h.at (1+c) _ ?_;rw[a2m];simp only[FJ,a1u];rw[a0u (by simp;exact hl)];simp[hc]
theorem MG{b:Value} {nm:LB}(h:L.length=256)(j:Nat):(FJ k L a b l nm).toList[257+j]?=[a,b,l,.string (bs nm)][j]?:=by
 rw[show 257+j=(256+j)+1 by omega];simp only[FJ,a1u];rw[a0R (by simp[h])];simp[h]
theorem TK.ends{b:Value} {nm:LB}(h:TK w p k L a b l nm):w.cell? ⟨p,257,none⟩=some a/\w.cell? ⟨p,258,none⟩=some b/\w.cell? ⟨p,259,none⟩=some l/\w.cell? ⟨p,260,none⟩=some (.string (bs nm)) :=
 ⟨h.at 257 _ (MG h.2 0),h.at 258 _ (MG h.2 1),h.at 259 _ (MG h.2 2),h.at 260 _ (MG h.2 3)⟩
theorem TK.of {C:Array Value}{b:Value} {nm:LB}(h:C=FJ k L a b l nm)(hL:L.length=256):TK (w.alloc (Obj.cells C 145)) w.heap.size k L a b l nm:=by
 subst h;exact⟨bK _ _,hL⟩
def RVq(w:World)(v:Value)(us:List Value):Prop:=us.length<=140737488355328/\∃a n cap,v=.slice a n cap/\n=us.length/\n<=cap/\((a=none/\cap=0)\/∃g,a=some ⟨g,0,none⟩)/\∀j u,us[j]?=some u->∃g,a=some ⟨g,0,none⟩/\w.cell? ⟨g,j,none⟩=some u
theorem dL {g o:Nat}(h:w.cell? ⟨g,o,none⟩=some u):g<w.heap.size:=by
 unfold World.cell? at h;cases hh:w.heap[g]? with
 | none=>simp[hh]at h
 | some x=>exact(a0d.1 hh).1
theorem RVq.aB {us:List Value}(h:RVq w v us)(f:aA [] w w'):RVq w' v us:=by
 obtain⟨h0,a,n,cap,h1,h2,h3,qZ,h4⟩:=h;refine⟨h0,a,n,cap,h1,h2,h3,qZ,λj u hj=>?_⟩;obtain⟨g,h5,h6⟩:=h4 j u hj;exact⟨g,h5,(f.cell (p:=⟨g,j,none⟩) (dL h6) (by simp)).trans h6⟩
theorem OV.rv {base:Nat}(h:OV e base w v xs)(hl:xs.length<=140737488355328):RVq w v xs:=by
 rcases h.2 with⟨e,h0⟩|⟨g,cap,cur,e,hb,hg,hnc,rest⟩
 ·subst e
  exact⟨hl,none,0,0,rfl,h0.symm,a0a _,.inl ⟨rfl,rfl⟩,λj u hj=>by have:=(a0i.1 hj).1;omega⟩
 subst e;refine⟨hl,_,_,cap,rfl,rfl,hnc,.inr ⟨g,rfl⟩,λj u hj=>⟨g,rfl,?_⟩⟩;have h3:=World.ownsRow.cells h (g:=g) rfl j u hj;rw[add0]at h3;exact h3
def jm:NF->Nat
 | .zero=>48
 | .one=>49
 | .set _=>115
 | .pair _ _=>99
 | .sum _=>97
 | .star _=>42
abbrev qg:Value:=.pointer none
abbrev yt:Value:=.slice none 0 0
mutual
/-- A form in memory. -/
def TN(w:World):Nat->NF->Prop
 | p,.zero=>TK w p 48 nF qg qg yt [48]
 | p,.one=>TK w p 49 nF qg qg yt [49]
 | p,.set s=>TK w p 115 (bl s) qg qg yt (name (.set s))
 | p,.pair x y=>∃a b,TK w p 99 nF (aK a) (aK b) yt (name (.pair x y))/\TN w a x/\TN w b y
 | p,.sum l=>∃v ps,TK w p 97 nF qg qg v (name (.sum l))/\RVq w v (ps.map aK)/\iQ w ps l
 | p,.star x=>∃a,TK w p 42 nF (aK a) qg yt (name (.star x))/\TN w a x
def iQ(w:World):LN->List NF->Prop
 | [],[]=>True
 | p::ps,x::l=>TN w p x/\iQ w ps l
 | _,_=>False
end
mutual
theorem TN.aB(f:aA [] w w'):∀{p:Nat} {x:NF},TN w p x->TN w' p x
 | p,.zero,h=>by simp only[TN]at h |-;exact h.aB f (by simp)
 | p,.one,h=>by simp only[TN]at h |-;exact h.aB f (by simp)
 | p,.set s,h=>by simp only[TN]at h |-;exact h.aB f (by simp)
 | p,.pair x y,h=>by
   simp only[TN]at h |-;obtain⟨a,b,h1,h2,h3⟩:=h;exact⟨a,b,h1.aB f (by simp),TN.aB f h2,TN.aB f h3⟩
 | p,.sum l,h=>by
   simp only[TN]at h |-;obtain⟨v,ps,h1,h2,h3⟩:=h;exact⟨v,ps,h1.aB f (by simp),h2.aB f,iQ.aB f h3⟩
 | p,.star x,h=>by
   simp only[TN]at h |-;obtain⟨a,h1,h2⟩:=h;exact⟨a,h1.aB f (by simp),TN.aB f h2⟩
theorem iQ.aB(f:aA [] w w'):∀{ps:LN} {l:List NF},iQ w ps l->iQ w' ps l
 | [],[],_=>by simp only[iQ]
 | p::ps,x::l,h=>by
   simp only[iQ]at h |-;exact⟨TN.aB f h.1,iQ.aB f h.2⟩
 | [],_::_,h=>by simp only[iQ]at h
 | _::_,[],h=>by simp only[iQ]at h
end
theorem TN.node(h:TN w p x):∃L a b l,TK w p (jm x) L a b l (name x):=by
 cases x with
 | zero=>simp only[TN]at h;exact⟨_,_,_,_,h⟩
 | one=>simp only[TN]at h;exact⟨_,_,_,_,h⟩
 | set s=>simp only[TN]at h;exact⟨_,_,_,_,h⟩
 | pair x y=>simp only[TN]at h;obtain⟨a,b,h1,_⟩:=h;exact⟨_,_,_,_,h1⟩
 | sum l=>simp only[TN]at h;obtain⟨v,ps,h1,_⟩:=h;exact⟨_,_,_,_,h1⟩
 | star x=>simp only[TN]at h;obtain⟨a,h1,_⟩:=h;exact⟨_,_,_,_,h1⟩
theorem TN.kd(h:TN w p x):w.cell? ⟨p,0,none⟩=some (.int .u8 (jm x)):=by
 obtain⟨_,_,_,_,h1⟩:=h.node;exact h1.c0
theorem TN.nm(h:TN w p x):w.cell? ⟨p,260,none⟩=some (.string (bs (name x))):=by
 obtain⟨_,_,_,_,h1⟩:=h.node;exact h1.ends.2.2.2
theorem iQ.len:∀{ps:LN} {l:List NF},iQ w ps l->ps.length=l.length
 | [],[],_=>rfl
 | p::ps,x::l,h=>by simp only[iQ]at h;simp[iQ.len h.2]
 | [],_::_,h=>by simp only[iQ]at h
 | _::_,[],h=>by simp only[iQ]at h
theorem iQ.get:∀{ps:LN} {l:List NF},iQ w ps l->∀(j:Nat) (x:NF),l[j]?=some x->∃p,ps[j]?=some p/\TN w p x
 | [],[],_,j,x,h=>by simp at h
 | p::ps,y::l,h,0,x,hj=>by simp only[iQ]at h;simp at hj;subst hj;exact⟨p,rfl,h.1⟩
 | p::ps,y::l,h,j+1,x,hj=>by
   simp only[iQ]at h;obtain⟨q,h1,h2⟩:=iQ.get h.2 j x (by simpa using hj);exact⟨q,by simpa using h1,h2⟩
 | [],_::_,h,_,_,_=>by simp only[iQ]at h
 | _::_,[],h,_,_,_=>by simp only[iQ]at h
theorem iQ.app:∀{a b:LN} {l m:List NF},iQ w a l->iQ w b m->iQ w (a++b) (l++m)
 | [],b,[],m,_,h=>h
 | p::a,b,x::l,m,h,k=>by
   simp only[iQ,a0J]at h |-;exact⟨h.1,iQ.app h.2 k⟩
 | [],_,_::_,_,h,_=>by simp only[iQ]at h
 | _::_,_,[],_,h,_=>by simp only[iQ]at h
theorem iQ.take:∀{ps:LN} {l:List NF} (k:Nat),iQ w ps l->iQ w (ps.take k) (l.take k)/\iQ w (ps.drop k) (l.drop k)
 | [],[],k,_=>by simp[iQ]
 | p::ps,x::l,0,h=>⟨by simp[iQ],h⟩
 | p::ps,x::l,k+1,h=>by
   simp only[iQ]at h;have:=iQ.take k h.2;simp only[a2N,a3j,iQ];exact⟨⟨h.1,this.1⟩,this.2⟩
 | [],_::_,_,h=>by simp only[iQ]at h
 | _::_,[],_,h=>by simp only[iQ]at h
/-! Forms that are built. -/
theorem anu:(Tryz.zeroCells145.setIfInBounds 0 (.int .u8 48)).setIfInBounds 260 (.string ⟨#[48]⟩)=FJ 48 nF qg qg yt [48]:=by kernel_rfl
theorem aoy:(Tryz.zeroCells145.setIfInBounds 0 (.int .u8 49)).setIfInBounds 260 (.string ⟨#[49]⟩)=FJ 49 nF qg qg yt [49]:=by kernel_rfl
theorem anv(q:Option Addr)(s:ByteArray):((Tryz.zeroCells145.setIfInBounds 0 (.int .u8 42)).setIfInBounds 257 (.pointer q)).setIfInBounds 260 (.string s)=FJ 42 nF (.pointer q) qg yt s.data.toList:=by
 cases s;kernel_rfl
theorem pairT(q r:Option Addr)(s:ByteArray):(((Tryz.zeroCells145.setIfInBounds 0 (.int .u8 99)).setIfInBounds 257 (.pointer q)).setIfInBounds 258 (.pointer r)).setIfInBounds 260 (.string s)=FJ 99 nF (.pointer q) (.pointer r) yt s.data.toList:=by
 cases s;kernel_rfl
theorem lC(w:World):Calls Tryz.prog 75 #[] w λe w'=>∃p,e=.returned (aK p)/\TN w' p .zero/\aA [] w w':=by
 go_enter Tryz.func75,Tryz.ntmps75
 go_wp2;go_ret;exact⟨w.heap.size,rfl,by simp only[TN];exact TK.of anu oM,(aA.refl _ _).alloc _⟩
theorem uD(w:World):Calls Tryz.prog 72 #[] w λe w'=>∃p,e=.returned (aK p)/\TN w' p .one/\aA [] w w':=by
 go_enter Tryz.func72,Tryz.ntmps72
 go_wp2;go_ret;exact⟨w.heap.size,rfl,by simp only[TN];exact TK.of aoy oM,(aA.refl _ _).alloc _⟩
theorem acp {b:NF}(h:aM b=true):(((jm b:Nat):Int)==48)=false/\(((jm b:Nat):Int)==49)=false:=by
 cases b<;>simp[aM]at h<;>simp[jm]
def xI(w:World)(x:NF)(e:Ending)(w':World):Prop:=∃p,e=.returned (aK p)/\TN w' p x/\aA [] w w'
theorem Iz(l:LB):(bs l).data.toList=l:=ah9 l
theorem TN.pair {pa pb:Nat} {a b:NF}(ha:TN w pa a)(hb:TN w pb b) {C:Array Value}(hC:C=FJ 99 nF (aK pa) (aK pb) yt (name (.pair a b))):TN (w.alloc (Obj.cells C 145)) w.heap.size (.pair a b):=by
 simp only[TN];exact⟨pa,pb,TK.of hC oM,ha.aB ((aA.refl _ _).alloc _),hb.aB ((aA.refl _ _).alloc _)⟩
theorem aev(a b:NF):name (.pair a b)=40::(name a++32::(name b++[41])):=by simp only[name]
def ThC(a:NF):Prop:=∀(b:NF) (w:World) (pa pb:Nat),TN w pa a->TN w pb b->wf a->wf b->nl (aH a b)<9223372036854775807 ->
 Calls Tryz.prog 70 #[aK pa,aK pb] w (xI w (aH a b))
theorem Am {a:NF}(hh:dE a=true):ThC a:=by
 intro b w pa pb ha hb wa wb hn;have ka:=ha.kd;have kb:=hb.kd;have na:=ha.nm;have nb:=hb.nm;have A:=aj ha;have B:=aj hb;have k99:(((jm a:Nat):Int)==48)=false/\(((jm a:Nat):Int)==49)=false/\(((jm a:Nat):Int)==99)=false:=by
  cases a<;>simp[dE]at hh<;>simp[jm]
 obtain⟨a48,a49,a99⟩:=k99;have h8:jm a<256:=by cases a<;>simp[jm]
 clear ha hb;unfold aK;cases j6:aM b
 case false =>
  rcases fC (by rw[j6];simp) with h|h
  ·subst h
   have N:=aj (lC w);have Ht:Z_ (aH a .zero=.zero):=eF a;rw[Ht.o];simp only[jm]at kb;generalize jm a=kda at *;go_enter Tryz.func70,Tryz.ntmps70
   go_wp2_with fail
   refine(N.o).mono ?_;rintro e w1 ⟨p,rfl,hp,hf⟩;have P:=aj hp;have F:=aj hf;clear hp hf N;unfold aK;go_wp2;go_ret;exact⟨p,rfl,P,F⟩
  subst h;have Ht:Z_ (aH a .one=a):=bz a;rw[Ht.o];simp only[jm]at kb;generalize jm a=kda at *;go_enter Tryz.func70,Tryz.ntmps70
  go_wp2;go_ret;exact⟨pa,rfl,A,aA.refl _ _⟩
 case true =>
  obtain⟨b48,b49⟩:=acp j6;have hb8:jm b<256:=by cases b<;>simp[jm]
  have Ht:=aj (aU hh j6);rw[Ht.o]at hn |-;rw[BZ]at hn;unfold nl at hn;have e1:(⟨#[40]⟩:ByteArray)++bs (name a)=bs (40::name a):=kH [40] (name a);have e2:bs (40::name a)++⟨#[32]⟩=bs (40::name a++[32]):=kH (40::name a) [32];have e3:bs (40::name a++[32])++bs (name b)=bs (40::name a++[32]++name b):=kH _ _;have e4:bs (40::name a++[32]++name b)++⟨#[41]⟩=bs (40::name a++[32]++name b++[41]):=kH _ [41];have Hnm:Z_ (name (.pair a b)=40::name a++[32]++name b++[41]):=by show _=_;rw[aev];simp
  have s1:=bS (name a);have s2:(bs (40::name a)).size=(name a).length+1:=bS _;have s3:(bs (40::name a++[32])).size=(name a).length+2:=by rw[bS];simp
  have s4:=bS (name b);have s5:(bs (40::name a++[32]++name b)).size=(name a).length+2+(name b).length:=by rw[bS];simp;omega
  have q1:¬ (9223372036854775807<1+(name a).length):=by omega
  have q2:¬ (9223372036854775807<(name a).length+1+1):=by omega
  have q3:¬ (9223372036854775807<(name a).length+2+(name b).length):=by omega
  have q4:¬ (9223372036854775807<(name a).length+2+(name b).length+1):=by omega
  have q5:¬ (9223372036854775807<(name a).length+2):=by omega
  have PT:=aj (λ(s:ByteArray)=>pairT (some ⟨pa,0,none⟩) (some ⟨pb,0,none⟩) s);have fin:Z_ (∀(W:World),aA [] w W->TN (W.alloc (Obj.cells ((((Tryz.zeroCells145.setIfInBounds 0 (.int .u8 99)).setIfInBounds 257 (.pointer (some ⟨pa,0,none⟩))).setIfInBounds 258 (.pointer (some ⟨pb,0,none⟩))).setIfInBounds 260 (.string (bs (40::name a++[32]++name b++[41])))) 145)) W.heap.size (.pair a b)):=by
   intro W hW;refine TN.pair (A.o.aB hW) (B.o.aB hW) ?_;rw[PT.o,Iz,<-Hnm.o];rfl
  generalize jm a=kda at *;generalize jm b=kdb at *;generalize bs (40::name a++[32]++name b++[41])=z4 at *;generalize bs (40::name a++[32]++name b)=z3 at *;generalize bs (40::name a++[32])=z2 at *;generalize bs (40::name a)=z1 at *;generalize (name a).length=la at *;generalize (name b).length=lb at *;clear PT Hnm;go_enter Tryz.func70,Tryz.ntmps70
  go_wp2_with fail
  go_region
  go_wp2;go_ret;exact⟨_,rfl,fin.o _ (aA.refl _ _).drew,((aA.refl _ _).drew).alloc _⟩
theorem acr:ThC .zero:=by
 intro b w pa pb ha hb wa wb hn;have ka:=ha.kd;have N:=aj (lC w);have Ht:Z_ (aH .zero b=.zero):=rfl;rw[Ht.o];simp only[jm]at ka;clear ha hb;unfold aK;go_enter Tryz.func70,Tryz.ntmps70
 go_wp2_with fail
 refine(N.o).mono ?_;rintro e w1 ⟨p,rfl,hp,hf⟩;have P:=aj hp;have F:=aj hf;clear hp hf N;unfold aK;go_wp2;go_ret;exact⟨p,rfl,P,F⟩
theorem aew:ThC .one:=by
 intro b w pa pb ha hb wa wb hn;have ka:=ha.kd;have kb:=hb.kd;have B:=aj hb;have Ht:Z_ (aH .one b=b):=rfl;rw[Ht.o];simp only[jm]at ka;clear ha hb;unfold aK
 by_cases hz:b=.zero
 ·subst hz
  have N:=aj (lC w);simp only[jm]at kb;go_enter Tryz.func70,Tryz.ntmps70
  go_wp2_with fail
  refine(N.o).mono ?_;rintro e w1 ⟨p,rfl,hp,hf⟩;have P:=aj hp;have F:=aj hf;clear hp hf N;unfold aK;go_wp2;go_ret;exact⟨p,rfl,P,F⟩
 have b48:(((jm b:Nat):Int)==48)=false:=by
  cases b<;>simp[jm]
  exact absurd rfl hz
 have hb8:jm b<256:=by cases b<;>simp[jm]
 generalize jm b=kdb at *;go_enter Tryz.func70,Tryz.ntmps70
 go_wp2;go_ret;exact⟨pb,rfl,B,aA.refl _ _⟩
theorem acs {c d:NF}(hd:ThC d):ThC (.pair c d):=by
 intro b w pa pb ha hb wa wb hn;have ka:=ha.kd;have kb:=hb.kd;have A:=aj ha;have B:=aj hb;simp only[jm]at ka;simp only[TN]at ha;obtain⟨pc,pd,hk,hc,nA⟩:=ha;obtain⟨UW,k58,_,_⟩:=hk.ends;unfold aK at UW k58;have C:=aj hc;have D:=aj nA;clear hb hc nA hk;cases j6:aM b
 case false =>
  rcases fC (by rw[j6];simp) with h|h
  ·subst h
   have N:=aj (lC w);have Ht:Z_ (aH (.pair c d) .zero=.zero):=rfl;rw[Ht.o];simp only[jm]at kb;unfold aK;go_enter Tryz.func70,Tryz.ntmps70
   go_wp2_with fail
   refine(N.o).mono ?_;rintro e w1 ⟨p,rfl,hp,hf⟩;have P:=aj hp;have F:=aj hf;clear hp hf N;unfold aK;go_wp2;go_ret;exact⟨p,rfl,P,F⟩
  subst h;have Ht:Z_ (aH (.pair c d) .one=.pair c d):=rfl;rw[Ht.o];simp only[jm]at kb;unfold aK;go_enter Tryz.func70,Tryz.ntmps70
  go_wp2;go_ret;exact⟨pa,rfl,A,aA.refl _ _⟩
 case true =>
  obtain⟨b48,b49⟩:=acp j6;have hb8:jm b<256:=by cases b<;>simp[jm]
  have Ht:=aj (cz (c:=c) (d:=d) j6);rw[Ht.o]at hn |-;have wD:=mf wa.2.1 wb;have hcz:c≠.zero:=λe=>by have:=wa.2.2.1;rw[e]at this;simp[dE]at this
  have hn2:=a2j (ab2 wa.1 wD hcz) hn;have TD:=aj (hd b w pd pb D.o B.o wa.2.1 wb hn2);have TC:Z_ (∀(w':World) (p:Nat),aA [] w w'->TN w' p (aH d b)->Calls Tryz.prog 70 #[aK pc,aK p] w' (xI w' (aH c (aH d b)))):=λw' p hf hp=>Am wa.2.2.1 (aH d b) w' pc p (C.o.aB hf) hp wa.1 wD hn
  have CL:Z_ (∀w',aA [] w w'->w'.cell? ⟨pa,257,none⟩=some (.pointer (some ⟨pc,0,none⟩))):=λw' hf=>(hf.cell (p:=⟨pa,257,none⟩) (dL UW) (by simp)).trans UW
  unfold aK at TD TC |-;generalize jm b=kdb at *;go_enter Tryz.func70,Tryz.ntmps70
  go_wp2_with fail
  refine(TD.o).mono ?_;rintro e w1 ⟨p,rfl,hp,hf⟩;have T2:=aj (TC.o w1 p hf hp);have aoz:=CL.o w1 hf;have F:=aj hf;clear hp hf TD TC CL;unfold aK;go_wp2_with fail
  refine(T2.o).mono ?_;rintro e w2 ⟨p2,rfl,hp,hf⟩;have P:=aj hp;have F2:=aj (F.o.trans hf);clear hp hf T2 F;unfold aK;go_wp2;go_ret;exact⟨p2,rfl,P,F2⟩
theorem wP(a:NF):ThC a:=by
 refine NF.ind (P:=ThC) ?_ a;intro a ih;cases a with
 | zero=>exact acr
 | one=>exact aew
 | set s=>exact Am rfl
 | sum l=>exact Am rfl
 | star x=>exact Am rfl
 | pair c d=>exact acs (ih d (by simp[NF.size];omega))
/-! Any number of times. -/
theorem aex(a:NF)(w:World)(pa:Nat)(ha:TN w pa a)(hn:nl (iI a)<9223372036854775807) :
 Calls Tryz.prog 73 #[aK pa] w (xI w (iI a)):=by
 have ka:=ha.kd;have na:=ha.nm;have A:=aj ha;clear ha;unfold aK;have E:=aj (uD w);have one:∀k,(k=48\/k=49)->w.cell? ⟨pa,0,none⟩=some (.int .u8 (k:Nat))->Calls Tryz.prog 73 #[.pointer (some ⟨pa,0,none⟩)] w (xI w .one):=by
  intro k hk kk;clear ka;rcases hk with rfl|rfl
  all_goals
   go_enter Tryz.func73,Tryz.ntmps73
   go_wp2_with fail
   refine(E.o).mono ?_;rintro e w1 ⟨p,rfl,hp,hf⟩;have P:=aj hp;have F:=aj hf;clear hp hf;unfold aK;go_wp2;go_ret;exact⟨p,rfl,P,F⟩
 have Ou:∀k,(((k:Nat):Int)==48)=false->(((k:Nat):Int)==49)=false->(((k:Nat):Int)==42)=false->k<256->iI a=.star a->w.cell? ⟨pa,0,none⟩=some (.int .u8 (k:Nat))->Calls Tryz.prog 73 #[.pointer (some ⟨pa,0,none⟩)] w (xI w (iI a)):=by
  intro k k48 k49 Yg k8 hs kk;rw[hs]at hn |-;rw[Uu]at hn;unfold nl at hn;have e1:bs (name a)++⟨#[42]⟩=bs (name a++[42]):=kH _ [42];have s1:=bS (name a);have q1:¬ (9223372036854775807<(name a).length+1):=by omega
  have fin:Z_ (TN (w.alloc (Obj.cells (((Tryz.zeroCells145.setIfInBounds 0 (.int .u8 42)).setIfInBounds 257 (.pointer (some ⟨pa,0,none⟩))).setIfInBounds 260 (.string (bs (name a++[42])))) 145)) w.heap.size (.star a)):=by
   show TN _ _ _;simp only[TN];refine⟨pa,TK.of ?_ oM,A.o.aB ((aA.refl _ _).alloc _)⟩;rw[anv,Iz];simp only[name];rfl
  generalize bs (name a++[42])=z1 at *;clear ka A hs E one;go_enter Tryz.func73,Tryz.ntmps73
  go_wp2;go_ret;exact⟨_,rfl,fin,(aA.refl _ _).alloc _⟩
 cases a with
 | zero=>exact one 48 (.inl rfl) ka
 | one=>exact one 49 (.inr rfl) ka
 | set s=>exact Ou 115 rfl rfl rfl (by decide) rfl ka
 | pair x y=>exact Ou 99 rfl rfl rfl (by decide) rfl ka
 | sum l=>exact Ou 97 rfl rfl rfl (by decide) rfl ka
 | star x =>
   have Ht:Z_ (iI (.star x)=.star x):=rfl;rw[Ht.o];simp only[jm]at ka;clear one Ou E;go_enter Tryz.func73,Tryz.ntmps73
   go_wp2;go_ret;exact⟨pa,rfl,A,aA.refl _ _⟩
def NnC(x:NF):Prop:=∀(w:World) (p:Nat),TN w p x ->
 Calls Tryz.prog 74 #[aK p] w λe w'=>e=.returned (.bool (dY x))/\w=w'
theorem aln(l:List NF)(ih:∀y∈l,NnC y):NnC (.sum l):=by
 intro w p h;have k0:=h.kd;simp only[jm]at k0;simp only[TN]at h;obtain⟨v,ps,hk,hv,hs⟩:=h;obtain⟨_,_,OU,_⟩:=hk.ends;obtain⟨Jo,av,n,cap,rfl,hn,acu,_,hc⟩:=hv;have hlen:=hs.len;rw[a0B]at hn Jo;have rU:n=l.length:=hn.trans hlen;subst rU;have Hc:=aj hc;have Hs:=aj hs;have IH:=aj ih;rw[hlen]at Jo;clear hc hs ih hk hn hlen;unfold aK;go_enter Tryz.func74,Tryz.ntmps74
 go_wp2_with fail
 go_loopg [5] l.length (λk v5 wr=>∃(j:Nat),j+k=l.length/\v5=.int .i64 j/\w=wr/\(l.take j).any dY=false)
 case atStart=>exact⟨0,by omega,rfl,rfl,rfl⟩
 case round =>
  obtain⟨j,sI,rfl,rfl,ja⟩:=hrel;have mi:=aj ja;clear ja
  by_cases hj:j<l.length
  ·obtain⟨x,hx⟩:∃x,l[j]?=some x:=⟨l[j],a0c hj⟩
   obtain⟨q,hq,DK⟩:=Hs.o.get j x hx;obtain⟨g,rfl,aV⟩:=Hc.o j (aK q) (by rw[a1d,hq];rfl);have N:=aj (IH.o x (a0M hx) w q DK);have Ht:Z_ (l.take (j+1)=l.take j++[x]):=by show _=_;rw[a1n,hx];rfl
   have aoA:Z_ (x∈l):=a0M hx;unfold aK at aV N;clear hx hq DK;go_wp2_with fail
   refine(N.o).mono ?_;rintro e w1 ⟨rfl,rfl⟩;cases UX:dY x
   ·go_wp2
    go_roundg (gk-1)
    case measure=>omega
    case rel =>
     refine⟨j+1,by omega,by go_num,rfl,?_⟩;rw[Ht.o,List.any_append,mi.o];simp[UX]
   have HR:Z_ (dY (.sum l)=true):=by
    show _=_;simp only[dY];rw[Iq,a1H];exact⟨x,aoA,UX⟩
   go_wp2;go_ret;rw[HR.o];exact⟨rfl,rfl⟩
  have HR:Z_ (dY (.sum l)=false):=by
   show _=_;simp only[dY];rw[Iq];have:=mi.o;rw[a0D (by omega)]at this;exact this
  go_wp2;go_ret;rw[HR.o];exact⟨rfl,rfl⟩
theorem aiN(x y:NF)(hx:NnC x)(hy:NnC y):NnC (.pair x y):=by
 intro w p h;have k0:=h.kd;simp only[jm]at k0;simp only[TN]at h;obtain⟨a,b,hk,ha,hb⟩:=h;obtain⟨UW,k58,_⟩:=hk.ends;have A:=aj (hx w a ha);have B:=aj (hy w b hb);have HR:Z_ (dY (.pair x y)=(dY x&&dY y)):=by show _=_;simp only[dY]
 unfold aK at UW k58 A B |-;clear hk ha hb;go_enter Tryz.func74,Tryz.ntmps74
 go_wp2_with fail
 refine(A.o).mono ?_;rintro e w1 ⟨rfl,rfl⟩;go_wp2_with fail
 refine(B.o).mono ?_;rintro e w1 ⟨rfl,rfl⟩;cases UX:dY x
 all_goals
  go_wp2;go_ret;rw[HR.o,UX];exact⟨by first | rfl|simp,rfl⟩
theorem MH {r:Bool}(hx:jm x=k)(hr:dY x=r)(h:∀(w:World) (p:Nat),w.cell? ⟨p,0,none⟩=some (.int .u8 (k:Nat))->Calls Tryz.prog 74 #[.pointer (some ⟨p,0,none⟩)] w λe w'=>e=.returned (.bool r)/\w=w'):NnC x:=by
 intro w p ht;have k0:=ht.kd;rw[hx]at k0;rw[hr];exact h w p k0
theorem aey(x:NF):NnC x:=by
 refine NF.ind (P:=NnC) ?_ x;intro x ih;cases x with
 | zero=>exact MH (k:=48) (r:=false) rfl (by simp only[dY]) (λw p k0=>by
    go_enter Tryz.func74,Tryz.ntmps74
    go_wp2;go_ret;exact⟨rfl,rfl⟩)
 | one=>exact MH (k:=49) (r:=true) rfl (by simp only[dY]) (λw p k0=>by
    go_enter Tryz.func74,Tryz.ntmps74
    go_wp2;go_ret;exact⟨rfl,rfl⟩)
 | set s=>exact MH (k:=115) (r:=false) rfl (by simp only[dY]) (λw p k0=>by
    go_enter Tryz.func74,Tryz.ntmps74
    go_wp2;go_ret;exact⟨rfl,rfl⟩)
 | star a=>exact MH (k:=42) (r:=true) rfl (by simp only[dY]) (λw p k0=>by
    go_enter Tryz.func74,Tryz.ntmps74
    go_wp2;go_ret;exact⟨rfl,rfl⟩)
 | pair a b=>exact aiN a b (ih a (by simp[NF.size];omega)) (ih b (by simp[NF.size];omega))
 | sum l=>exact aln l (λy hy=>ih y (by have:=dK hy;simp[NF.size];omega))
/-! A byte of a set. -/
theorem aoB(s:Nat)(z:ByteArray):Tryz.prog.built 145 [(0,.int .u8 115),(1,.agg ((bl s).map Value.bool).toArray),(5,.string z)]=some (FJ 115 (bl s) qg qg yt z.data.toList):=by
 cases z;kernel_rfl
def SC(w:World)(b:Nat)(t:LB)(i:Nat):Prop :=
 w.heap[b]?=some (.cells #[.string (bs t),.int .i64 i] 148 (0,0))/\i<=t.length/\t.length<=1048576
theorem SC.c0(h:SC w b t i):w.cell? ⟨b,0,none⟩=some (.string (bs t)):=by
 simp[World.cell?,h.1]
theorem SC.c1(h:SC w b t i):w.cell? ⟨b,1,none⟩=some (.int .i64 i):=by
 simp[World.cell?,h.1]
theorem SC.fz(h:SC w b t i)(o:Nat):w.frozen? ⟨b,o,none⟩=false:=by
 simp[World.frozen?,h.1]
theorem SC.lt(h:SC w b t i):b<w.heap.size :=
 (a0d.1 h.1).1
theorem SC.aB(h:SC w b t i)(f:aA S w w')(hS:b∉S):SC w' b t i :=
 ⟨(f.block b h.lt hS).trans h.1,h.2⟩
theorem SC.drewN(n:Nat)(h:SC w b t i):SC (w.drewN n) b t i:=h
theorem SC.set(h:SC w b t i)(j:Nat)(hj:j<=t.length):SC (w.setCell ⟨b,1,none⟩ (.int .i64 j)) b t j:=by
 refine⟨?_,hj,h.2.2⟩;simp[World.setCell,a0t,h.1]
def At(w:World)(b:Nat)(t l:LB):Prop:=∃i,SC w b t i/\t.drop i=l
theorem At.aB{l:LB}(h:At w b t l)(f:aA S w w')(hS:b∉S):At w' b t l:=by
 obtain⟨i,h1,h2⟩:=h;exact⟨i,h1.aB f hS,h2⟩
theorem At.lt{l:LB}(h:At w b t l):b<w.heap.size:=by
 obtain⟨i,h1,_⟩:=h;exact h1.lt
def kZ(c:Int):Bool:=decide (32<=c)&&decide (c<=126)
theorem yE(c:Int)(w:World) :
 Calls Tryz.prog 114 #[.int .u8 c] w λe w'=>e=.returned (.bool (kZ c))/\w=w':=by
 go_enter Tryz.func114,Tryz.ntmps114
 go_wp2
 all_goals go_ret
 all_goals exact⟨bT (by simp[kZ, *]<;>omega),rfl⟩
theorem jG(b:Nat)(t l:LB)(w:World)(h:At w b t l) :
 Calls Tryz.prog 77 #[.pointer (some ⟨b,0,none⟩)] w λe w'=>e=.returned (.int .u8 (hd l))/\∃n,w'=w.drewN n:=by
 obtain⟨i,h1,h2⟩:=h;have c0:=h1.c0;have c1:=h1.c1;have hi:=h1.2.1;have ht:=h1.2.2;have fM:=bS t
 by_cases aO:i<t.length
 ·have hg:Z_ (hd l=(t[i].toNat:Int)):=by rw[<-h2];exact BD t i aO
  have zS:=ak3 t i (by rw[fM];exact aO);clear h2 h1;go_enter Tryz.func77,Tryz.ntmps77
  go_wp2;go_quiet (fail)
  go_wp2;go_quiet (fail)
  go_wp2;go_ret;exact⟨kU hg.o.symm,_,Dk _ _ _⟩
 have hg:Z_ (hd l=0):=by rw[<-h2,a0p (by omega)];rfl
 clear h2 h1;go_enter Tryz.func77,Tryz.ntmps77
 go_wp2;go_quiet (fail)
 go_wp2;go_ret;exact⟨kU hg.o.symm,_,rfl⟩
theorem UY(b:Nat)(t l:LB)(w:World)(h:At w b t l) :
 Calls Tryz.prog 59 #[.pointer (some ⟨b,0,none⟩)] w λe w'=>e=.returned (.bool l.isEmpty)/\∃n,w'=w.drewN n:=by
 obtain⟨i,h1,h2⟩:=h;have c0:=h1.c0;have c1:=h1.c1;have hi:=h1.2.1;have ht:=h1.2.2;have fM:=bS t;have hg:Z_ (l.isEmpty=decide (t.length<=i)):=by
  show l.isEmpty=decide (t.length<=i);rw[<-h2,a0P];simp
 clear h2 h1;go_enter Tryz.func59,Tryz.ntmps59
 go_wp2;go_quiet (fail)
 go_wp2;go_ret;exact⟨bT hg.o.symm,_,rfl⟩
def aL(wd l:LB):Bool:=wd.isPrefixOf l
def aJ(wd l:LB):LB:=if wd.isPrefixOf l then l.drop wd.length else l
theorem QM(t wd:LB)(i:Nat)(h:i+wd.length<=t.length):(List.drop i (List.take (i+wd.length) t)==wd)=wd.isPrefixOf (t.drop i):=by
 rw[a0P,a2e,a0X,List.prefix_iff_eq_take,List.drop_take,Nat.add_sub_cancel_left];exact eq_comm
theorem fV(b:Nat)(t l wd:LB)(w:World)(h:At w b t l)(hw:wd.length<=1048576) :
 Calls Tryz.prog 57 #[.pointer (some ⟨b,0,none⟩),.string (bs wd)] w λe w'=>e=.returned (.bool (aL wd l))/\At w' b t (aJ wd l)/\aA [b] w w':=by
 obtain⟨i,h1,h2⟩:=h;have c0:=h1.c0;have c1:=h1.c1;have hf:=h1.fz 1;have hi:=h1.2.1;have ht:=h1.2.2;have fM:=bS t;have hsw:=bS wd;have hx:=qF t;have hl:=bg;have H1:Z_ (SC w b t i):=h1;have H2:Z_ (List.drop i t=l):=h2;clear h1 h2
 by_cases aO:i+wd.length<=t.length
 ·have iH:decide ((t.length:Int)<(i:Int)+(wd.length:Int))=false:=by simp;omega
  have kY:decide (t.length<i+wd.length)=false:=by simp;omega
  cases hp:wd.isPrefixOf l
  ·have he:(List.drop i (List.take (i+wd.length) t)==wd)=false:=by rw[QM t wd i aO,H2.o,hp]
   have Hp:Z_ (wd.isPrefixOf l=false):=hp;clear hp;go_enter Tryz.func57,Tryz.ntmps57
   go_wp2;go_quiet (fail)
   go_wp2;go_ret;exact⟨bT (by simp[aL,Hp.o]),⟨i,H1.o.drewN _,by simp[aJ,Hp.o,H2.o]⟩,(aA.refl _ _).drewN _⟩
  have he:(List.drop i (List.take (i+wd.length) t)==wd)=true:=by rw[QM t wd i aO,H2.o,hp]
  have Hp:Z_ (wd.isPrefixOf l=true):=hp;clear hp;go_enter Tryz.func57,Tryz.ntmps57
  go_wp2;go_quiet (fail)
  go_wp2;go_ret;refine⟨bT (by simp[aL,Hp.o]),⟨i+wd.length,?_,by unfold aJ;rw[a0j Hp.o,<-H2.o,a3b]⟩,?_⟩
  ·exact(H1.o.drewN _).set _ aO
  exact((aA.refl _ _).drewN _).setCell (by simp) _
 have iH:decide ((t.length:Int)<(i:Int)+(wd.length:Int))=true:=by simp;omega
 have kY:decide (t.length<i+wd.length)=true:=by simp;omega
 have Hp:Z_ (wd.isPrefixOf l=false):=by
  show wd.isPrefixOf l=false;rw[a2E];intro h;have:=(a2e.1 h).length_le;rw[<-H2.o,a2I]at this;omega
 go_enter Tryz.func57,Tryz.ntmps57
 go_wp2;go_quiet (fail)
 go_wp2;go_ret;exact⟨bT (by simp[aL,Hp.o]),⟨i,H1.o.drewN _,by simp[aJ,Hp.o,H2.o]⟩,(aA.refl _ _).drewN _⟩
open Go.RowKit
theorem IC {p:UInt8->Bool}:∀(a r:LB),a.all p=true->(∀c r',r=c::r'->p c=false)->(a++r).takeWhile p=a/\(a++r).dropWhile p=r
 | [],r,_,h=>by
   cases r with
   | nil=>simp
   | cons c r'=>simp[h c r' rfl]
 | x::a,r,ha,h=>by
   simp only[a1Q,a0N]at ha;have:=IC a r ha.2 h;simp[ha.1,this.1,this.2]
theorem aez(t:LB)(i j:Nat)(h:i<=j)(hj:j<=t.length):t.drop i=(t.take j).drop i++t.drop j:=by
 conv=>lhs;rw[<-a1I j t]
 rw[a2t (by simp;omega)]
theorem SC.at(h:SC w b t i):At w b t (t.drop i):=⟨i,h,rfl⟩
theorem sJ(b:Nat)(t l:LB)(w:World)(h:At w b t l) :
 Calls Tryz.prog 58 #[.pointer (some ⟨b,0,none⟩)] w λe w'=>e=.returned (.tuple #[.string (bs (l.takeWhile bA)),.bool (aI (l.takeWhile bA))])/\At w' b t (l.dropWhile bA)/\aA [b] w w':=by
 obtain⟨i,h1,h2⟩:=h;have c1:=h1.c1;have hi:=h1.2.1;have ht:=h1.2.2;have H1:Z_ (SC w b t i):=h1;have H2:Z_ (List.drop i t=l):=h2;clear h1 h2;go_enter Tryz.func58,Tryz.ntmps58
 go_wp2;go_loopg [] (t.length-i) (λk wr=>∃j,j+k=t.length/\i<=j/\SC wr b t j/\((t.take j).drop i).all bA=true/\aA [b] w wr)
 case atStart=>exact⟨i,by omega,by omega,H1,by rw[a0p (by simp;omega)];rfl,aA.refl _ _⟩
 case round =>
  obtain⟨j,hj,hij,hs,ja,bU⟩:=hrel;clear c1;have c0:=hs.c0;have c1:=hs.c1;have hf:=hs.fz 1;have Hs:Z_ (SC wr b t j):=hs;have DL:Z_ (aA [b] w wr):=bU;have mi:Z_ (((t.take j).drop i).all bA=true):=ja;clear hs ja bU;cases hn:Om (hd (t.drop j))
  ·have xX:l.takeWhile bA=(t.take j).drop i/\l.dropWhile bA=t.drop j:=by
    rw[<-H2.o,aez t i j hij (by omega)];refine IC _ _ mi.o ?_;intro c r' e;rw[e]at hn;exact hn
   have Bl:Z_ (l.takeWhile bA=(t.take j).drop i/\l.dropWhile bA=t.drop j):=xX;clear xX;have hx:=qF t;have fM:=bS t;go_wp2_with (first | (go_at_call 77;refine(jG _ _ _ _ Hs.o.at).mono ?_;rintro e w' ⟨rfl,n,rfl⟩)|(go_at_call 76;refine(tF _ _).mono ?_;rintro e w' ⟨rfl,rfl⟩))
   go_quiet (fail)
   go_wp2_with (go_at_call 78;refine(abG _ _ (by simp;omega)).mono ?_;rintro e w' ⟨rfl,rfl⟩)
   go_ret2;rw[Bl.o.1,Bl.o.2];exact⟨rfl,(Hs.o.drewN _).at,DL.o.drewN _⟩
  have qM:j<t.length:=by
   by_cases hx:j<t.length
   ·exact hx
   rw[a0p (by omega)]at hn;cases hn
  go_wp2_with (first | (go_at_call 77;refine(jG _ _ _ _ Hs.o.at).mono ?_;rintro e w' ⟨rfl,n,rfl⟩)|(go_at_call 76;refine(tF _ _).mono ?_;rintro e w' ⟨rfl,rfl⟩))
  go_roundg (gk-1)
  case measure=>omega
  case rel =>
   refine⟨j+1,by omega,by omega,?_,?_,?_⟩
   ·exact(Hs.o.drewN _).set (j+1) (by omega)
   ·rw[a0I qM,a2t (by simp;omega),a1L,mi.o]
    rw[BD t j qM]at hn;simp[bA,hn]
   exact(DL.o.drewN _).setCell (by simp) _
def fF(l:LB):UInt8 × Bool × LB :=
 match l with
 | []=>(0,false,[])
 | c::r=>if lI c then (c-48,true,r) else if 97<=c/\c<=102 then (c-97+10,true,r) else (0,false,c::r)
theorem u8i(c:UInt8):(0:Int)<=c.toNat/\(c.toNat:Int)<=255:=by have:=c.toNat_lt;omega
theorem aeA {k:IntKind} {x y:Int} {p q:Bool}(h:x=y)(h':p=q):Ending.returned (.tuple #[.int k x,.bool p])=.returned (.tuple #[.int k y,.bool q]):=by rw[h,h']
theorem at_set{l:LB} {c:UInt8}(h1:SC w b t i)(h2:t.drop i=c::r):At (w.setCell ⟨b,1,none⟩ (.int .i64 (i+1))) b t r:=by
 have jf:i<t.length:=by
  by_cases hx:i<t.length
  ·exact hx
  rw[a0p (by omega)]at h2;cases h2
 refine⟨i+1,h1.set (i+1) jf,?_⟩;have:=congrArg List.tail h2;rw[List.tail_drop]at this;exact this
theorem at_len {c:UInt8}(h2:t.drop i=c::r):i<t.length:=by
 by_cases hx:i<t.length
 ·exact hx
 rw[a0p (by omega)]at h2;cases h2
theorem Ao(b:Nat)(t l:LB)(w:World)(h:At w b t l) :
 Calls Tryz.prog 123 #[.pointer (some ⟨b,0,none⟩)] w λe w'=>e=.returned (.tuple #[.int .u8 ((fF l).1.toNat),.bool (fF l).2.1])/\At w' b t (fF l).2.2/\aA [b] w w':=by
 obtain⟨i,h1,h2⟩:=h;have c1:=h1.c1;have hf:=h1.fz 1;have hi:=h1.2.1;have ht:=h1.2.2;have H1:Z_ (SC w b t i):=h1;have H2:Z_ (List.drop i t=l):=h2;clear h1 h2;cases l with
 | nil =>
   have hn:kr (hd [])=false:=rfl;have h0:hd []=0:=rfl;go_enter Tryz.func123,Tryz.ntmps123
   go_wp2_with (first | (go_at_call 77;refine(jG _ _ _ _ ⟨i,H1,H2⟩).mono ?_;rintro e w' ⟨rfl,n,rfl⟩)|(go_at_call 91;refine(ig _ _).mono ?_;rintro e w' ⟨rfl,rfl⟩))
   go_ret2;exact⟨rfl,⟨i,H1.o.drewN _,H2⟩,(aA.refl _ _).drewN _⟩
 | cons c r =>
   have hc:=E4 c r;have hu:=u8i c;have jf:i<t.length:=at_len H2;cases hd:kr (c.toNat:Int)
   ·by_cases hx:97<=(c.toNat:Int)/\(c.toNat:Int)<=102
    ·obtain⟨hx1,hx2⟩:=hx
     have hs:Z_ (fF (c::r)=(c-97+10,true,r)):=by
      show fF (c::r)=(c-97+10,true,r);unfold fF;simp only[lI,hd];rw[a0g (by simp),a0j (by constructor<;>(rw[a1o];simp;omega))]
     go_enter Tryz.func123,Tryz.ntmps123
     go_wp2_with (first | (go_at_call 77;refine(jG _ _ _ _ ⟨i,H1,H2⟩).mono ?_;rintro e w' ⟨rfl,n,rfl⟩)|(go_at_call 91;refine(ig _ _).mono ?_;rintro e w' ⟨rfl,rfl⟩))
     go_ret2;rw[hs.o];refine⟨aeA ?_ rfl,at_set (l:=r) (H1.o.drewN _) H2,((aA.refl _ _).drewN _).setCell (by simp) _⟩;have:(c-97).toNat=c.toNat-97:=a3c _ _ (by rw[a1o];simp;omega);rw[UInt8.toNat_add,this];simp;omega
    have hs:Z_ (fF (c::r)=(0,false,c::r)):=by
     show fF (c::r)=(0,false,c::r);unfold fF;simp only[lI,hd];rw[a0g (by simp),a0g];rintro⟨h1,h2⟩;rw[a1o]at h1 h2;simp at h1 h2;omega
    go_enter Tryz.func123,Tryz.ntmps123
    go_wp2_with (first | (go_at_call 77;refine(jG _ _ _ _ ⟨i,H1,H2⟩).mono ?_;rintro e w' ⟨rfl,n,rfl⟩)|(go_at_call 91;refine(ig _ _).mono ?_;rintro e w' ⟨rfl,rfl⟩))
    all_goals first | (exfalso;omega)|skip
    all_goals
     go_ret2;rw[hs.o];exact⟨rfl,⟨i,H1.o.drewN _,H2⟩,(aA.refl _ _).drewN _⟩
   have hb:48<=(c.toNat:Int)/\(c.toNat:Int)<=57:=by simpa[kr] using hd
   obtain⟨mV,rD⟩:=hb;have hs:Z_ (fF (c::r)=(c-48,true,r)):=by
    show fF (c::r)=(c-48,true,r);unfold fF;simp only[lI,hd];rw[a0j trivial]
   go_enter Tryz.func123,Tryz.ntmps123
   go_wp2_with (first | (go_at_call 77;refine(jG _ _ _ _ ⟨i,H1,H2⟩).mono ?_;rintro e w' ⟨rfl,n,rfl⟩)|(go_at_call 91;refine(ig _ _).mono ?_;rintro e w' ⟨rfl,rfl⟩))
   go_ret2;rw[hs.o];refine⟨aeA ?_ rfl,at_set (l:=r) (H1.o.drewN _) H2,((aA.refl _ _).drewN _).setCell (by simp) _⟩;have:(c-48).toNat=c.toNat-48:=a3c _ _ (by rw[a1o];simp;omega);rw[this];omega
def Bn(l:LB):UInt8 × Bool × LB :=
 let a:=fF l
 let d:=fF a.2.2
 (a.1*16+d.1,a.2.1&&d.2.1,d.2.2)
theorem Zg(l:LB):(fF l).1.toNat<=15:=by
 unfold fF;cases l with
 | nil=>simp
 | cons c r =>
   dsimp only
   by_cases h:lI c=true
   ·rw[a0j h]
    have hb:48<=(c.toNat:Int)/\(c.toNat:Int)<=57:=by simpa[lI,kr] using h
    have:(c-48).toNat=c.toNat-48:=a3c _ _ (by rw[a1o];simp;omega);simp only[this];omega
   rw[a0g h]
   by_cases h2:97<=c/\c<=102
   ·rw[a0j h2]
    obtain⟨h3,h4⟩:=h2;rw[a1o]at h3 h4;simp at h3 h4;have:(c-97).toNat=c.toNat-97:=a3c _ _ (by rw[a1o];simp;omega);simp only[UInt8.toNat_add,this];simp;omega
   rw[a0g h2];simp
theorem Pd(b:Nat)(t l:LB)(w:World)(h:At w b t l) :
 Calls Tryz.prog 113 #[.pointer (some ⟨b,0,none⟩)] w λe w'=>e=.returned (.tuple #[.int .u8 ((Bn l).1.toNat),.bool (Bn l).2.1])/\At w' b t (Bn l).2.2/\aA [b] w w':=by
 have H:Z_ (At w b t l):=h;clear h;go_enter Tryz.func113,Tryz.ntmps113
 go_wp2_with fail
 refine(Ao _ _ _ _ H).mono ?_;rintro e w1 ⟨rfl,h1,aZ⟩;go_wp2_with fail
 refine(Ao _ _ _ _ h1).mono ?_;rintro e w2 ⟨rfl,h2,aS⟩;have hu:=u8i (fF l).1;have hv:=u8i (fF (fF l).2.2).1;have hle:=Zg l;have amb:=Zg (fF l).2.2;have Hx:Z_ (Bn l=((fF l).1*16+(fF (fF l).2.2).1,(fF l).2.1&&(fF (fF l).2.2).2.1,(fF (fF l).2.2).2.2)):=rfl;have H2:Z_ (At w2 b t (fF (fF l).2.2).2.2):=h2;have HF:Z_ (aA [b] w w2):=aZ.trans aS;clear h1 aZ h2 aS;generalize fF (fF l).2.2=d at *;generalize fF l=a at *;obtain⟨a1,a2,a3⟩:=a;obtain⟨d1,d2,d3⟩:=d;cases a2
 all_goals
  go_wp2;go_ret2;rw[Hx.o];refine⟨aeA ?_ (by simp),H2,HF⟩;rw[UInt8.toNat_add,UInt8.toNat_mul];simp;omega
def mW(l:LB):UInt8 × Bool × LB :=
 if aL [92,34] l then (34,true,aJ [92,34] l)
 else if aL [92,92] l then (92,true,aJ [92,92] l)
 else if aL [92,120] l then Bn (aJ [92,120] l)
 else match l with
  | []=>(0,false,[])
  | c::r=>if !(kZ c.toNat)||c==92 then (0,false,c::r) else (c,true,r)
theorem jc {wd l:LB}(h:aL wd l=false):aJ wd l=l:=by
 unfold aL at h;unfold aJ;rw[h];simp
theorem Kt(b:Nat)(t l:LB)(w:World)(h:At w b t l) :
 Calls Tryz.prog 104 #[.pointer (some ⟨b,0,none⟩)] w λe w'=>e=.returned (.tuple #[.int .u8 ((mW l).1.toNat),.bool (mW l).2.1])/\At w' b t (mW l).2.2/\aA [b] w w':=by
 have H:Z_ (At w b t l):=h;clear h;go_enter Tryz.func104,Tryz.ntmps104
 go_wp2_with fail
 refine(fV b t l [92,34] _ H.o (by simp)).mono ?_;rintro e w1 ⟨rfl,h1,aZ⟩;cases gM:aL [92,34] l
 case true =>
  have Hx:Z_ (mW l=(34,true,aJ [92,34] l)):=by
   show mW l=_;unfold mW;rw[gM];rfl
  have H1:Z_ (At w1 b t (aJ [92,34] l)/\aA [b] w w1):=⟨h1,aZ⟩;clear h1 aZ;go_wp2;go_ret2;rw[Hx.o];exact⟨rfl,H1.o.1,H1.o.2⟩
 case false =>
 rw[jc gM]at h1;have H1:Z_ (At w1 b t l):=h1;have qy:Z_ (aA [b] w w1):=aZ;have T1:Z_ (aL [92,34] l=false):=gM;clear h1 aZ;go_wp2_with fail
 refine(fV b t l [92,92] _ H1.o (by simp)).mono ?_;rintro e w2 ⟨rfl,h2,aS⟩;have xY:Z_ (aA [b] w w2):=qy.o.trans aS;clear aS gM;cases DN:aL [92,92] l
 case true =>
  have Hx:Z_ (mW l=(92,true,aJ [92,92] l)):=by
   show mW l=_;unfold mW;rw[T1.o,DN];rfl
  have H2:Z_ (At w2 b t (aJ [92,92] l)):=h2;clear h2;go_wp2;go_ret2;rw[Hx.o];exact⟨rfl,H2,xY⟩
 case false =>
 rw[jc DN]at h2;have H2:Z_ (At w2 b t l):=h2;have T2:Z_ (aL [92,92] l=false):=DN;clear h2;go_wp2_with fail
 refine(fV b t l [92,120] _ H2.o (by simp)).mono ?_;rintro e w3 ⟨rfl,h3,bZ⟩;have UZ:Z_ (aA [b] w w3):=xY.o.trans bZ;clear bZ DN;cases iJ:aL [92,120] l
 case true =>
  have Hx:Z_ (mW l=Bn (aJ [92,120] l)):=by
   show mW l=_;unfold mW;rw[T1.o,T2.o,iJ];rfl
  have H3:Z_ (At w3 b t (aJ [92,120] l)):=h3;clear h3;go_wp2_with fail
  refine(Pd b t _ _ H3).mono ?_;rintro e w4 ⟨rfl,h4,nR⟩;have H4:Z_ (At w4 b t (Bn (aJ [92,120] l)).2.2):=h4;have HF4:Z_ (aA [b] w w4):=UZ.o.trans nR;clear h4 nR;go_wp2;go_ret2;rw[Hx.o];exact⟨rfl,H4,HF4⟩
 case false =>
 rw[jc iJ]at h3;have T3:Z_ (aL [92,120] l=false):=iJ;obtain⟨i,h5,h6⟩:=h3;have c1:=h5.c1;have hf:=h5.fz 1;have hi:=h5.2.1;have ht:=h5.2.2;have H5:Z_ (SC w3 b t i):=h5;have H6:Z_ (List.drop i t=l):=h6;clear h5 h6 iJ;cases l with
 | nil =>
   have hn:kZ 0=false:=rfl;have h0:hd []=0:=rfl;go_wp2_with (first | (go_at_call 77;refine(jG _ _ _ _ ⟨i,H5,H6⟩).mono ?_;rintro e w' ⟨rfl,n,rfl⟩)|(go_at_call 114;refine(yE _ _).mono ?_;rintro e w' ⟨rfl,rfl⟩))
   go_ret2;exact⟨rfl,⟨i,H5.o.drewN _,H6⟩,UZ.o.drewN _⟩
 | cons c r =>
   have hc:=E4 c r;have hu:=u8i c;have jf:i<t.length:=at_len H6
   by_cases hx:kZ c.toNat=true/\((c.toNat:Int)==92)=false
   ·obtain⟨hp,oN⟩:=hx
    have Hx:Z_ (mW (c::r)=(c,true,r)):=by
     show mW (c::r)=_;unfold mW;rw[T1.o,T2.o,T3.o];have:(c==92)=false:=by
      rw[a0k]at oN |-;intro e;subst e;exact oN rfl
     simp[hp,this]
    go_wp2_with (first | (go_at_call 77;refine(jG _ _ _ _ ⟨i,H5,H6⟩).mono ?_;rintro e w' ⟨rfl,n,rfl⟩)|(go_at_call 114;refine(yE _ _).mono ?_;rintro e w' ⟨rfl,rfl⟩))
    go_ret2;rw[Hx.o];exact⟨rfl,at_set (l:=r) (H5.o.drewN _) H6,(UZ.o.drewN _).setCell (by simp) _⟩
   have Hx:Z_ (mW (c::r)=(0,false,c::r)):=by
    show mW (c::r)=_;unfold mW;rw[T1.o,T2.o,T3.o]
    by_cases hp:kZ c.toNat=true
    ·have oN:c=92:=by
      by_cases e:c=92
      ·exact e
      exact absurd ⟨hp,a0k.2 (λh=>e (a1w.1 (by simpa using(a2P.1 h))))⟩ hx
     simp[oN]
    simp[hp]
   have U0:kZ c.toNat=false\/((c.toNat:Int)==92)=true:=by
    cases h1:kZ c.toNat<;>cases h2:((c.toNat:Int)==92)<;>simp_all
   clear hx;rcases U0 with hp|oN
   ·go_wp2_with (first | (go_at_call 77;refine(jG _ _ _ _ ⟨i,H5,H6⟩).mono ?_;rintro e w' ⟨rfl,n,rfl⟩)|(go_at_call 114;refine(yE _ _).mono ?_;rintro e w' ⟨rfl,rfl⟩))
    go_ret2;rw[Hx.o];exact⟨rfl,⟨i,H5.o.drewN _,H6⟩,UZ.o.drewN _⟩
   cases hp:kZ c.toNat
   all_goals
    go_wp2_with (first | (go_at_call 77;refine(jG _ _ _ _ ⟨i,H5,H6⟩).mono ?_;rintro e w' ⟨rfl,n,rfl⟩)|(go_at_call 114;refine(yE _ _).mono ?_;rintro e w' ⟨rfl,rfl⟩))
    go_ret2;rw[Hx.o];exact⟨rfl,⟨i,H5.o.drewN _,H6⟩,UZ.o.drewN _⟩
def qN:Nat->LB->LB->LB × Bool × LB
 | 0,_,l=>([],false,l)
 | n+1,acc,l =>
   if aL [34] l then (acc,true,aJ [34] l)
   else if !(mW l).2.1||decide (40<=acc.length) then ([],false,(mW l).2.2)
   else qN n (acc++[(mW l).1]) (mW l).2.2
def nS(l:LB):LB × Bool × LB :=
 if aL [34] l then qN (l.length+1) [] (aJ [34] l) else ([],false,l)
theorem agZ(wd l:LB):(aJ wd l).length<=l.length:=by unfold aJ;split<;>simp
theorem U4(l:LB):(fF l).2.2.length<=l.length:=by
 unfold fF;cases l with
 | nil=>simp
 | cons c r =>
   dsimp only
   split
   ·simp
   split<;>simp
theorem aeB(l:LB):(Bn l).2.2.length<=l.length:=a0e (U4 _) (U4 _)
theorem Ku {wd l:LB}(h:aL wd l=true):(aJ wd l).length+wd.length=l.length:=by
 unfold aL at h;have:=(a2e.1 h).length_le;unfold aJ;rw[a0j h];simp;omega
theorem aiO(l:LB)(h:(mW l).2.1=true):(mW l).2.2.length<l.length:=by
 unfold mW at h |-
 by_cases h1:aL [92,34] l=true
 ·rw[a0j h1];have:=Ku h1;simp at this |-;omega
 rw[a0g h1]at h |-
 by_cases h2:aL [92,92] l=true
 ·rw[a0j h2];have:=Ku h2;simp at this |-;omega
 rw[a0g h2]at h |-
 by_cases h3:aL [92,120] l=true
 ·rw[a0j h3];have:=Ku h3;have:=aeB (aJ [92,120] l);simp at *;omega
 rw[a0g h3]at h |-;cases l with
 | nil=>simp at h
 | cons c r =>
   dsimp only at h |-
   split at h
   ·simp at h
   rename_i hx;rw[a0g hx];simp
theorem U7(b:Nat)(t l:LB)(w:World)(h:At w b t l) :
 Calls Tryz.prog 95 #[.pointer (some ⟨b,0,none⟩)] w λe w'=>e=.returned (.tuple #[.string (bs (nS l).1),.bool (nS l).2.1])/\At w' b t (nS l).2.2/\aA [b] w w':=by
 have hb:=h.lt;have H:Z_ (At w b t l):=h;clear h;obtain⟨i0,hi,iA,fT,gF⟩:=info_parts afy;go_enter Tryz.func95,Tryz.ntmps95
 go_wp2_with fail
 refine(fV b t l [34] _ H.o (by simp)).mono ?_;rintro e w1 ⟨rfl,h1,aZ⟩;cases gM:aL [34] l
 case false =>
  have Hx:Z_ (nS l=([],false,l)):=by
   show nS l=_;unfold nS;rw[gM];rfl
  rw[jc gM]at h1;have H1:Z_ (At w1 b t l/\aA [b] w w1):=⟨h1,aZ⟩;clear h1 aZ;go_wp2;go_ret2;rw[Hx.o];exact⟨rfl,H1.o.1,H1.o.2⟩
 case true =>
 have Hx:Z_ (nS l=qN (l.length+1) [] (aJ [34] l)):=by
  show nS l=_;unfold nS;rw[gM];rfl
 have lK:=aZ.size;have H1:Z_ (At w1 b t (aJ [34] l)/\aA [b] w w1):=⟨h1,aZ⟩;clear h1 aZ;go_wp2_with fail
 go_loopg [4] (l.length+1) (λk v wr=>∃acc l' g cap,v=.slice (some ⟨g,0,none⟩) acc.length cap/\wr.ownsRow w.heap.size 5 1 v acc.length (byt acc)/\acc.length<=40/\l'.length<k/\qN k acc l'=qN (l.length+1) [] (aJ [34] l)/\At wr b t l'/\aA [b] w wr)
 case atStart =>
  refine⟨[],aJ [34] l,_,_,rfl,?_,by simp,Nat.lt_succ_of_le (agZ _ _),rfl,H1.o.1.aB (S:=[]) ((aA.refl _ _).alloc _) (by simp),H1.o.2.alloc _⟩;exact World.ownsRow_lit _ #[] 0 lK (by unfold maxLen;omega) (by simp)
 case round =>
  obtain⟨acc,l',g,cap,rfl,aQ,U9,Kv,hv,aX,bU⟩:=hrel;have Ho:Z_ (wr.ownsRow w.heap.size 5 1 (.slice (some ⟨g,0,none⟩) acc.length cap) acc.length (byt acc)):=aQ;have Hv:Z_ (qN gk acc l'=qN (l.length+1) [] (aJ [34] l)):=hv;have Ha:Z_ (At wr b t l'):=aX;have Hf:Z_ (aA [b] w wr):=bU;clear aQ hv aX bU;obtain⟨m,rfl⟩:∃m,gk=m+1:=⟨gk-1,by omega⟩;go_wp2_with fail
  refine(fV b t l' [34] _ Ha.o (by simp)).mono ?_;rintro e w2 ⟨rfl,h2,aS⟩;cases DN:aL [34] l'
  case true =>
   have gI:Z_ (nS l=(acc,true,aJ [34] l')):=by
    show nS l=_;rw[Hx.o,<-Hv.o];unfold qN;rw[DN];rfl
   have H2:Z_ (At w2 b t (aJ [34] l')/\aA [b] w w2):=⟨h2,Hf.o.trans aS⟩;have aiP:=ek Ho.o aS (by simp;omega);have hlen:acc.length=(acc).length:=rfl;have hcv:=run_convert_bytes_back (P:=Tryz.prog) w2 184 9 5 ⟨g,0,none⟩ cap acc Tryz.underlying184 Tryz.underlying5 Tryz.underlying9 (λj hj=>by
    refine aiP.cells rfl j _ ?_;simp[byt,hj])
   clear h2 aS aiP;go_wp2;go_ret2;rw[gI.o];exact⟨rfl,H2.o.1,H2.o.2⟩
  case false =>
  rw[jc DN]at h2;have H2:Z_ (At w2 b t l'):=h2;have l8:Z_ (aA [b] w w2):=Hf.o.trans aS;have Ho2:Z_ (w2.ownsRow w.heap.size 5 1 (.slice (some ⟨g,0,none⟩) acc.length cap) acc.length (byt acc)):=ek Ho.o aS (by simp;omega);have T2:Z_ (aL [34] l'=false):=DN;clear h2 aS Ha Hf Ho;go_wp2_with fail
  refine(Kt b t l' _ H2).mono ?_;rintro e w3 ⟨rfl,h3,bZ⟩;have H3:Z_ (At w3 b t (mW l').2.2):=h3;have Kw:Z_ (aA [b] w w3):=l8.o.trans bZ;have Ho3:Z_ (w3.ownsRow w.heap.size 5 1 (.slice (some ⟨g,0,none⟩) acc.length cap) acc.length (byt acc)):=ek Ho2.o bZ (by simp;omega);have MM:=Kw.o.size;clear h3 bZ H2 l8 Ho2 DN;cases jT:(mW l').2.1
  case false =>
   have gI:Z_ (nS l=([],false,(mW l').2.2)):=by
    show nS l=_;rw[Hx.o,<-Hv.o];unfold qN;rw[T2.o,jT];rfl
   go_wp2;go_ret2;rw[gI.o];exact⟨rfl,H3,Kw⟩
  case true =>
  have Dy:=aiO l' jT
  by_cases Bg:40<=acc.length
  ·have gI:Z_ (nS l=([],false,(mW l').2.2)):=by
    show nS l=_;rw[Hx.o,<-Hv.o];unfold qN;rw[T2.o,jT];simp[Bg]
   go_wp2;go_ret2;rw[gI.o];exact⟨rfl,H3,Kw⟩
  have Hv2:Z_ (qN m (acc++[(mW l').1]) (mW l').2.2=qN (l.length+1) [] (aJ [34] l)):=by
   show qN m (acc++[(mW l').1]) (mW l').2.2=_;rw[<-Hv.o];conv=>rhs;unfold qN
   rw[T2.o,jT];simp[Bg]
  clear Hv T2;generalize hsv:mW l'=x at *;obtain⟨x1,x2,x3⟩:=x;simp only at jT Dy Hv2 H3;subst jT;have anw:=Ho3.o;go_wp2_with (first | (at_builtin;refine wpList_append_own _ rfl _ _ 184 rfl w.heap.size 5 i0 (.int .u8 0) 1 1 Tryz.underlying184 hi iA fT gF rfl (by decide) (.slice (some ⟨g,0,none⟩) acc.length cap) _ _ rfl (anw.alloc _) ⟨w3.heap.size,0,none⟩ 1 1 [.int .u8 x1.toNat] rfl rfl (cell_one_new _ _ _) (λx hx=>by simp at hx;subst hx;rfl) (by unfold maxLen;omega) (by omega) (by simp;omega) ?_;intro v' w4 bF MN anx))
  go_roundg m
  case measure=>omega
  case rel =>
   obtain⟨g',xJ,hv'⟩:=On bF (λe=>by have:=anx.1 e;simp at this);subst hv';refine⟨acc++[x1],x3,g',xJ,by simp,?_,by simp;omega,by omega,Hv2,?_,?_⟩
   ·simpa[byt] using bF
   ·refine At.aB (S:=[g]) ?_ (aA.yR (w:=w3.alloc (.cells #[.int .u8 x1.toNat] 5)) MN) ?_
    ·exact H3.o.aB (S:=[]) ((aA.refl _ _).alloc _) (by simp)
    have:=(Ho3.o.lt g rfl).1;simp;omega
   exact(Kw.o.alloc _).grown MN (λk hk=>by
    simp[Value.ownBlock]at hk;subst hk;exact Or.inr (Ho3.o.lt g rfl).1)
def rO:LB->Nat->Nat × Bool × LB
 | [],n=>(n,true,[])
 | c::r,n=>if lI c then (if 99999<n*10+(c.toNat-48) then (0,false,c::r) else rO r (n*10+(c.toNat-48))) else (n,true,c::r)
def jU(l:LB):Nat × Bool × LB :=
 if aL [48] l then (0,true,aJ [48] l) else if !(kr (hd l)) then (0,false,l) else rO l 0
theorem Sq(b:Nat)(t l:LB)(w:World)(h:At w b t l) :
 Calls Tryz.prog 93 #[.pointer (some ⟨b,0,none⟩)] w λe w'=>e=.returned (.tuple #[.int .i64 (jU l).1,.bool (jU l).2.1])/\At w' b t (jU l).2.2/\aA [b] w w':=by
 have H:Z_ (At w b t l):=h;clear h;go_enter Tryz.func93,Tryz.ntmps93
 go_wp2_with fail
 refine(fV b t l [48] _ H.o (by simp)).mono ?_;rintro e w1 ⟨rfl,h1,aZ⟩;cases gM:aL [48] l
 case true =>
  have Hx:Z_ (jU l=(0,true,aJ [48] l)):=by
   show jU l=_;unfold jU;rw[gM];rfl
  have H1:Z_ (At w1 b t (aJ [48] l)/\aA [b] w w1):=⟨h1,aZ⟩;clear h1 aZ;go_wp2;go_ret2;rw[Hx.o];exact⟨rfl,H1.o.1,H1.o.2⟩
 case false =>
 rw[jc gM]at h1;have H1:Z_ (At w1 b t l):=h1;have qy:Z_ (aA [b] w w1):=aZ;have T1:Z_ (aL [48] l=false):=gM;clear h1 aZ gM;go_wp2_with fail
 refine(jG b t l _ H1).mono ?_;rintro e w' ⟨rfl,n,rfl⟩;cases BF:kr (hd l)
 case false =>
  have Hx:Z_ (jU l=(0,false,l)):=by
   show jU l=_;unfold jU;rw[T1.o,BF];rfl
  go_wp2_with (go_at_call 91;refine(ig _ _).mono ?_;rintro e w' ⟨rfl,rfl⟩)
  go_ret2;rw[Hx.o];exact⟨rfl,H1.o.aB (S:=[]) ((aA.refl _ _).drewN _) (by simp),qy.o.drewN _⟩
 case true =>
 have Hx:Z_ (jU l=rO l 0):=by
  show jU l=_;unfold jU;rw[T1.o,BF];rfl
 go_wp2_with (go_at_call 91;refine(ig _ _).mono ?_;rintro e w' ⟨rfl,rfl⟩)
 go_loopg [4] l.length (λk v wr=>∃(l':LB) (x:Nat),v=.int .i64 x/\x<=99999/\l'.length<=k/\rO l' x=rO l 0/\At wr b t l'/\aA [b] w wr)
 case atStart=>exact⟨l,0,rfl,by omega,a0a _,rfl,H1.o.aB (S:=[]) ((aA.refl _ _).drewN _) (by simp),qy.o.drewN _⟩
 case round =>
  obtain⟨l',x,rfl,hx,Kv,hv,⟨i,h5,h6⟩,bU⟩:=hrel;have c1:=h5.c1;have hf:=h5.fz 1;have hi:=h5.2.1;have ht:=h5.2.2;have H5:Z_ (SC wr b t i):=h5;have H6:Z_ (List.drop i t=l'):=h6;have Hv:Z_ (rO l' x=rO l 0):=hv;have Hf:Z_ (aA [b] w wr):=bU;clear h5 h6 hv bU H1 qy BF;cases l' with
  | nil =>
    have hn:kr (hd [])=false:=rfl;have h0:hd []=0:=rfl;have gI:Z_ (jU l=(x,true,[])):=by show jU l=_;rw[Hx.o,<-Hv.o];rfl
    go_wp2_with (first | (go_at_call 77;refine(jG _ _ _ _ ⟨i,H5,H6⟩).mono ?_;rintro e w' ⟨rfl,n,rfl⟩)|(go_at_call 91;refine(ig _ _).mono ?_;rintro e w' ⟨rfl,rfl⟩))
    go_ret2;rw[gI.o];exact⟨rfl,⟨i,H5.o.drewN _,H6⟩,Hf.o.drewN _⟩
  | cons c r =>
    have hc:=E4 c r;have hu:=u8i c;have jf:i<t.length:=at_len H6;cases nA:kr (c.toNat:Int)
    case false =>
     have gI:Z_ (jU l=(x,true,c::r)):=by
      show jU l=_;rw[Hx.o,<-Hv.o];unfold rO;simp[lI,nA]
     go_wp2_with (first | (go_at_call 77;refine(jG _ _ _ _ ⟨i,H5,H6⟩).mono ?_;rintro e w' ⟨rfl,n,rfl⟩)|(go_at_call 91;refine(ig _ _).mono ?_;rintro e w' ⟨rfl,rfl⟩))
     go_ret2;rw[gI.o];exact⟨rfl,⟨i,H5.o.drewN _,H6⟩,Hf.o.drewN _⟩
    case true =>
     have hb:48<=(c.toNat:Int)/\(c.toNat:Int)<=57:=by simpa[kr] using nA
     obtain⟨mV,rD⟩:=hb;have Va:rO (c::r) x=(if 99999<x*10+(c.toNat-48) then (0,false,c::r) else rO r (x*10+(c.toNat-48))):=by
      conv=>lhs;unfold rO
      simp[lI,nA]
     have Hun:Z_ (rO (c::r) x=(if 99999<x*10+(c.toNat-48) then (0,false,c::r) else rO r (x*10+(c.toNat-48)))):=Va;clear Va;simp only[a0o]at Kv
     by_cases amc:99999<x*10+(c.toNat-48)
     ·have gI:Z_ (jU l=(0,false,c::r)):=by
       show jU l=_;rw[Hx.o,<-Hv.o,Hun.o,a0j amc]
      have hbi:(99999:Int)<(x:Int)*10+((c.toNat:Int)-48):=by omega
      go_wp2_with (first | (go_at_call 77;refine(jG b t (c::r) _ (At.aB (S:=[]) ⟨i,H5,H6⟩ (by first | exact aA.refl _ _|exact(aA.refl _ _).drewN _) (by simp))).mono ?_;rintro e w' ⟨rfl,n,rfl⟩)|(go_at_call 91;refine(ig _ _).mono ?_;rintro e w' ⟨rfl,rfl⟩))
      go_ret2;rw[gI.o];exact⟨rfl,⟨i,H5.o.drewN _,H6⟩,Hf.o.drewN _⟩
     have Hv2:Z_ (rO r (x*10+(c.toNat-48))=rO l 0):=by
      show rO r _=_;rw[<-Hv.o,Hun.o,a0g amc]
     have hbi:(x:Int)*10+((c.toNat:Int)-48)<=99999:=by omega
     go_wp2_with (first | (go_at_call 77;refine(jG b t (c::r) _ (At.aB (S:=[]) ⟨i,H5,H6⟩ (by first | exact aA.refl _ _|exact(aA.refl _ _).drewN _) (by simp))).mono ?_;rintro e w' ⟨rfl,n,rfl⟩)|(go_at_call 91;refine(ig _ _).mono ?_;rintro e w' ⟨rfl,rfl⟩))
     go_roundg (gk-1)
     case measure=>omega
     case rel =>
      refine⟨r,x*10+(c.toNat-48),?_,by omega,by omega,Hv2,at_set (l:=r) (H5.o.drewN _) H6,(Hf.o.drewN _).setCell (by simp) _⟩
      congr 1;omega
end Go.Proofs.YtgbdcmpmmkfbhaaGreat
