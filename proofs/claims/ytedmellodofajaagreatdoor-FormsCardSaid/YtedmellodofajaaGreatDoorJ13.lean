import Derived.Test.YtedmellodofajaaGreatDoorJ12
import Derived.Deep.DeepCutAuto
import Derived.Deep.CutBlock
import Derived.Test.YtedmellodofajaaGreatDoorJ1
import Derived.Laws.MakeOwn
set_option linter.unusedVariables false
set_option linter.unusedSimpArgs false
set_option linter.unnecessarySimpa false
set_option linter.defProp false
set_option maxRecDepth 100000
set_option maxHeartbeats 8000000
namespace Go.Proofs.YtedmellodofajaaGreatDoor
open Go.RowKit
section
variable {L:List LB} {x:LB} {b g gg j k kb n:Nat} {l:List bX} {α:Type} {w w' w0 w1 w4:World} {v:Value} {A S Z:LN} {sa:List gz} {V V' V1 V2:V6} {s s':CS}
def asA(a:j<L.length)(h:∀i (b:i<j),(L[i]==x)=false)(he:(L[j]==x)=true):iL L x=j:=by grind [iL,List.findIdx_eq]
def anx(h:∀i (a:i<L.length),(L[i]==x)=false):iL L x=L.length:=by grind [iL]
theorem Eg(L:List LB)(x:LB):iL L x<=L.length:=a2U
def asB {L:List jd} {x:jd}(a:j<L.length)(h:∀i (b:i<j),QE L[i] x=false)(he:QE L[j] x=true):C6 L x=j:=by grind [C6,List.findIdx_eq]
def anz {L:List jd} {x:jd}(h:∀i (a:i<L.length),QE L[i] x=false):C6 L x=L.length:=by grind [C6]
theorem alT(L:List jd)(x:jd):C6 L x<=L.length:=a2U
def GL(l:List bX):Prop:=∀i (h:i<l.length),l[i].op=0\/(l[i].op=1/\l[i].a<i)\/(l[i].op=2/\l[i].a<i/\l[i].b<i)
theorem GL.snoc {x:bX}(h:GL l)(e:x.op=0\/(x.op=1/\x.a<l.length)\/(x.op=2/\x.a<l.length/\x.b<l.length)):GL (l++[x]):=by
 intro i d;simp at d
 by_cases c:i<l.length
 .rw[List.getElem_append_left c];exact h i c
 grind
def uL(h:GL l){y:Nat}(a:y<l.length)(b:n<l.length):∀q:List (Nat × Bool),GL (bR q y n l).2/\(bR q y n l).1<(bR q y n l).2.length/\(bR q y n l).2.length=l.length+q.length
 | []=>⟨h,a,rfl⟩
 | c::r=>by
   obtain⟨d,f,e⟩:=uL h a b r;refine⟨?_,by simp[bR],by simp[bR];omega⟩;rw[bR];refine d.snoc ?_
   split
   .grind
   grind
def RG(rec:Nat->Nat->List bX->Nat × List bX):Prop:=∀c d l,GL l->d<l.length->GL (rec c d l).2/\(rec c d l).1<(rec c d l).2.length/\l.length<=(rec c d l).2.length
def IW {rec:Nat->Nat->List bX->Nat × List bX}(e:RG rec)(C:List CR)(q:List (List (Nat × Bool))) {d:Nat}(h:GL l)(hd:d<l.length):∀K:LN,
 GL (ji rec C q d l K).2.2/\(ji rec C q d l K).1<(ji rec C q d l K).2.2.length/\l.length<=(ji rec C q d l K).2.2.length/\(∀b∈(ji rec C q d l K).2.1,b<(ji rec C q d l K).2.2.length)/\(ji rec C q d l K).2.1.length=K.length
 | []=>⟨h,hd,a0b _,by simp[ji],rfl⟩
 | c::r=>by
   obtain⟨i,o,n,g,f⟩:=IW e C q h hd r;rw[ji];generalize ji rec C q d l r=x at *;obtain⟨k,j,p⟩:=e c (if (C[c]?.map (·.co))=some true then x.1 else d) x.2.2 i (by split<;>omega);generalize rec c (if (C[c]?.map (·.co))=some true then x.1 else d) x.2.2=b at *;obtain⟨k1,k2,m⟩:=uL k j (by omega:x.1<b.2.length) (q.getD c []);refine⟨k1,k2,by show l.length<=(bR _ _ _ _).2.length;omega,?_,by simp[f]⟩;intro y a;show y<(bR _ _ _ _).2.length;rcases a0l.1 a with rfl|a
   .omega
   have:=g y a;omega
def QF(q:List (List (Nat × Bool))) {first:Nat}(h:GL l)(a:first < l.length):∀Z:List (Nat × Nat),(∀z∈Z,z.2<l.length)->GL (lS q first l Z).2/\(lS q first l Z).1<(lS q first l Z).2.length/\l.length<=(lS q first l Z).2.length
 | [],_=>⟨h,a,a0b _⟩
 | z::r,hz=>by
   obtain⟨d,c,f⟩:=QF q h a r (λy b=>hz y (by simp[b]));have:=hz z (by simp);rw[lS];generalize lS q first l r=x at *
   obtain⟨k1,k2,e⟩:=uL d (by omega:z.2<x.2.length) c (q.getD z.1 []);exact⟨k1,k2,by omega⟩
def C9(C:List CR)(q:List (List (Nat × Bool))):∀f,RG (ig C q f)
 | 0=>λc d l h hd=>⟨h,hd,a0b _⟩
 | f+1=>λr d l h hd=>by
   obtain⟨e,j,i,b,g⟩:=IW (C9 C q f) C q h hd (kids C r);rw[ig];generalize ji (ig C q f) C q d l (kids C r)=x at *;obtain⟨k1,k2,a⟩:=QF q (first:=x.2.2.length) (l:=x.2.2++[⟨1,r,d,0⟩]) (e.snoc (.inr (.inl ⟨rfl,by show d<_;omega⟩))) (by simp) ((kids C r).zip x.2.1) (by intro z hz;have:=b z.2 (List.of_mem_zip hz).2;simp;omega)
   exact⟨k1,k2,by simp at a;omega⟩
theorem QG(l:List bX):∀i R N c,(mG l i R N c).length=N.length
 | 0,_,_,_=>rfl
 | i+1,R,N,c=>by
   rw[mG]
   split
   .split
    .rw[QG];simp
    rfl
   rw[QG];simp
def OM(i:Nat)(R:List Bool)(N:List Int)(t:Nat):Prop:=if t<i then R.getD t false=true else 0<=N.getD t 0
def ad3(l:List bX)(i:Nat)(R:List Bool)(N:List Int):Prop:=∀j x,i<=j->l[j]?=some x->0<=N.getD j 0->(x.op≠0->OM i R N x.a)/\(x.op=2->OM i R N x.b)
theorem getD_set_ne(L:List α)(i j:Nat)(x d:α)(h:i≠j):(L.set i x).getD j d=L.getD j d:=by simp[List.getD,List.getElem?_set_ne h]
theorem yg(L:List α)(i:Nat)(x d:α)(h:i<L.length):(L.set i x).getD i d=x:=by simp[List.getD,h]
theorem LG(p:GL l):∀i (R:List Bool) (N:List Int) (c:Nat),i<=l.length->R.length=l.length->N.length=l.length->ad3 l i R N->ad3 l 0 R (mG l i R N c)
 | 0,R,N,c,_,_,_,h=>h
 | i+1,R,N,c,E,r,z,h=>by
   rw[mG];obtain⟨x,n⟩:∃x,l[i]?=some x:=⟨l[i],a0a (by omega)⟩;have o:=p i (by omega);have D:l[i]'(by omega)=x:=by rw[a0a (by omega)]at n;exact Option.some.inj n
   rw[D]at o;have step:∀(e:List Bool) (v:Int),e.length=l.length->(∀t,R.getD t false=true->e.getD t false=true)->(R.getD i false=true->0<=v)->∀t,OM (i+1) R N t->OM i e (N.set i v) t:=by grind [OM,yg,getD_set_ne]
   split
   .rename_i k
    simp only[n];have fin:∀e:List Bool,e.length=l.length->(∀t,R.getD t false=true->e.getD t false=true)->(x.op≠0->e.getD x.a false=true)->(x.op=2->e.getD x.b false=true)->ad3 l 0 R (mG l i e (N.set i (c:Int)) (c+1)):=by
     intro e m u B hb;have s:ad3 l i e (N.set i (c:Int)):=by
      intro j y C g d
      by_cases w:j=i
      .subst w
       rw[n]at g;cases g
       constructor
       .intro ho
        unfold OM;rw[a0m (by rcases o with f|f|f;exact absurd f ho;exact f.2;exact f.2.1)];exact B ho
       intro ho;unfold OM;rw[a0m (by rcases o with f|f|f;omega;omega;exact f.2.2)];exact hb ho
      rw[getD_set_ne _ _ _ _ _ (by omega)]at d;obtain⟨k1,k2⟩:=h j y (by omega) g d;exact⟨λho=>step e c m u (λ_=>by omega) _ (k1 ho),λho=>step e c m u (λ_=>by omega) _ (k2 ho)⟩
     have:=LG p i e (N.set i (c:Int)) (c+1) (by omega) m (by simp[z]) s;intro j y A g d;obtain⟨k1,k2⟩:=this j y A g d;exact⟨λho=>by simpa[OM] using k1 ho,λho=>by simpa[OM] using k2 ho⟩
    by_cases A:x.op=0
    .grind
    grind
   rename_i k
   have s:ad3 l i R (N.set i (-1)):=by
    intro j y C g d
    by_cases w:j=i
    .grind
    rw[getD_set_ne _ _ _ _ _ (by omega)]at d;obtain⟨k1,k2⟩:=h j y (by omega) g d;exact⟨λho=>step R (-1) r (λt ht=>ht) (λq=>absurd q k) _ (k1 ho),λho=>step R (-1) r (λt ht=>ht) (λq=>absurd q k) _ (k2 ho)⟩
   exact LG p i R (N.set i (-1)) c (by omega) r (by simp[z]) s
def Eh(l:List bX)(first:Nat):(numsOf l first).length=l.length:=by unfold numsOf;rw[QG];simp
def IY(c:GL l)(first:Nat)(j:Nat)(x:bX)(d:l[j]?=some x)(e:0<=(numsOf l first).getD j 0):(x.op≠0->0<=(numsOf l first).getD x.a 0)/\(x.op=2->0<=(numsOf l first).getD x.b 0):=by grind [ad3,LG,numsOf,OM]
structure RD where
 ty:TypeId
 k:Nat
 v:Value
 vs:List (List Value)
structure RWS(base:Nat)(w:World)(rs:List RD):Prop where
 o:∀(i:Nat) (r:RD),rs[i]?=some r->OW r.ty r.k base w r.v r.vs
 d:∀(i j:Nat) (r s:RD),i≠j->rs[i]?=some r->rs[j]?=some s->∀g,r.v.ownBlock=some g->s.v.ownBlock≠some g
def owns(rs:List RD):LN:=rs.flatMap λr=>r.v.ownBlock.toList
theorem oK {rs:List RD}:g∈owns rs↔∃(i:Nat) (r:RD),rs[i]?=some r/\r.v.ownBlock=some g:=by
 unfold owns;rw[a1l]
 constructor
 .rintro⟨r,a,c⟩
  obtain⟨i,b,rfl⟩:=a3f.1 a;exact⟨i,rs[i],a0a b,by simpa using c⟩
 grind
def OW.awU {e:TypeId}{base:Nat} {vs:List (List Value)} {row:Option Nat}(h:OW e k base w v vs)(d:w.grownBy w' row)(hb:∀g,row=some g->v.ownBlock≠some g):OW e k base w' v vs:=by
 refine⟨⟨h.1.1,?_⟩,h.2⟩;rcases h.1.2 with c|⟨g,cap,cur,rfl,b,a,rest⟩
 .exact .inl c
 refine .inr ⟨g,cap,cur,rfl,b,?_,rest⟩;rw[d.block g (a0c.1 a).1 (λe=>hb g e.symm rfl)];exact a
theorem RWS.aC {base:Nat} {rs:List RD}(h:RWS base w rs)(f:aB S w w')(b:∀g∈S,g<base):RWS base w' rs:=⟨λi r a=>(h.o i r a).aC f b,h.d⟩
def RWS.grow{base:Nat} {rs:List RD}(h:RWS base w rs)(i:Nat) {r r':RD}(n:rs[i]?=some r)(z:w.grownBy w' r.v.ownBlock)(ho:OW r'.ty r'.k base w' r'.v r'.vs)(hb:r'.v.ownBlock=some gg)(l:r.v.ownBlock=some gg\/gg=w.heap.size):RWS base w' (rs.set i r'):=by
 have C:i<rs.length:=(a0d.1 n).1;have get:∀(j:Nat) (s:RD),(rs.set i r')[j]?=some s->(j=i/\s=r')\/(j≠i/\rs[j]?=some s):=by grind
 have B:∀(j:Nat) (s:RD),j≠i->rs[j]?=some s->s.v.ownBlock≠some gg:=by
  intro j s f c e;rcases l with l|l
  .exact h.d i j r s (λk=>f k.symm) n c gg l e
  have:=(h.o j s c).lt e;omega
 refine⟨λj s c=>?_,λj k a b q f x g p=>?_⟩
 .rcases get j s c with⟨_,rfl⟩|⟨f,c⟩
  .exact ho
  exact(h.o j s c).awU z (λg t=>h.d i j r s (λk=>f k.symm) n c g t)
 rcases get j a f with⟨rfl,rfl⟩|⟨y,m⟩<;>rcases get k b x with⟨rfl,rfl⟩|⟨u,A⟩
 .exact absurd rfl q
 .grind
 .grind
 exact h.d j k a b q m A g p
def dV.turn {I:TQ α}{B:LN} {row:Option Nat} {b:List (Array Value)} {xs:List α}(h:dV I A w b xs)(d:w.grownBy w' row)(c:∀r,row=some r->r∈A)(j:row=some gg\/gg=w.heap.size)(e:∀g∈B,g∈A\/g=gg):dV I B w' b xs:=by
 have i:dV I (A++[w.heap.size]) w b xs:=h.cO (by intro g a;simp at a;rcases a with a|a;exact .inl a;exact .inr (by omega));have f:dV I (A++[w.heap.size]) w' b xs:=i.aC (S:=row.toList) ((aB.refl row.toList w).grown d (λr c=>.inl (by simp[c]))) (by intro g a;simp at a;simp[c g a]);refine f.cO (λg a=>.inl ?_);rcases e g a with a|rfl
 .simp[a]
 grind
def cc(L:List (Nat × Bool)):List (List Value):=L.map λc=>[zI (c.1:Nat),.bool c.2]
theorem YY(L:List (Nat × Bool)):(cc L).length=L.length:=by simp[cc]
theorem ahV(L:List (Nat × Bool))(c:Nat × Bool):cc L++[[zI (c.1:Nat),.bool c.2]]=cc (L++[c]):=by simp[cc]
def aqu:TQ (List (Nat × Bool)) where
 rel A w cs x:=∃a,cs=#[a]/\RW A 2 w a (cc x)
 aC:=by rintro A S w w' cs x ⟨a,c,b⟩ f d;exact⟨a,c,b.aC f d⟩
 cO:=by rintro A B w cs x ⟨a,c,b⟩ e;exact⟨a,c,b.cO e⟩
structure KG(Z:LN)(w0:World)(kb:Nat)(w:World)(rs:List RD)(ca:List (Array Value))(sa:List gz)(cq:List (Array Value))(sq:List (List (Nat × Bool))):Prop where
 fr:aB [kb] w0 w
 lo:kb<w0.heap.size
 rw:RWS w0.heap.size w rs
 ai:dV adY (Z++kb::owns rs) w ca sa
 qi:dV aqu (Z++kb::owns rs) w cq sq
theorem KG.aC {rs:List RD} {ca:List (Array Value)} {cq:List (Array Value)} {c:List (List (Nat × Bool))}(h:KG Z w0 kb w rs ca sa cq c)(f:aB S w w')(b:∀g∈S,g=kb):KG Z w0 kb w' rs ca sa cq c :=
 ⟨h.fr.over f (λx d=>.inr (by simp[b x d])),h.lo,h.rw.aC f (λg a=>by rw[b g a];exact h.lo),h.ai.aC f (λg a=>by simp[b g a]),h.qi.aC f (λg a=>by simp[b g a])⟩
def KG.alU {rs:List RD} {ca:List (Array Value)} {cq:List (Array Value)} {c:List (List (Nat × Bool))}(h:KG Z w0 kb w rs ca sa cq c)(hb:w.heap.size<=b):KG (b::Z) w0 kb w rs ca sa cq c :=
 ⟨h.fr,h.lo,h.rw,h.ai.cO (λg a=>by simp at a |-;rcases a with rfl|a;exact .inr hb;exact .inl a),h.qi.cO (λg a=>by simp at a |-;rcases a with rfl|a;exact .inr hb;exact .inl a)⟩
def KG.afK {rs:List RD} {ca:List (Array Value)} {cq:List (Array Value)} {c:List (List (Nat × Bool))}(h:KG (b::Z) w0 kb w rs ca sa cq c):KG Z w0 kb w rs ca sa cq c :=
 ⟨h.fr,h.lo,h.rw,h.ai.cO (λg a=>.inl (by simp at a |-;exact .inr a)),h.qi.cO (λg a=>.inl (by simp at a |-;exact .inr a))⟩
theorem KG.off {rs:List RD} {ca:List (Array Value)} {cq:List (Array Value)} {c:List (List (Nat × Bool))}(h:KG Z w0 kb w rs ca sa cq c)(f:aB S w w')(l:∀g∈S,g∈Z)(s:∀g∈S,w0.heap.size<=g)(ho:∀g∈S,g∉owns rs):KG Z w0 kb w' rs ca sa cq c:=by
 refine⟨h.fr.over f (λx n=>.inl (s x n)),h.lo,⟨λi r k=>?_,h.rw.d⟩,h.ai.aC f (λg b=>by simp[l g b]),h.qi.aC f (λg b=>by simp[l g b])⟩;have a:=h.rw.o i r k;refine⟨⟨a.1.1,?_⟩,a.2⟩;rcases a.1.2 with p|⟨g,cap,cur,e,m,j,rest⟩
 .exact .inl p
 refine .inr ⟨g,cap,cur,e,m,?_,rest⟩;rw[f.block g (a0c.1 j).1 (λq=>ho g q (oK.2 ⟨i,r,k,by rw[e];rfl⟩))];exact j
def KG.grow {rs:List RD} {ca:List (Array Value)} {cq:List (Array Value)} {f:List (List (Nat × Bool))}(h:KG Z w0 kb w rs ca sa cq f)(i:Nat) {r r':RD}(b:rs[i]?=some r)(c:w.grownBy w' r.v.ownBlock)(ho:OW r'.ty r'.k w0.heap.size w' r'.v r'.vs)(hb:r'.v.ownBlock=some gg)(d:r.v.ownBlock=some gg\/gg=w.heap.size):KG Z w0 kb w' (rs.set i r') ca sa cq f:=by
 have n:i<rs.length:=(a0d.1 b).1;have l:∀g,r.v.ownBlock=some g->g∈Z++kb::owns rs:=λg e=>a0e.2 (.inr (a0l.2 (.inr (oK.2 ⟨i,r,b,e⟩))))
 have m:∀g∈Z++kb::owns (rs.set i r'),g∈Z++kb::owns rs\/g=gg:=by
  intro g a;rcases a0e.1 a with a|a
  .grind
  rcases a0l.1 a with rfl|a
  .exact .inl (by simp)
  obtain⟨j,s,q,p⟩:=oK.1 a
  by_cases e:j=i
  .grind
  grind [oK]
 exact⟨h.fr.grown c (λg e=>.inr ((h.rw.o i r b).lt e).1),h.lo,h.rw.grow i b c ho hb d,h.ai.turn c l d m,h.qi.turn c l d m⟩
structure V4 where
 rt:Value
 x:Value
 q:Value
 l:Value
abbrev VD(V:V6)(U:V4):Array Value:=#[V.n,V.c,V.a,V.t,V.r,V.i,U.rt,U.x,U.q,U.l]
def KR(w:World)(b:Nat)(V:V6)(U:V4):Prop:=w.heap[b]?=some (.cells (VD V U) 85 (0,0))
theorem KR.c {U:V4}(h:KR w b V U)(i:Nat):w.cell? (zB b i)=(VD V U)[i]?:=by unfold KR at h;simp[World.cell?,h]
theorem KR.fz {U:V4}(h:KR w b V U)(o:Nat):w.frozen? (zB b o)=false:=by unfold KR at h;simp[World.frozen?,h]
theorem KR.lt {U:V4}(h:KR w b V U):b<w.heap.size:=(a0c.1 h).1
theorem KR.aC {U:V4}(h:KR w b V U)(f:aB S w w')(a:b∉S):KR w' b V U:=(f.block b h.lt a).trans h
def KR.grown {U:V4} {row:Option Nat}(h:KR w b V U)(c:w.grownBy w' row)(a:∀r,row=some r->r≠b):KR w' b V U:=(c.block b h.lt (λe=>a b e.symm rfl)).trans h
theorem KR.set {U U':V4}(h:KR w b V U)(i:Nat)(v:Value)(e:(VD V U).setIfInBounds i v=VD V' U'):KR (w.setCell (zB b i) v) b V' U':=by unfold KR at h |-;rw[<-e];simp[World.setCell,a0v,h]
abbrev Gm(V:V6)(U:V4)(s:CS)(ca cq:List (Array Value)):List RD :=
 [⟨9,1,V.n,sc s.n⟩,⟨9,1,V.c,sc s.c⟩,⟨9,1,U.x,sc s.x⟩,⟨102,259,V.a,fZ ca⟩,⟨104,3,V.t,tc s.t⟩,⟨143,1,U.q,fZ cq⟩]
structure KS(Z:LN)(w0:World)(kb:Nat)(w:World)(V:V6)(U:V4)(s:CS):Prop where
 row:KR w kb V U
 g:∃ca cq,KG Z w0 kb w (Gm V U s ca cq) ca s.a cq s.q
theorem KS.aC {U:V4}(h:KS Z w0 kb w V U s)(f:aB [] w w'):KS Z w0 kb w' V U s:=by obtain⟨ca,cq,g⟩:=h.g;exact⟨h.row.aC f (by simp),ca,cq,g.aC f (by simp)⟩
def KS.alU {U:V4}(h:KS Z w0 kb w V U s)(hb:w.heap.size<=b):KS (b::Z) w0 kb w V U s:=by obtain⟨ca,cq,g⟩:=h.g;exact⟨h.row,ca,cq,g.alU hb⟩
def KS.afK {U:V4}(h:KS (b::Z) w0 kb w V U s):KS Z w0 kb w V U s:=by obtain⟨ca,cq,g⟩:=h.g;exact⟨h.row,ca,cq,g.afK⟩
def VE(w:World)(v:Value)(A:LN)(L:List LB)(x:LB)(h:RW A 1 w v (sc L))(y:L.length<=1048576) :
 zF 80 #[v,zT x] w λe w'=>e=zR (zI (iL L x:Nat))/\w=w':=by
 obtain⟨a,c,rfl,R⟩:=h.str;have l:=aT;clear h;delta zF;go_in
 go_wp2_with fail
 go_loopg [9] L.length (λk n wr=>∃j:Nat,j+k=L.length/\n=zI j/\wr=w/\(∀i (b:i<j) (l:i<L.length),(L[i]==x)=false))
 exact⟨0,by omega,rfl,rfl,λi b=>by omega⟩
 .obtain⟨j,t,rfl,q,d⟩:=hrel;subst q
  by_cases m:j<L.length
  .have r:decide ((j:Int)<(L.length:Int))=true:=a0g (by omega)
   obtain⟨g,off,rfl,u,k1⟩:=R j m;cases he:(L[j]==x)
   .have o:∀i (b:i<j+1) (l:i<L.length),(L[i]==x)=false:=λi b p=>by
     by_cases e:i=j
     .subst e;exact he
     exact d i (by omega) p
    generalize L[j]=s at *;clear d;go_wp2;go_roundg (gk-1);exact⟨j+1,by omega,by go_num,rfl,o⟩;omega
   have f:iL L x=j:=asA m (λi b=>d i b (by omega)) he;generalize L[j]=s at *;clear d;go_wp2;go_ret;rw[f];exact⟨rfl,rfl⟩
  have r:decide ((j:Int)<(L.length:Int))=false:=a0f (by omega);have f:iL L x=L.length:=anx (λi b=>d i (by omega) b);clear d;go_wp2;go_ret;rw[f];exact⟨rfl,rfl⟩
def rcl(c:CR)(ek iJ:Value):Array Value:=#[zI (c.d:Nat),zT c.rc,.bool c.tb,ek,zI c.wt,zI c.ev,zI c.rp,iJ,.bool c.co]
def LH(L:List CM):List (List Value):=L.map Bb
def rtI:TQ CR where
 rel A w cs c:=∃ek iJ,cs=rcl c ek iJ/\RW A 1 w ek (sc c.jM)/\RW A 3 w iJ (LH c.ifs)
 aC:=by rintro A S w w' cs x ⟨b,a,g,e,d⟩ f h;exact⟨b,a,g,e.aC f h,d.aC f h⟩
 cO:=by rintro A B w cs x ⟨b,a,g,e,d⟩ i;exact⟨b,a,g,e.cO i,d.cO i⟩
def QH(A:LN)(w:World)(v:Value)(C:List CR):Prop:=∃a,RW A 9 w v (fZ a)/\dV rtI A w a C
theorem QH.aC {C:List CR}(h:QH A w v C)(f:aB S w w')(a:∀g∈S,g∈A):QH A w' v C:=by obtain⟨d,c,b⟩:=h;exact⟨d,c.aC f a,b.aC f a⟩
def Gn(C:List CR)(i:Nat):Int:=match par C i with | some p=>(p:Int)|none=>-1
def OT(w:World)(v:Value)(A:LN)(C:List CR)(h:QH A w v C)(hC:C.length<=1048576)(hd:∀c∈C,c.d<=1048576)(i:Nat)(r:i<C.length) :
 zF 52 #[v,zI i] w λe w'=>e=zR (zI (Gn C i))/\∃q,w'=w.drewN q:=by
 obtain⟨P,z,y⟩:=h;obtain⟨a,cp,rfl,R⟩:=sP z y;obtain⟨g,off,cs,rfl,N,_,⟨ek,iJ,rfl,_⟩,k1⟩:=R i r;have M:zC w g (off+i*9) (zI (C[i].d:Nat)):=k1 0 _ rfl;have o:Gn C i=match nQ C C[i].d i with | some p=>(p:Int)|none=>-1:=by unfold Gn par;rw[a0a r]
 have H:=hd C[i] (a0u r);have T:decide ((i:Int)<0)=false:=a0f (by omega);have I:decide ((C.length:Int)<=(i:Int))=false:=a0f (by omega);generalize E:C[i].d=b at *;clear z y k1 E;delta zF;go_in
 go_wp2_with fail
 go_loopg [5] i (λk B wr=>∃(j q:Nat) (x:Int),j<=i/\k=j/\B=zI x/\x=(j:Int)-1/\wr=w.drewN q/\(nQ C b j=nQ C b i))
 exact⟨i,0,_,by omega,rfl,rfl,by omega,rfl,by rfl⟩
 .obtain⟨j,q,x,G,rfl,rfl,u,F,f⟩:=hrel;subst F;rcases gk with _|n
  .obtain rfl:x=-1:=by omega
   clear u;have s:Gn C i=-1:=by rw[o,<-f];rfl
   clear f o;go_wp2;go_ret;rw[s];exact⟨rfl,q,rfl⟩
  obtain rfl:x=(n:Int):=by omega
  clear u;obtain⟨O,t,cs,e,_,_,⟨ek,iJ,rfl,_⟩,k1⟩:=R n (by omega);simp only[Option.some.injEq,Addr.mk.injEq,a2u]at e;obtain⟨rfl,rfl⟩:=e;have L:zC w g (off+n*9) (zI (C[n].d:Nat)):=k1 0 _ rfl;have S:=hd C[n] (a0u _);have m:nQ C b (n+1)=if C[n].d+1=b then some n else nQ C b n:=by rw[nQ,a0a (by omega)];simp
  generalize C[n].d=l at *
  by_cases he:l+1=b
  .have s:Gn C i=(n:Int):=by rw[o,<-f,m,a0m he]
   have hb:((l:Int)==(b:Int)-1)=true:=by simp;omega
   have J:decide ((l:Int)=(b:Int)-1)=true:=a0g (by omega);clear f o m k1;go_wp2_with fail
   go_quiet (fail)
   go_wp2;go_ret;rw[s];exact⟨rfl,_,yD _ _ _⟩
  have D:nQ C b n=nQ C b i:=by rw[<-f,m,a0n he]
  have hb:((l:Int)==(b:Int)-1)=false:=by simp;omega
  have J:decide ((l:Int)=(b:Int)-1)=false:=a0f (by omega);clear f m k1;go_wp2_with fail
  go_quiet (fail)
  go_wp2;go_roundg n;exact⟨n,_,_,by omega,rfl,rfl,by omega,rfl,D⟩;omega
def LM(w:World)(x:Int)(y:Nat)(b:-1<=x) :
 zF 82 #[zI x,zI y] w λe w'=>e=zR (zI (uk x y:Nat))/\w=w':=by
 by_cases h:x=-1
 .subst h
  delta zF;go_in
  go_wp2;go_ret;exact⟨rfl,rfl⟩
 have a:((uk x y:Nat):Int)=x:=by unfold uk;rw[a0n h];omega
 have hb:(x == -1)=false:=by simp[h]
 delta zF;go_in
 go_wp2;go_ret;rw[a];exact⟨rfl,rfl⟩
def KS.own {U:V4}(h:KS Z w0 kb w V U s)(i:Nat) {r:RD}(a:∀ca cq,(Gm V U s ca cq)[i]?=some r):OW r.ty r.k w0.heap.size w r.v r.vs:=by obtain⟨ca,cq,g⟩:=h.g;exact g.rw.o i r (a ca cq)
theorem KS.lo {U:V4}(h:KS Z w0 kb w V U s):kb<w0.heap.size/\w0.heap.size<=w.heap.size:=by obtain⟨ca,cq,g⟩:=h.g;exact⟨g.lo,g.fr.size⟩
theorem KS.put {U U':V4}(h:KS Z w0 kb w V U s)(f:aB [] w w1)(i:Nat)(r r':RD)(d:∀ca cq,(Gm V U s ca cq)[i]?=some r)(l:∀ca cq,(Gm V U s ca cq).set i r'=Gm V' U' s' ca cq)(c:s'.a=s.a)(b:s'.q=s.q)
 (e:w1.grownBy w4 r.v.ownBlock) (ho:OW r'.ty r'.k w0.heap.size w4 r'.v r'.vs) (hb:r'.v.ownBlock=some gg) (t:r.v.ownBlock=some gg\/gg=w1.heap.size) (o:Nat) (v:Value) (n:(VD V U).setIfInBounds o v=VD V' U'):KS Z w0 kb (w4.setCell (zB kb o) v) V' U' s':=by
 have y:=h.own i d;obtain⟨ca,cq,g⟩:=h.g;have z:=g.lo;have x:=g.aC f (by simp);have j:=x.grow i (d ca cq) e ho hb t;rw[l]at j;have u:=j.aC (S:=[kb]) ((aB.refl [kb] _).setCell (p:=(zB kb o)) (.inl (by simp)) v) (by simp);refine⟨((h.row.aC f (by simp)).grown e (λr m=>by have:=(y.lt m).1;omega)).set o v n,ca,cq,?_⟩;rw[c,b];exact u
def Mf(V:V6)(U:V4):LN:=[V.n,V.c,U.x,V.a,V.t,U.q].flatMap λv=>v.ownBlock.toList
theorem Np(V:V6)(U:V4)(s:CS)(ca cq:List (Array Value)):owns (Gm V U s ca cq)=Mf V U:=rfl
structure KF(kb:Nat)(w:World)(V:V6)(U:V4)(w':World)(V':V6)(U':V4):Prop where
 f:aB (kb::Mf V U) w w'
 o:∀g∈Mf V' U',g∈Mf V U\/w.heap.size<=g
theorem KF.refl(kb:Nat)(w:World)(V:V6)(U:V4):KF kb w V U w V U:=⟨zK,λg h=>.inl h⟩
theorem KF.trans{c:World} {U e d:V4}(h:KF kb w V U w1 V1 e)(k:KF kb w1 V1 e c V2 d):KF kb w V U c V2 d:=by
 refine⟨h.f.over k.f ?_,λg i=>?_⟩
 .intro x b
  rcases a0l.1 b with rfl|b
  .exact .inr (by simp)
  rcases h.o x b with a|a
  .exact .inr (by simp[a])
  exact .inl a
 rcases k.o g i with a|a
 .exact h.o g a
 exact .inr (a0h h.f.size a)
def KF.of {U:V4}(h:aB [] w w1):KF kb w V U w1 V U:=⟨zK.over h (by simp),λg a=>.inl a⟩
theorem KF.put {U U':V4} {ca cq ca' cq':List (Array Value)}(f:aB [] w w1)(i:Nat) {r r':RD}(c:(Gm V U s ca cq)[i]?=some r)(l:(Gm V U s ca cq).set i r'=Gm V' U' s' ca' cq')(n:w1.grownBy w4 r.v.ownBlock)(hb:r'.v.ownBlock=some gg)(a:r.v.ownBlock=some gg\/gg=w1.heap.size)(o:Nat)(v:Value):KF kb w V U (w4.setCell (zB kb o) v) V' U':=by
 have k:i<(Gm V U s ca cq).length:=(a0d.1 c).1;refine⟨((((aB.refl _ w).over f (by simp))).grown n (λg m=>.inl ?_)).setCell (p:=(zB kb o)) (.inl (by simp)) v,λg d=>?_⟩
 .rw[<-Np V U s ca cq]
  exact a0l.2 (.inr (oK.2 ⟨i,r,c,m⟩))
 rw[<-Np V' U' s' ca' cq',<-l]at d;obtain⟨j,t,b,ht⟩:=oK.1 d
 by_cases e:j=i
 .subst e
  rw[List.getElem?_set_self k]at b;cases b
  rw[hb]at ht;cases ht
  rcases a with a|a
  .exact .inl (by rw[<-Np V U s ca cq];exact oK.2 ⟨j,r,c,a⟩)
  exact .inr (by rw[a];exact f.size)
 rw[List.getElem?_set_ne (λh=>e h.symm)]at b;exact .inl (by rw[<-Np V U s ca cq];exact oK.2 ⟨j,t,b,ht⟩)
theorem KS.off {U:V4}(h:KS Z w0 kb w V U s)(f:aB S w w')(c:∀g∈S,g∈Z)(a:∀g∈S,w0.heap.size<=g)(ho:∀g∈S,g∉Mf V U):KS Z w0 kb w' V U s:=by have d:=h.lo.1;obtain⟨ca,cq,g⟩:=h.g;exact⟨h.row.aC f (λb=>by have:=a kb b;omega),ca,cq,g.off f c a ho⟩
def arc(a b:jd):QE a b=(a.n==b.n&&(a.k==b.k&&a.x==b.x)):=rfl
def RW.tst {L:List jd}(h:RW A 3 w v (tc L)):∃a cap,v=.slice a L.length cap/\∀(j:Nat) (c:j<L.length),∃g off,a=some (zB g off)/\g<w.heap.size/\zC w g (off+j*3) (zI (L[j].n:Nat))/\zC w g (off+j*3+1) (zI (L[j].k:Nat))/\zC w g (off+j*3+2) (zI (L[j].x:Nat)):=by obtain⟨a,cap,e,m,f⟩:=h;rw[YX]at e;refine⟨a,cap,e,λj c=>?_⟩;obtain⟨g,off,i,l,d,b⟩:=f j (by rw[YX];exact c);exact⟨g,off,i,d,b 0 _ (by simp[tc,kV]),b 1 _ (by simp[tc,kV]),b 2 _ (by simp[tc,kV])⟩
def Ui(Z:LN)(w0:World)(kb:Nat)(w:World)(V:V6)(U:V4)(s:CS)(h:KS Z w0 kb w V U s)(x:jd)(dY:s.t.length<=1000) :
 zF 51 #[zP kb,.agg (kV x)] w λe w'=>e=zR (zI (C6 s.t x:Nat))/\∃V',KS Z w0 kb w' V' U { s with t:=pE s.t x }/\(V'.r=V.r/\V'.i=V.i)/\KF kb w V U w' V' U:=by
 obtain⟨J,M,N,vt,vr,L⟩:=V;have hO:OW 104 3 w0.heap.size w vt (tc s.t):=h.own 4 (r:=⟨104,3,vt,tc s.t⟩) (λca cq=>rfl);obtain⟨a,cap,rfl,r⟩:=(hO.rw (A:=[]) (by simp)).tst;have c3:=h.row.c 3;simp at c3;have R:=aj r;have O:=aj hO;have HK:=aj h;have jU:=h.lo;have YG:=h.row.lt;clear r hO h;obtain⟨f,d,b⟩:=x;simp only[kV];delta zF;go_in
 go_wp2_with fail
 go_loopg [13] s.t.length (λk P wr=>∃j:Nat,j+k=s.t.length/\P=zI j/\aB [] w wr/\Z_ (wr.heap[w.heap.size]?=some (Obj.cells #[zI (f:Nat),zI (d:Nat),zI (b:Nat)] 104))/\Z_ (∀i (n:i<j) (E:i<s.t.length),QE s.t[i] ⟨f,d,b⟩=false))
 case atStart=>exact⟨0,by omega,rfl,(aB.refl _ _).alloc _,bD _ _,λi n=>by omega⟩
 case round =>
  obtain⟨j,lU,rfl,hF,I,u⟩:=hrel;have F:=aj hF;have Gf:=hF.size;have B:=I.o;have b0:zC wr w.heap.size 0 (zI (f:Nat)):=by simp[World.cell?,B]
  have b1:zC wr w.heap.size 1 (zI (d:Nat)):=by simp[World.cell?,B]
  have b2:zC wr w.heap.size 2 (zI (b:Nat)):=by simp[World.cell?,B]
  have W:w.heap.size<wr.heap.size:=(a0c.1 B).1;have d3:=hF.at (p:=(zB kb 3)) YG c3;clear B
  by_cases aL:j<s.t.length
  .have gJ:decide ((j:Int)<(s.t.length:Int))=true:=a0g (by omega)
   obtain⟨g,off,rfl,Y,q0,q1,q2⟩:=R.o j aL;have t0:=hF.at (p:=(zB g (off+j*3))) Y q0;have t1:=hF.at (p:=(zB g (off+j*3+1))) Y q1;have t2:=hF.at (p:=(zB g (off+j*3+2))) Y q2;have Au:g<wr.heap.size:=by omega
   have q:=arc s.t[j] ⟨f,d,b⟩;have m:Z_ (QE s.t[j] ⟨f,d,b⟩=true->C6 s.t ⟨f,d,b⟩=j):=λhe=>asB aL (λi n=>u.o i n (by omega)) he
   have l:Z_ (QE s.t[j] ⟨f,d,b⟩=false->∀i (n:i<j+1) (E:i<s.t.length),QE s.t[i] ⟨f,d,b⟩=false):=λhe i n jc=>by
    by_cases e:i=j
    .subst e;exact he
    exact u.o i (by omega) jc
   clear q0 q1 q2 hF;generalize X:s.t[j]=tj at *;obtain⟨C,ak,ax⟩:=tj;clear X;simp only at t0 t1 t2 q
   by_cases e1:C=f
   .subst e1
    by_cases e2:ak=d
    .subst e2
     by_cases e3:ax=b
     .subst e3
      have D:Z_ (C6 s.t ⟨C,ak,ax⟩=j):=m.o (by rw[q];simp);have HA:Z_ (pE s.t ⟨C,ak,ax⟩=s.t):=by show _=_;unfold pE;rw[a0n];rw[D.o];omega
      clear m l u q;go_wp2;go_ret;rw[D.o,HA.o];exact⟨rfl,_,HK.o.aC (F.o.alloc _),⟨rfl,rfl⟩,KF.of (F.o.alloc _)⟩
     have z:Z_ (∀i (n:i<j+1) (E:i<s.t.length),QE s.t[i] ⟨C,ak,b⟩=false):=l.o (by rw[q];simp[e3]);clear m l u q;go_wp2;go_roundg (gk-1)
     case measure=>omega
     case rel=>exact⟨j+1,by omega,by go_num,F.o.alloc _,((aB.refl [] _).alloc _ |>.block w.heap.size W (by simp)).trans I,z⟩
    have z:Z_ (∀i (n:i<j+1) (E:i<s.t.length),QE s.t[i] ⟨C,d,b⟩=false):=l.o (by rw[q];simp[e2]);clear m l u q;go_wp2;go_roundg (gk-1)
    case measure=>omega
    case rel=>exact⟨j+1,by omega,by go_num,F.o.alloc _,((aB.refl [] _).alloc _ |>.block w.heap.size W (by simp)).trans I,z⟩
   have z:Z_ (∀i (n:i<j+1) (E:i<s.t.length),QE s.t[i] ⟨f,d,b⟩=false):=l.o (by rw[q];simp[e1]);clear m l u q;go_wp2;go_roundg (gk-1)
   case measure=>omega
   case rel=>exact⟨j+1,by omega,by go_num,F.o.alloc _,((aB.refl [] _).alloc _ |>.block w.heap.size W (by simp)).trans I,z⟩
  have gJ:decide ((j:Int)<(s.t.length:Int))=false:=a0f (by omega);have D:Z_ (C6 s.t ⟨f,d,b⟩=s.t.length):=anz (λi n=>u.o i (by omega) n);have HA:Z_ (pE s.t ⟨f,d,b⟩=s.t++[⟨f,d,b⟩]):=by show _=_;unfold pE;rw[a0m D.o]
  have T:Z_ ((tc s.t).length=s.t.length):=YX s.t;have Dt:Z_ (∀r,Value.ownBlock (.slice a s.t.length cap)=some r->r≠kb):=λr hr=>by have:=(O.o.lt hr).1;omega
  have OR:=aj (O.o.aC hF (by simp));have v:=aj (HK.o.aC hF);have z3:=v.o.row.fz 3;have gT:=jU.2;have hkr:kb<wr.heap.size:=by omega
  clear u hF;go_wp2_with fail
  go_region_law ((refine CU _ (by rfl) _ _ 52 104 _ 3 24 anv Tryz.underlying52 (by rfl) (by omega) (by rfl) w0.heap.size (.slice a s.t.length cap) (tc s.t) wr.heap.size (kV ⟨f,d,b⟩) (0,0) (by rfl) (OR.o.aC (S:=[]) (((aB.refl [] _).alloc _).drew) (by simp)) (by rfl) (by rfl) (by exact bD _ _) (akj _) (by rw[T.o];omega) (by rw[T.o];omega) (by simp;omega) (wr.heap.size+1) (by simp) ?_;intro gg y w4 G H bq AO;rw[T.o]at G |-;have R4:=aj ((v.o.row.aC (S:=[]) (((aB.refl [] _).alloc _).drew) (by simp)).grown H Dt);have k3:=R4.o.c 3;have y3:=R4.o.fz 3;simp at k3))
  all_goals
   rw[aqr]at G;have K5:=aj (v.o.put (((aB.refl [] _).alloc _).drew) 4 ⟨104,3,.slice a s.t.length cap,tc s.t⟩ ⟨104,3,zS gg (s.t.length+1) y,tc (s.t++[⟨f,d,b⟩])⟩ (V':=⟨J,M,N,zS gg (s.t.length+1) y,vr,L⟩) (U':=U) (s':={ s with t:=s.t++[⟨f,d,b⟩] }) (λca cq=>rfl) (λca cq=>rfl) rfl rfl H G rfl (by simpa using bq) 3 (zS gg (s.t.length+1) y) rfl);have KF5:Z_ (KF kb w ⟨J,M,N,.slice a s.t.length cap,vr,L⟩ U (w4.setCell (zB kb 3) (zS gg (s.t.length+1) y)) ⟨J,M,N,zS gg (s.t.length+1) y,vr,L⟩ U):=KF.put (s:=s) (s':={ s with t:=s.t++[⟨f,d,b⟩] }) (ca:=[]) (cq:=[]) (ca':=[]) (cq':=[]) ((F.o.alloc _).drew) 4 (r:=⟨104,3,.slice a s.t.length cap,tc s.t⟩) (r':=⟨104,3,zS gg (s.t.length+1) y,tc (s.t++[⟨f,d,b⟩])⟩) rfl rfl H rfl (by simpa using bq) 3 _;have m3:=K5.o.row.c 3;simp at m3;clear H G bq k3 y3 R4;go_wp2;go_ret;rw[D.o,HA.o];exact⟨congrArg Ending.returned (by go_num),_,K5,⟨rfl,rfl⟩,KF5⟩
def RCP(re:LB->Nat)(bI:LB->gz)(v:LB):Prop :=
 ∀w:World,zF 115 #[zT v] w λe w'=>aB [] w w'/\∃cs:Array Value,cs.size=259/\cs.all (·.oneCell')=true/\e=zQ #[.agg cs,zI (re v:Nat)]/\(re v=0->∀A:LN,(∀g∈A,g<w.heap.size)->dV adY A w' [cs] [bI v])
def KV(V V':V6)(U U':V4):Prop:=V'.r=V.r/\V'.i=V.i/\U'.rt=U.rt/\U'.l=U.l
theorem KV.refl(V:V6)(U:V4):KV V V U U:=⟨rfl,rfl,rfl,rfl⟩
theorem KV.trans {U b a:V4}(h:KV V V1 U b)(k:KV V1 V2 b a):KV V V2 U a:=⟨k.1.trans h.1,k.2.1.trans h.2.1,k.2.2.1.trans h.2.2.1,k.2.2.2.trans h.2.2.2⟩
def NAQ(Z:LN)(re:LB->Nat)(bI:LB->gz)(w0:World)(kb:Nat)(w:World)(V:V6)(U:V4)(s:CS)(v:LB)(e:Ending)(w':World):Prop :=
 (iL s.x v<s.x.length/\e=zQ #[zI (iL s.x v:Nat),zI 0]/\KS Z w0 kb w' V U s/\KF kb w V U w' V U) \/
 (iL s.x v=s.x.length/\re v=0/\e=zQ #[zI (s.x.length:Nat),zI 0]/\∃V' U',KS Z w0 kb w' V' U' { s with x:=s.x++[v],a:=s.a++[bI v] }/\KV V V' U U'/\KF kb w V U w' V' U') \/
 (iL s.x v=s.x.length/\re v≠0/\e=zQ #[zI 0,zI (re v:Nat)]/\aB [kb] w0 w'/\KF kb w V U w' V U)
def KS.fr {U:V4}(h:KS Z w0 kb w V U s):aB [kb] w0 w:=by obtain⟨ca,cq,g⟩:=h.g;exact g.fr
def KG.ait {rs:List RD} {ca:List (Array Value)} {cq:List (Array Value)} {b:List (List (Nat × Bool))}(h:KG Z w0 kb w rs ca sa cq b):∀g∈kb::owns rs,g<w.heap.size:=by
 intro g a;rcases a0l.1 a with rfl|a
 .exact a0t h.lo h.fr.size
 obtain⟨i,r,c,ho⟩:=oK.1 a;exact((h.rw.o i r c).lt ho).2
def VN {rs:List RD}(i:Nat) {r r':RD}(f:rs[i]?=some r)(hb:r'.v.ownBlock=some gg):∀g∈Z++kb::owns (rs.set i r'),g∈Z++kb::owns rs\/g=gg:=by
 have d:i<rs.length:=(a0d.1 f).1;intro g a;rcases a0e.1 a with a|a
 .exact .inl (a0e.2 (.inl a))
 rcases a0l.1 a with rfl|a
 .exact .inl (by simp)
 obtain⟨j,s,b,c⟩:=oK.1 a
 by_cases e:j=i
 .subst e
  rw[List.getElem?_set_self d]at b;cases b
  rw[hb]at c;exact .inr (Option.some.inj c).symm
 rw[List.getElem?_set_ne (λh=>e h.symm)]at b;exact .inl (a0e.2 (.inr (a0l.2 (.inr (oK.2 ⟨j,s,b,c⟩)))))
def VP {rs:List RD}(i:Nat) {r:RD}(a:rs[i]?=some r)(ho:r.v.ownBlock=some g):g∈Z++kb::owns rs:=a0e.2 (.inr (a0l.2 (.inr (oK.2 ⟨i,r,a,ho⟩))))
def Jb(Z:LN)(re:LB->Nat)(bI:LB->gz)(w0:World)(kb:Nat)(w:World)(V:V6)(U:V4)(s:CS)(h:KS Z w0 kb w V U s)(hZ:∀g∈Z,g<w.heap.size)(v:LB)(hv:RCP re bI v)(hx:s.x.length<=1000)(hsa:s.a.length<=1000) :
 zF 81 #[zP kb,zT v] w (NAQ Z re bI w0 kb w V U s v):=by
 obtain⟨vn,vc,va,vt,vr,vi⟩:=V;obtain⟨rt,ux,uq,ul⟩:=U;have hO:OW 9 1 w0.heap.size w ux (sc s.x):=h.own 2 (r:=⟨9,1,ux,sc s.x⟩) (λca cq=>rfl);have N1:=aj (VE w ux [] s.x v (hO.rw (by simp)) (by omega));obtain⟨ax,cx,he⟩:=hO.shape;rw[iC]at he;subst he;have c7:=h.row.c 7;simp at c7;have Xn:=Eg s.x v;have HK:=aj h;have jU:=h.lo;have YG:=h.row.lt;have HV:=aj hv;clear h hO hv
 by_cases hfd:iL s.x v<s.x.length
 ·have gJ:decide ((iL s.x v:Int)<(s.x.length:Int))=true:=a0g (by omega)
  have HFD:=aj hfd;clear hfd Xn;generalize hf:iL s.x v=fx at *;have HF:=aj hf;clear hf;delta zF;go_in
  go_wp2_with fail
  refine(N1.o).mono ?_;rintro e w1 ⟨rfl,rfl⟩;go_wp2;go_ret2;exact .inl ⟨by rw[HF.o];exact HFD,by rw[HF.o];rfl,HK,KF.refl _ _ _ _⟩
 have Lf:iL s.x v=s.x.length:=by omega
 rw[Lf]at N1;have HFE:=aj Lf;clear hfd Xn Lf;have N2:=aj (HV.o w);delta zF;go_in
 go_wp2_with fail
 refine(N1.o).mono ?_;rintro e w1' ⟨rfl,rfl⟩;clear N1;go_wp2_with fail
 refine(N2.o).mono ?_;clear N2;rintro e w1 ⟨qh,cs,pY,fI,rfl,iG⟩;obtain⟨W3,dY,al7,hh3,xg⟩:∃W3,(storeCells (zA w1.heap.size) cs.toList).run Tryz.prog (w1.alloc (Obj.cells Tryz.zeroCells102 102))=.ok () W3/\Z_ (aB [] w1 W3)/\Z_ (W3.heap[w1.heap.size]?=some (.cells cs 102 (0,0)))/\W3.heap.size=w1.heap.size+1:=by
  have hh:(w1.alloc (Obj.cells Tryz.zeroCells102 102)).heap[w1.heap.size]?=some (.cells Tryz.zeroCells102 102 (0,0)):=bD _ _;exact⟨_,vX hh (by rw[pY,jZ]) fI,((aB.refl [] w1).alloc _).over (aB.setRow _ _ _) (by simp),vW hh,by simp[World.setRow]⟩
 have HZ3:=aj xg;clear xg;have F13:=aj (qh.trans al7);have ayQ:=F13.o.size;have K3:=aj (HK.o.aC F13);have k7:=K3.o.row.c 7;simp at k7;have kz7:=K3.o.row.fz 7
 by_cases Gg:re v=0
 ·have bJ:((re v:Int)==0)=true:=by rw[Gg];rfl
  have al8:Z_ (∀A:LN,(∀g∈A,g<w.heap.size)->dV adY A W3 [cs] [bI v]):=λA hA=>(iG Gg A hA).aC al7.o (by simp)
  have HRE:=aj Gg;rw[Gg];have II:=aj pY;have adL:=aj fI;have fM:=qh.size;clear iG qh fI al7 bJ c7 Gg;have OX:=aj (K3.o.own 2 (r:=⟨9,1,.slice ax s.x.length cx,sc s.x⟩) (λca cq=>rfl));have HOB:Z_ (∀r,Value.ownBlock (.slice ax s.x.length cx)=some r->w0.heap.size<=r/\r<w.heap.size):=λr hr=>⟨(OX.o.lt hr).1,((HK.o.own 2 (r:=⟨9,1,.slice ax s.x.length cx,sc s.x⟩) (λca cq=>rfl)).lt hr).2⟩
  have gT:=jU.2;have hk0:=jU.1;go_upto_region 7 with fail
  go_cut [6] (λv6 wc=>True/\v6=zI (s.x.length:Nat)/\∃ux ca cq,KR wc kb ⟨vn,vc,va,vt,vr,vi⟩ ⟨rt,ux,uq,ul⟩/\KG Z w0 kb wc (Gm ⟨vn,vc,va,vt,vr,vi⟩ ⟨rt,ux,uq,ul⟩ { s with x:=s.x++[v] } ca cq) ca s.a cq s.q/\wc.heap[w1.heap.size]?=some (.cells cs 102 (0,0))/\dV adY (Z++kb::owns (Gm ⟨vn,vc,va,vt,vr,vi⟩ ⟨rt,ux,uq,ul⟩ { s with x:=s.x++[v] } ca cq)) wc [cs] [bI v]/\KF kb w ⟨vn,vc,va,vt,vr,vi⟩ ⟨rt,.slice ax s.x.length cx,uq,ul⟩ wc ⟨vn,vc,va,vt,vr,vi⟩ ⟨rt,ux,uq,ul⟩)
  case first =>
   go_wp2_with (at_builtin;refine ant _ rfl _ _ rfl w0.heap.size (.slice ax s.x.length cx) s.x W3.heap.size v rfl (OX.o.aC (S:=[]) ((aB.refl [] _).alloc _) (by simp)) rfl (by simp) (by omega) (by simp;omega) ?_;intro g2 aU w4 XK Sl aue AO;have O4:=aj XK;have G4:=aj Sl;have R4:=aj ((K3.o.row.aC (S:=[]) ((aB.refl [] _).alloc _) (by simp)).grown G4.o (λr hr=>by have:=(HOB.o r hr).1;omega));have j7:=R4.o.c 7;have jz:=R4.o.fz 7;simp at j7;have HOR:=aj aue;clear XK Sl aue)
   go_meet;have K4:=K3.o.put ((aB.refl [] _).alloc _) 2 ⟨9,1,.slice ax s.x.length cx,sc s.x⟩ ⟨9,1,zS g2 (s.x.length+1) aU,sc (s.x++[v])⟩ (V':=⟨vn,vc,va,vt,vr,vi⟩) (U':=⟨rt,zS g2 (s.x.length+1) aU,uq,ul⟩) (s':={ s with x:=s.x++[v] }) (λca cq=>rfl) (λca cq=>rfl) rfl rfl G4.o O4.o rfl HOR.o 7 (zS g2 (s.x.length+1) aU) rfl;obtain⟨ca,cq,g4⟩:=K4.g;obtain⟨ca0,cq0,g0⟩:=HK.o.g;have RA:=(al8.o (Z++kb::owns (Gm ⟨vn,vc,va,vt,vr,vi⟩ ⟨rt,.slice ax s.x.length cx,uq,ul⟩ s ca0 cq0)) (λg hg=>by rcases a0e.1 hg with hg|hg;exact hZ g hg;exact g0.ait g hg)).aC (S:=[]) ((aB.refl [] _).alloc (Obj.cells #[zT v] 9)) (by simp);have RA2:=RA.turn (B:=Z++kb::owns (Gm ⟨vn,vc,va,vt,vr,vi⟩ ⟨rt,zS g2 (s.x.length+1) aU,uq,ul⟩ { s with x:=s.x++[v] } ca cq)) G4.o (λr hr=>VP 2 (r:=⟨9,1,.slice ax s.x.length cx,sc s.x⟩) rfl hr) HOR.o (VN (rs:=Gm ⟨vn,vc,va,vt,vr,vi⟩ ⟨rt,.slice ax s.x.length cx,uq,ul⟩ s ca0 cq0) 2 (r:=⟨9,1,.slice ax s.x.length cx,sc s.x⟩) (r':=⟨9,1,zS g2 (s.x.length+1) aU,sc (s.x++[v])⟩) rfl rfl);have FB:aB [kb] w4 (w4.setCell (zB kb 7) (zS g2 (s.x.length+1) aU)):=(aB.refl [kb] _).setCell (p:=(zB kb 7)) (.inl (by simp)) _;refine⟨trivial,rfl,_,ca,cq,K4.row,g4,?_,RA2.aC FB (by simp),KF.put (s:=s) (s':={ s with x:=s.x++[v] }) (ca:=[]) (cq:=[]) (ca':=[]) (cq':=[]) (F13.o.alloc _) 2 (r:=⟨9,1,.slice ax s.x.length cx,sc s.x⟩) (r':=⟨9,1,zS g2 (s.x.length+1) aU,sc (s.x++[v])⟩) rfl rfl G4.o rfl HOR.o 7 _⟩;have h3:=HZ3.o;have e1:(W3.alloc (Obj.cells #[zT v] 9)).heap[w1.heap.size]?=some (.cells cs 102 (0,0)):=(((aB.refl [] W3).alloc _).block w1.heap.size (by omega) (by simp)).trans hh3;have e2:w4.heap[w1.heap.size]?=some (.cells cs 102 (0,0)):=(G4.o.block w1.heap.size (by simp;omega) (λe=>by have:=(HOB.o _ e.symm).2;omega)).trans e1;exact(FB.block w1.heap.size (a0c.1 e2).1 (by simp;omega)).trans e2
  case rest =>
   obtain⟨_,rfl,ux,ca,cq,hKR,hKG,hH,hRA,auf⟩:=hcut;have KFC:=aj auf;clear auf;have hOA:OW 102 259 w0.heap.size wc va (fZ ca):=hKG.rw.o 3 ⟨102,259,va,fZ ca⟩ rfl;have ayR:ca.length<=1000:=by rw[hKG.ai.1];exact hsa
   obtain⟨aa,cva,heA⟩:=hOA.shape;rw[jA]at heA;subst heA;have OA:=aj hOA;have mI:=aj (jA ca);have HKR:=aj hKR;have HKG:=aj hKG;have HH:=aj hH;have HRA:=aj hRA;have hkc:=hKR.lt;have Il:=hKG.fr.size;have c2:=hKR.c 2;have z2:=hKR.fz 2;simp at c2;have ag:Value.ownBlock (.slice aa ca.length cva)≠some kb:=λe=>by have:=(OA.o.lt e).1;omega
   have g2z:∀o:Obj,(wc.drew.alloc o).frozen? (zB kb 2)=false:=λo=>((((aB.refl [] wc).drew).alloc o).frozen (p:=(zB kb 2)) hkc (by simp)).trans z2
   clear hOA hKR hKG hH hRA K3 k7 kz7 OX HOB;go_wp2_with fail
   refine wp_region_any (by kernel_rfl) ?_
   change wpAny _ _ _ _ _ _ _ (World.drew _)
   refine wpAny_take (i:=0) (v:=?v0) rfl (by kernel_rfl) (by kernel_rfl) (by kernel_rfl) (λ_ _ _ h=>h) (Or.inl ⟨by rfl,?h0⟩) ?_
   case h0=>intro w;go_simp;with_reducible rfl
   refine wpAny_take (i:=1) (v:=?v1) rfl (by kernel_rfl) (by kernel_rfl) (by kernel_rfl) (λ_ _ _ h=>h) (Or.inl ⟨by rfl,?h1⟩) ?_
   case h1=>intro w;go_simp;with_reducible rfl
   refine wpAny_take (i:=2) (v:=?v2) rfl (by kernel_rfl) (by kernel_rfl) (by kernel_rfl) (λ_ _ _ h=>h) (Or.inl ⟨by rfl,?h2⟩) ?_
   case h2=>intro w;go_simp;with_reducible rfl
   refine wpAny_take (i:=3) (v:=?v3) rfl (by kernel_rfl) (by kernel_rfl) (by kernel_rfl) (λ_ _ _ h=>h) (Or.inl ⟨by rfl,?h3⟩) ?_
   case h3=>intro w;go_simp;with_reducible rfl
   refine wpAny_take (i:=4) (v:=?v4) rfl (by kernel_rfl) (by kernel_rfl) (by kernel_rfl) (λ_ _ _ h=>h) (Or.inl ⟨by rfl,?h4⟩) ?_
   case h4=>intro w;go_simp;with_reducible rfl
   refine wpAny_ready (rs:=[5,6]) (by kernel_rfl) (by simp) ?_;refine AllReady.cons rfl (λK hK=>?_) (AllReady.cons rfl (λK hK=>?_) AllReady.nil)
   ·go_simp
    refine hK _ _ ?_;clear hK K;refine wpAny_ready (rs:=[6]) (by kernel_rfl) (by simp) ?_;refine AllReady.cons rfl (λK hK=>?_) AllReady.nil;refine Lx _ (by rfl) _ (by rfl) w1.heap.size (by rfl) cs (rY HH.o II) ?_;refine hK _ _ ?_;clear hK K;refine wpAny_ready (rs:=[7]) (by kernel_rfl) (by simp) ?_;refine AllReady.cons rfl (λK hK=>?_) AllReady.nil;refine AA _ (by rfl) _ (by rfl) cs (by rfl) II.o ?_;refine hK _ _ ?_;clear hK K;refine wpAny_ready (rs:=[8]) (by kernel_rfl) (by simp) ?_;refine AllReady.cons rfl (λK hK=>?_) AllReady.nil
    (refine CU _ (by rfl) _ _ 51 102 _ 259 312 ahU Tryz.underlying51 jZ (by omega) (by rfl) w0.heap.size (.slice aa ca.length cva) (fZ ca) wc.heap.size cs (0,0) (by rfl) (OA.o.aC (S:=[]) (((aB.refl [] _).drew).alloc _) (by simp)) (by rfl) II.o (by exact bD _ _) adL.o (by rw[mI.o];omega) (by rw[mI.o];omega) (by simp;omega) (wc.heap.size+1) (by simp) ?_;intro gg aU w4 bT aH bq AO;have c4:=(aH.cell_far (zB kb 2) (by simp;omega) (Ne.symm ag));have f4:=(aH.frozen_far (zB kb 2) (by simp;omega) (Ne.symm ag));have f5:=f4.trans (g2z _);rw[mI.o]at bT |-)
    refine hK _ _ ?_;clear hK K;refine wpAny_take (i:=9) (v:=?v9) rfl (by kernel_rfl) (by kernel_rfl) (by kernel_rfl) (λ_ _ _ h=>h) (Or.inl ⟨by rfl,?h9⟩) ?_
    case h9=>intro w;go_simp;try with_reducible rfl
    refine wpAny_take (i:=10) (v:=?v10) rfl (by kernel_rfl) (by kernel_rfl) (by kernel_rfl) (λ_ _ _ h=>h) (Or.inl ⟨by rfl,?h10⟩) ?_
    case h10=>intro w;go_simp;try with_reducible rfl
    refine wpAny_take (i:=11) (v:=?v11) rfl (by kernel_rfl) (by kernel_rfl) (by kernel_rfl) (λ_ _ _ h=>h) (Or.inl ⟨by rfl,?h11⟩) ?_
    case h11=>intro w;go_simp;try with_reducible rfl
    refine wpAny_ready (rs:=[12]) (by kernel_rfl) (by simp) ?_;refine AllReady.cons rfl (λK hK=>?_) AllReady.nil;go_simp
    refine hK _ _ ?_;clear hK K;refine wpAny_done (by kernel_rfl) ?_ _;have G5:=aj aH;have O5:=aj bT;have YK:Z_ (Value.ownBlock (.slice aa ca.length cva)=some gg\/gg=(wc.drew.alloc (Obj.cells cs 102)).heap.size):=bq.imp id (λh=>by rw[h];simp);clear aH bT bq;go_wp2;go_ret2;have F3:aB [] wc (wc.drew.alloc (Obj.cells cs 102)):=((aB.refl [] wc).drew).alloc _;have O6:=O5.o;rw[Gi]at O6;have g5:=(HKG.o.aC F3 (by simp)).grow 3 (r:=⟨102,259,.slice aa ca.length cva,fZ ca⟩) (r':=⟨102,259,zS gg (ca.length+1) aU,fZ (ca++[cs])⟩) rfl G5.o O6 rfl YK;have r5:=(HRA.o.aC F3 (by simp)).turn G5.o (λr hr=>VP 3 (r:=⟨102,259,.slice aa ca.length cva,fZ ca⟩) rfl hr) YK.o (VN 3 (r:=⟨102,259,.slice aa ca.length cva,fZ ca⟩) (r':=⟨102,259,zS gg (ca.length+1) aU,fZ (ca++[cs])⟩) rfl rfl);have g6:KG Z w0 kb w4 (Gm ⟨vn,vc,zS gg (ca.length+1) aU,vt,vr,vi⟩ ⟨rt,ux,uq,ul⟩ { s with x:=s.x++[v],a:=s.a++[bI v] } (ca++[cs]) cq) (ca++[cs]) (s.a++[bI v]) cq s.q:=⟨g5.fr,g5.lo,g5.rw,g5.ai.snoc (r5.2 0 cs (bI v) rfl rfl),g5.qi⟩;have R6:=((HKR.o.aC F3 (by simp)).grown G5.o (λr hr e=>ag (by rw[hr,e]))).set (V':=⟨vn,vc,zS gg (ca.length+1) aU,vt,vr,vi⟩) (U':=⟨rt,ux,uq,ul⟩) 2 (zS gg (ca.length+1) aU) rfl;exact .inr (.inl ⟨HFE,HRE,rfl,_,_,⟨R6,ca++[cs],cq,g6.aC (S:=[kb]) ((aB.refl [kb] _).setCell (p:=(zB kb 2)) (.inl (by simp)) _) (by simp)⟩,⟨rfl,rfl,rfl,rfl⟩,KFC.o.trans (KF.put (s:=s) (s':=s) (ca:=ca) (cq:=cq) (ca':=ca++[cs]) (cq':=cq) F3 3 (r:=⟨102,259,.slice aa ca.length cva,fZ ca⟩) (r':=⟨102,259,zS gg (ca.length+1) aU,fZ (ca++[cs])⟩) rfl rfl G5.o rfl YK.o 2 _)⟩)
   refine Lx _ (by rfl) _ (by rfl) w1.heap.size (by rfl) cs (rY HH.o II) ?_;refine hK _ _ ?_;clear hK K;refine wpAny_ready (rs:=[5,7]) (by kernel_rfl) (by simp) ?_;refine AllReady.cons rfl (λK hK=>?_) (AllReady.cons rfl (λK hK=>?_) AllReady.nil)
   ·go_simp
    refine hK _ _ ?_;clear hK K;refine wpAny_ready (rs:=[7]) (by kernel_rfl) (by simp) ?_;refine AllReady.cons rfl (λK hK=>?_) AllReady.nil;refine AA _ (by rfl) _ (by rfl) cs (by rfl) II.o ?_;refine hK _ _ ?_;clear hK K;refine wpAny_ready (rs:=[8]) (by kernel_rfl) (by simp) ?_;refine AllReady.cons rfl (λK hK=>?_) AllReady.nil
    (refine CU _ (by rfl) _ _ 51 102 _ 259 312 ahU Tryz.underlying51 jZ (by omega) (by rfl) w0.heap.size (.slice aa ca.length cva) (fZ ca) wc.heap.size cs (0,0) (by rfl) (OA.o.aC (S:=[]) (((aB.refl [] _).drew).alloc _) (by simp)) (by rfl) II.o (by exact bD _ _) adL.o (by rw[mI.o];omega) (by rw[mI.o];omega) (by simp;omega) (wc.heap.size+1) (by simp) ?_;intro gg aU w4 bT aH bq AO;have c4:=(aH.cell_far (zB kb 2) (by simp;omega) (Ne.symm ag));have f4:=(aH.frozen_far (zB kb 2) (by simp;omega) (Ne.symm ag));have f5:=f4.trans (g2z _);rw[mI.o]at bT |-)
    refine hK _ _ ?_;clear hK K;refine wpAny_take (i:=9) (v:=?v9) rfl (by kernel_rfl) (by kernel_rfl) (by kernel_rfl) (λ_ _ _ h=>h) (Or.inl ⟨by rfl,?h9⟩) ?_
    case h9=>intro w;go_simp;try with_reducible rfl
    refine wpAny_take (i:=10) (v:=?v10) rfl (by kernel_rfl) (by kernel_rfl) (by kernel_rfl) (λ_ _ _ h=>h) (Or.inl ⟨by rfl,?h10⟩) ?_
    case h10=>intro w;go_simp;try with_reducible rfl
    refine wpAny_take (i:=11) (v:=?v11) rfl (by kernel_rfl) (by kernel_rfl) (by kernel_rfl) (λ_ _ _ h=>h) (Or.inl ⟨by rfl,?h11⟩) ?_
    case h11=>intro w;go_simp;try with_reducible rfl
    refine wpAny_ready (rs:=[12]) (by kernel_rfl) (by simp) ?_;refine AllReady.cons rfl (λK hK=>?_) AllReady.nil;go_simp
    refine hK _ _ ?_;clear hK K;refine wpAny_done (by kernel_rfl) ?_ _;have G5:=aj aH;have O5:=aj bT;have YK:Z_ (Value.ownBlock (.slice aa ca.length cva)=some gg\/gg=(wc.drew.alloc (Obj.cells cs 102)).heap.size):=bq.imp id (λh=>by rw[h];simp);clear aH bT bq;go_wp2;go_ret2;have F3:aB [] wc (wc.drew.alloc (Obj.cells cs 102)):=((aB.refl [] wc).drew).alloc _;have O6:=O5.o;rw[Gi]at O6;have g5:=(HKG.o.aC F3 (by simp)).grow 3 (r:=⟨102,259,.slice aa ca.length cva,fZ ca⟩) (r':=⟨102,259,zS gg (ca.length+1) aU,fZ (ca++[cs])⟩) rfl G5.o O6 rfl YK;have r5:=(HRA.o.aC F3 (by simp)).turn G5.o (λr hr=>VP 3 (r:=⟨102,259,.slice aa ca.length cva,fZ ca⟩) rfl hr) YK.o (VN 3 (r:=⟨102,259,.slice aa ca.length cva,fZ ca⟩) (r':=⟨102,259,zS gg (ca.length+1) aU,fZ (ca++[cs])⟩) rfl rfl);have g6:KG Z w0 kb w4 (Gm ⟨vn,vc,zS gg (ca.length+1) aU,vt,vr,vi⟩ ⟨rt,ux,uq,ul⟩ { s with x:=s.x++[v],a:=s.a++[bI v] } (ca++[cs]) cq) (ca++[cs]) (s.a++[bI v]) cq s.q:=⟨g5.fr,g5.lo,g5.rw,g5.ai.snoc (r5.2 0 cs (bI v) rfl rfl),g5.qi⟩;have R6:=((HKR.o.aC F3 (by simp)).grown G5.o (λr hr e=>ag (by rw[hr,e]))).set (V':=⟨vn,vc,zS gg (ca.length+1) aU,vt,vr,vi⟩) (U':=⟨rt,ux,uq,ul⟩) 2 (zS gg (ca.length+1) aU) rfl;exact .inr (.inl ⟨HFE,HRE,rfl,_,_,⟨R6,ca++[cs],cq,g6.aC (S:=[kb]) ((aB.refl [kb] _).setCell (p:=(zB kb 2)) (.inl (by simp)) _) (by simp)⟩,⟨rfl,rfl,rfl,rfl⟩,KFC.o.trans (KF.put (s:=s) (s':=s) (ca:=ca) (cq:=cq) (ca':=ca++[cs]) (cq':=cq) F3 3 (r:=⟨102,259,.slice aa ca.length cva,fZ ca⟩) (r':=⟨102,259,zS gg (ca.length+1) aU,fZ (ca++[cs])⟩) rfl rfl G5.o rfl YK.o 2 _)⟩)
   refine AA _ (by rfl) _ (by rfl) cs (by rfl) II.o ?_;refine hK _ _ ?_;clear hK K;refine wpAny_ready (rs:=[5]) (by kernel_rfl) (by simp) ?_;refine AllReady.cons rfl (λK hK=>?_) AllReady.nil;have c2a:zC (wc.drew.alloc (Obj.cells cs 102)) kb 2 (.slice aa ca.length cva):=((((aB.refl [] wc).drew).alloc _).cell (p:=(zB kb 2)) hkc (by simp)).trans c2;go_simp
   refine hK _ _ ?_;clear hK K;refine wpAny_ready (rs:=[8]) (by kernel_rfl) (by simp) ?_;refine AllReady.cons rfl (λK hK=>?_) AllReady.nil
   (refine CU _ (by rfl) _ _ 51 102 _ 259 312 ahU Tryz.underlying51 jZ (by omega) (by rfl) w0.heap.size (.slice aa ca.length cva) (fZ ca) wc.heap.size cs (0,0) (by rfl) (OA.o.aC (S:=[]) (((aB.refl [] _).drew).alloc _) (by simp)) (by rfl) II.o (by exact bD _ _) adL.o (by rw[mI.o];omega) (by rw[mI.o];omega) (by simp;omega) (wc.heap.size+1) (by simp) ?_;intro gg aU w4 bT aH bq AO;have c4:=(aH.cell_far (zB kb 2) (by simp;omega) (Ne.symm ag));have f4:=(aH.frozen_far (zB kb 2) (by simp;omega) (Ne.symm ag));have f5:=f4.trans (g2z _);rw[mI.o]at bT |-)
   refine hK _ _ ?_;clear hK K;refine wpAny_take (i:=9) (v:=?v9) rfl (by kernel_rfl) (by kernel_rfl) (by kernel_rfl) (λ_ _ _ h=>h) (Or.inl ⟨by rfl,?h9⟩) ?_
   case h9=>intro w;go_simp;try with_reducible rfl
   refine wpAny_take (i:=10) (v:=?v10) rfl (by kernel_rfl) (by kernel_rfl) (by kernel_rfl) (λ_ _ _ h=>h) (Or.inl ⟨by rfl,?h10⟩) ?_
   case h10=>intro w;go_simp;try with_reducible rfl
   refine wpAny_take (i:=11) (v:=?v11) rfl (by kernel_rfl) (by kernel_rfl) (by kernel_rfl) (λ_ _ _ h=>h) (Or.inl ⟨by rfl,?h11⟩) ?_
   case h11=>intro w;go_simp;try with_reducible rfl
   refine wpAny_ready (rs:=[12]) (by kernel_rfl) (by simp) ?_;refine AllReady.cons rfl (λK hK=>?_) AllReady.nil;go_simp
   refine hK _ _ ?_;clear hK K;refine wpAny_done (by kernel_rfl) ?_ _;have G5:=aj aH;have O5:=aj bT;have YK:Z_ (Value.ownBlock (.slice aa ca.length cva)=some gg\/gg=(wc.drew.alloc (Obj.cells cs 102)).heap.size):=bq.imp id (λh=>by rw[h];simp);clear aH bT bq;go_wp2;go_ret2;have F3:aB [] wc (wc.drew.alloc (Obj.cells cs 102)):=((aB.refl [] wc).drew).alloc _;have O6:=O5.o;rw[Gi]at O6;have g5:=(HKG.o.aC F3 (by simp)).grow 3 (r:=⟨102,259,.slice aa ca.length cva,fZ ca⟩) (r':=⟨102,259,zS gg (ca.length+1) aU,fZ (ca++[cs])⟩) rfl G5.o O6 rfl YK;have r5:=(HRA.o.aC F3 (by simp)).turn G5.o (λr hr=>VP 3 (r:=⟨102,259,.slice aa ca.length cva,fZ ca⟩) rfl hr) YK.o (VN 3 (r:=⟨102,259,.slice aa ca.length cva,fZ ca⟩) (r':=⟨102,259,zS gg (ca.length+1) aU,fZ (ca++[cs])⟩) rfl rfl);have g6:KG Z w0 kb w4 (Gm ⟨vn,vc,zS gg (ca.length+1) aU,vt,vr,vi⟩ ⟨rt,ux,uq,ul⟩ { s with x:=s.x++[v],a:=s.a++[bI v] } (ca++[cs]) cq) (ca++[cs]) (s.a++[bI v]) cq s.q:=⟨g5.fr,g5.lo,g5.rw,g5.ai.snoc (r5.2 0 cs (bI v) rfl rfl),g5.qi⟩;have R6:=((HKR.o.aC F3 (by simp)).grown G5.o (λr hr e=>ag (by rw[hr,e]))).set (V':=⟨vn,vc,zS gg (ca.length+1) aU,vt,vr,vi⟩) (U':=⟨rt,ux,uq,ul⟩) 2 (zS gg (ca.length+1) aU) rfl;exact .inr (.inl ⟨HFE,HRE,rfl,_,_,⟨R6,ca++[cs],cq,g6.aC (S:=[kb]) ((aB.refl [kb] _).setCell (p:=(zB kb 2)) (.inl (by simp)) _) (by simp)⟩,⟨rfl,rfl,rfl,rfl⟩,KFC.o.trans (KF.put (s:=s) (s':=s) (ca:=ca) (cq:=cq) (ca':=ca++[cs]) (cq':=cq) F3 3 (r:=⟨102,259,.slice aa ca.length cva,fZ ca⟩) (r':=⟨102,259,zS gg (ca.length+1) aU,fZ (ca++[cs])⟩) rfl rfl G5.o rfl YK.o 2 _)⟩)
 have HRE:=aj Gg;have bJ:((re v:Int) != 0)=true:=by rw[a1M];omega
 have hne':decide ((re v:Int)=0)=false:=a0f (by omega);clear iG qh fI al7;go_wp2;go_ret2;exact .inr (.inr ⟨HFE,HRE,rfl,K3.o.fr,KF.of F13⟩)
def KS.Dx {U:V4}(h:KS Z w0 kb w V U s):∀g∈kb::Mf V U,g<w.heap.size:=by obtain⟨ca,cq,g⟩:=h.g;exact g.ait
theorem KF.aY {a wb:World} {U e:V4}(h:KF kb a V U wb V1 e) {o:Obj}(c:∀g∈kb::Mf V U,g<n)(hb:n<=b)(ho:a.heap[b]?=some o):wb.heap[b]?=some o :=
 (h.f.block b (a0c.1 ho).1 (λd=>by have:=c b d;omega)).trans ho
def aeq(h:iL L x=L.length):l9 L x=L++[x]:=by unfold l9;rw[a0m h]
def aer(h:¬ iL L x=L.length):l9 L x=L:=by unfold l9;rw[a0n h]
def TOQ(Z:LN)(re:LB->Nat)(bI:LB->gz)(w0:World)(kb:Nat)(w:World)(V:V6)(U:V4)(s:CS)(m:CM)(e:Ending)(w':World):Prop :=
 (nP re bI s m=none/\re m.2.2≠0/\aB [kb] w0 w'/\∃t,e=zQ #[.agg (kV t),zI (re m.2.2:Nat)]) \/
 (∃t s1 V' U',nP re bI s m=some (t,s1)/\e=zQ #[.agg (kV t),zI 0]/\KS Z w0 kb w' V' U' s1/\KV V V' U U'/\KF kb w V U w' V' U')
def avn:(Tryz.prog.info? 104).map (·.size)=some 3:=by kernel_rfl
def wZ {cs:Array Value}(h:w.heap[g]?=some (.cells cs 104 (0,0)))(a:cs.size=3):(loadVar 104 (zA g)).run Tryz.prog w=.ok (.agg cs) w :=
 run_loadVar_row w g 104 104 cs (0,0) _ h Tryz.underlying104 rfl (by rw[a];exact avn)
def xc {t:TypeId} {f e d:Value}(c b a:Value)(h:w.heap[g]?=some (.cells #[f,e,d] t (0,0))):(((w.setCell (zA g) c).setCell (zB g 1) b).setCell (zB g 2) a).heap[g]?=some (.cells #[c,b,a] t (0,0)):=by simp[World.setCell,a0v,h]
def VQ(w:World)(g:Nat)(c b a:Value):aB [g] w (((w.setCell (zA g) c).setCell (zB g 1) b).setCell (zB g 2) a) :=
 (((aB.refl [g] _).setCell (p:=(zA g)) (.inl (by simp)) _).setCell (p:=(zB g 1)) (.inl (by simp)) _).setCell (p:=(zB g 2)) (.inl (by simp)) _
def aiu(Z:LN)(re:LB->Nat)(bI:LB->gz)(w0:World)(kb:Nat)(w:World)(V:V6)(U:V4)(s:CS)(h:KS Z w0 kb w V U s)(hZ:∀g∈Z,g<w.heap.size)(nm:LB)(kd:Nat)(i:LB)(hv:(kd=2\/kd=3)->RCP re bI i)(hkd:kd<=3)(hbn:s.n.length<=1000)(XL:s.c.length<=1000)(Nz:s.x.length<=1000)(hba:s.a.length<=1000) :
 zF 50 #[zP kb,.agg #[zT nm,zI (kd:Nat),zT i]] w (TOQ Z re bI w0 kb w V U s (nm,kd,i)):=by
 obtain⟨vn,C,z,vt,vr,y⟩:=V;have Y:OW 9 1 w0.heap.size w vn (sc s.n):=h.own 0 (r:=⟨9,1,vn,sc s.n⟩) (λca cq=>rfl);obtain⟨F,cn,he⟩:=Y.shape;rw[iC]at he;subst he;have HOL:=aj h.Dx;have HK:=aj h;have jU:=h.lo;have YG:=h.row.lt;have Xn:=Eg s.n nm;have c0:=h.row.c 0;simp at c0;have N1:Z_ (∀W,aB [] w W->zF 80 #[.slice F s.n.length cn,zT nm] W λe w'=>e=zR (zI (iL s.n nm:Nat))/\w'=W):=λW hW=>(VE W _ [] s.n nm ((Y.rw (by simp)).aC hW (by simp)) (by omega)).mono (λe w' h=>⟨h.1,h.2.symm⟩)
 have FW:Z_ (∀n,aB [] w (((w.alloc (Obj.cells #[zT nm,zI (kd:Nat),zT i] 140)).alloc (Obj.cells #[zI 0,zI 0,zI 0] 104)).drewN n)):=λn=>(((aB.refl [] w).alloc _).alloc _).drewN n
 clear h Y;delta zF;go_in
 go_upto_region 1 with fail
 go_cut [6] (λv6 wc=>True/\v6=zI (iL s.n nm:Nat)/\aB [] w wc/\wc.heap[w.heap.size]?=some (.cells #[zT nm,zI (kd:Nat),zT i] 140 (0,0))/\wc.heap[w.heap.size+1]?=some (.cells #[zI 0,zI 0,zI 0] 104 (0,0)))
 case first =>
  go_quiet ((go_at_call 80;exact Calls.quiet_of_same (N1.o _ (FW.o _))))
  go_wp2;go_meet;exact⟨trivial,rfl,FW.o _,(((aB.refl [] _).alloc _).block w.heap.size (by simp) (by simp)).trans (bD _ _),Nf _ _ _⟩
 case rest =>
  obtain⟨_,rfl,E,hm,ht⟩:=hcut;obtain⟨N,hwa⟩:∃N,N=wc:=⟨_,rfl⟩;subst hwa;have KA:Z_ (KS ((w.heap.size+1)::w.heap.size::Z) w0 kb N ⟨.slice F s.n.length cn,C,z,vt,vr,y⟩ U s):=((HK.o.alU (a0b _)).alU (Nat.le_succ _)).aC E;have HM:=aj hm;have HT:=aj ht;have HFA:=aj E;have Qa:=E.size;have ZJ:w.heap.size+1<N.heap.size:=(a0c.1 ht).1;have m0:zC N w.heap.size 0 (zT nm):=by simp[World.cell?,hm]
  have d0:=E.at (p:=(zA kb)) YG c0;have z0:=KA.o.row.fz 0;have hka:=KA.o.row.lt;have OA:=aj (KA.o.own 0 (r:=⟨9,1,.slice F s.n.length cn,sc s.n⟩) (λca cq=>rfl));have X:Z_ ((sc s.n).length=s.n.length):=iC s.n;have Dt:Z_ (∀r,Value.ownBlock (.slice F s.n.length cn)=some r->r≠kb):=λr hr=>by have:=(OA.o.lt hr).1;omega
  have gT:=jU.2;clear E hm ht N1 FW c0;go_upto_if 25 with fail
  go_cut [6] (λv6 wc=>True/\v6=zI (iL s.n nm:Nat)/\∃q,KS ((w.heap.size+1)::w.heap.size::Z) w0 kb wc ⟨q,C,z,vt,vr,y⟩ U { s with n:=l9 s.n nm }/\KF kb N ⟨.slice F s.n.length cn,C,z,vt,vr,y⟩ U wc ⟨q,C,z,vt,vr,y⟩ U)
  case first =>
   by_cases M:iL s.n nm=s.n.length
   .have B:=aj (aeq M)
    have kv:((iL s.n nm:Int)==(s.n.length:Int))=true:=by rw[M];simp
    have HFE:=aj M;clear Xn;generalize iL s.n nm=fx at *;subst M;go_wp2_with fail
    go_region_law ((refine CU _ (by rfl) _ _ 44 9 _ 1 16 uY Tryz.underlying44 (by rfl) (by omega) (by rfl) w0.heap.size (.slice F s.n.length cn) (sc s.n) N.heap.size #[zT nm] (0,0) (by rfl) (OA.o.aC (S:=[]) (((aB.refl [] _).alloc _).drew) (by simp)) (by rfl) (by rfl) (by exact bD _ _) (by simp[Value.oneCell']) (by rw[X.o];omega) (by rw[X.o];omega) (by simp;omega) (N.heap.size+1) (by simp) ?_;intro gg m w4 bT P bq AO;rw[X.o]at bT |-;have R4:=aj ((KA.o.row.aC (S:=[]) (((aB.refl [] _).alloc _).drew) (by simp)).grown P Dt);have k0:=R4.o.c 0;have y0:=R4.o.fz 0;simp at k0))
    all_goals
     have O4:OW 9 1 w0.heap.size w4 (zS gg (s.n.length+1) m) (sc (s.n++[nm])):=by rw[<-abt];exact bT
     have K5:=aj (KA.o.put (((aB.refl [] _).alloc _).drew) 0 ⟨9,1,.slice F s.n.length cn,sc s.n⟩ ⟨9,1,zS gg (s.n.length+1) m,sc (s.n++[nm])⟩ (V':=⟨zS gg (s.n.length+1) m,C,z,vt,vr,y⟩) (U':=U) (s':={ s with n:=s.n++[nm] }) (λca cq=>rfl) (λca cq=>rfl) rfl rfl P O4 rfl (by simpa using bq) 0 (zS gg (s.n.length+1) m) rfl);have R:Z_ (KF kb N ⟨.slice F s.n.length cn,C,z,vt,vr,y⟩ U (w4.setCell (zA kb) (zS gg (s.n.length+1) m)) ⟨zS gg (s.n.length+1) m,C,z,vt,vr,y⟩ U):=KF.put (s:=s) (s':={ s with n:=s.n++[nm] }) (ca:=[]) (cq:=[]) (ca':=[]) (cq':=[]) (((aB.refl [] _).alloc _).drew) 0 (r:=⟨9,1,.slice F s.n.length cn,sc s.n⟩) (r':=⟨9,1,zS gg (s.n.length+1) m,sc (s.n++[nm])⟩) rfl rfl P rfl (by simpa using bq) 0 _;clear P bT bq k0 y0 R4 O4;go_wp2;go_meet;exact⟨trivial,rfl,_,by rw[B.o];exact K5,R⟩
   have B:=aj (aer M);have kv:((iL s.n nm:Int)==(s.n.length:Int))=false:=by rw[a0j];omega
   have jR:decide ((iL s.n nm:Int)=(s.n.length:Int))=false:=a0f (by omega);generalize iL s.n nm=fx at *;go_wp2;go_meet;exact⟨trivial,rfl,_,by rw[B.o];exact KA,KF.refl _ _ _ _⟩
  case rest =>
   obtain⟨_,rfl,q,hKB,O⟩:=hcut;obtain⟨wb,EH⟩:∃wb,wb=wc:=⟨_,rfl⟩;subst EH;have KB:=aj hKB;have KFB:=aj O;have hmb:=O.aY HOL.o (a0b _) HM;have m1:zC wb w.heap.size 1 (zI (kd:Nat)):=by simp[World.cell?,hmb]
   have m2:zC wb w.heap.size 2 (zT i):=by simp[World.cell?,hmb]
   have Yk:=O.f.size;have hkb:=hKB.row.lt;have HZ2:Z_ (∀g∈(w.heap.size+1)::w.heap.size::Z,g<wb.heap.size):=λg hg=>by
    simp at hg;rcases hg with rfl|rfl|hg
    .omega
    .omega
    have:=hZ g hg;omega
   have D:Z_ (∀(j:World) (J:V6) (L:V4) (s3:CS) (a b c:Value),KS ((w.heap.size+1)::w.heap.size::Z) w0 kb j J L s3->KF kb wb ⟨q,C,z,vt,vr,y⟩ U j J L->KS Z w0 kb (((j.setCell (zA (w.heap.size+1)) a).setCell (zB (w.heap.size+1) 1) b).setCell (zB (w.heap.size+1) 2) c) J L s3/\KF kb w ⟨.slice F s.n.length cn,C,z,vt,vr,y⟩ U (((j.setCell (zA (w.heap.size+1)) a).setCell (zB (w.heap.size+1) 1) b).setCell (zB (w.heap.size+1) 2) c) J L):=by
    intro j J L s3 a b c hk hf;have fI:=KFB.o.trans hf;have FS:=VQ j (w.heap.size+1) a b c;have k:=hk.off FS (by simp) (by simp;omega) (by
     intro g hg hm;simp at hg;subst hg;rcases fI.o _ hm with u|u
     .have:=HOL.o (w.heap.size+1) (by simp[u]);omega
     omega)
    have K:=(KF.of (kb:=kb) (V:=⟨.slice F s.n.length cn,C,z,vt,vr,y⟩) (U:=U) HFA).trans fI;exact⟨k.afK.afK,K.f.over FS (by simp),K.o⟩
   have Mg:Z_ (∀(j:World) (J:V6) (L:V4),KF kb wb ⟨q,C,z,vt,vr,y⟩ U j J L->j.heap[w.heap.size+1]?=some (.cells #[zI 0,zI 0,zI 0] 104 (0,0))):=λj J L hf=>(KFB.o.trans hf).aY HOL.o (Nat.le_succ _) HT
   clear hKB O hmb m0 d0 z0 OA X Dt
   by_cases hk:kd=2\/kd=3
   .have N2:=aj (Jb ((w.heap.size+1)::w.heap.size::Z) re bI w0 kb wb ⟨q,C,z,vt,vr,y⟩ U { s with n:=l9 s.n nm } KB.o HZ2.o i (hv hk) Nz hba)
    have v:Z_ (nP re bI s (nm,kd,i)=if iL s.x i<s.x.length then some (⟨iL s.n nm,1,iL s.x i⟩,{ s with n:=l9 s.n nm }) else if re i=0 then some (⟨iL s.n nm,1,iL s.x i⟩,{ s with n:=l9 s.n nm,x:=s.x++[i],a:=s.a++[bI i] }) else none):=by
     show _=_;unfold nP;rw[a0m hk]
    have hfx:=Eg s.x i;generalize iL s.n nm=fn at *;rcases hk with rfl|rfl
    .go_wp2_with fail
     refine(N2.o).mono ?_;clear N2;rintro e j hN;rcases hN with⟨k,rfl,H,l⟩|⟨k,u,rfl,J,L,H,G,l⟩|⟨k,u,rfl,Gq,l⟩
     .have hE:=D.o j _ _ _ (zI (fn:Nat)) (zI 1) (zI (iL s.x i:Nat)) H l
      have d:=Mg.o j _ _ l;have t:=aj hE;have A:=aj d;have I:Z_ (nP re bI s (nm,2,i)=some (⟨fn,1,iL s.x i⟩,{ s with n:=l9 s.n nm })):=by
       show _=_;rw[v.o,a0m k]
      have t0:zC j (w.heap.size+1) 0 (zI 0):=by simp[World.cell?,d]
      have t1:zC j (w.heap.size+1) 1 (zI 0):=by simp[World.cell?,d]
      have t2:zC j (w.heap.size+1) 2 (zI 0):=by simp[World.cell?,d]
      have tz:∀o,j.frozen? (zB (w.heap.size+1) o)=false:=λo=>by simp[World.frozen?,d]
      clear hE d k H l v;generalize iL s.x i=fv at *;go_wp2_with fail
      refine bodyPost_ret (bS rfl _ _ (w.heap.size+1) (kV ⟨fn,1,fv⟩) rfl (wZ (xc _ _ _ A) rfl)) rfl ?_;exact .inr ⟨_,_,_,_,I,rfl,t.o.1,KV.refl _ _,t.o.2⟩
     .have hE:=D.o j _ _ _ (zI (fn:Nat)) (zI 1) (zI (s.x.length:Nat)) H l
      have d:=Mg.o j _ _ l;have t:=aj hE;have A:=aj d;have I:Z_ (nP re bI s (nm,2,i)=some (⟨fn,1,s.x.length⟩,{ s with n:=l9 s.n nm,x:=s.x++[i],a:=s.a++[bI i] })):=by
       show _=_;rw[v.o,a0n (by simp only at k;omega),a0m u];simp only at k;rw[k]
      have T:=aj G;have t0:zC j (w.heap.size+1) 0 (zI 0):=by simp[World.cell?,d]
      have t1:zC j (w.heap.size+1) 1 (zI 0):=by simp[World.cell?,d]
      have t2:zC j (w.heap.size+1) 2 (zI 0):=by simp[World.cell?,d]
      have tz:∀o,j.frozen? (zB (w.heap.size+1) o)=false:=λo=>by simp[World.frozen?,d]
      clear hE d k u H G l v;go_wp2_with fail
      refine bodyPost_ret (bS rfl _ _ (w.heap.size+1) (kV ⟨fn,1,s.x.length⟩) rfl (wZ (xc _ _ _ A) rfl)) rfl ?_;exact .inr ⟨_,_,_,_,I,rfl,t.o.1,⟨T.o.1,T.o.2.1,T.o.2.2.1,T.o.2.2.2⟩,t.o.2⟩
     have d:=Mg.o j _ _ l;have A:=aj d;have I:Z_ (nP re bI s (nm,2,i)=none):=by
      show _=_;rw[v.o,a0n (by simp only at k;omega),a0n u]
     have HRE:=aj u;have F3:=aj Gq;have t0:zC j (w.heap.size+1) 0 (zI 0):=by simp[World.cell?,d]
     have t1:zC j (w.heap.size+1) 1 (zI 0):=by simp[World.cell?,d]
     have t2:zC j (w.heap.size+1) 2 (zI 0):=by simp[World.cell?,d]
     have tz:∀o,j.frozen? (zB (w.heap.size+1) o)=false:=λo=>by simp[World.frozen?,d]
     clear d k u Gq l v;go_wp2_with fail
     refine bodyPost_ret (bS rfl _ _ (w.heap.size+1) (kV ⟨fn,1,0⟩) rfl (wZ (xc _ _ _ A) rfl)) rfl ?_;exact .inl ⟨I,HRE,F3.o.over (VQ _ _ _ _ _) (by simp;omega),_,rfl⟩
    go_wp2_with fail
    refine(N2.o).mono ?_;clear N2;rintro e j hN;rcases hN with⟨k,rfl,H,l⟩|⟨k,u,rfl,J,L,H,G,l⟩|⟨k,u,rfl,Gq,l⟩
    .have hE:=D.o j _ _ _ (zI (fn:Nat)) (zI 1) (zI (iL s.x i:Nat)) H l
     have d:=Mg.o j _ _ l;have t:=aj hE;have A:=aj d;have I:Z_ (nP re bI s (nm,3,i)=some (⟨fn,1,iL s.x i⟩,{ s with n:=l9 s.n nm })):=by
      show _=_;rw[v.o,a0m k]
     have t0:zC j (w.heap.size+1) 0 (zI 0):=by simp[World.cell?,d]
     have t1:zC j (w.heap.size+1) 1 (zI 0):=by simp[World.cell?,d]
     have t2:zC j (w.heap.size+1) 2 (zI 0):=by simp[World.cell?,d]
     have tz:∀o,j.frozen? (zB (w.heap.size+1) o)=false:=λo=>by simp[World.frozen?,d]
     clear hE d k H l v;generalize iL s.x i=fv at *;go_wp2_with fail
     refine bodyPost_ret (bS rfl _ _ (w.heap.size+1) (kV ⟨fn,1,fv⟩) rfl (wZ (xc _ _ _ A) rfl)) rfl ?_;exact .inr ⟨_,_,_,_,I,rfl,t.o.1,KV.refl _ _,t.o.2⟩
    .have hE:=D.o j _ _ _ (zI (fn:Nat)) (zI 1) (zI (s.x.length:Nat)) H l
     have d:=Mg.o j _ _ l;have t:=aj hE;have A:=aj d;have I:Z_ (nP re bI s (nm,3,i)=some (⟨fn,1,s.x.length⟩,{ s with n:=l9 s.n nm,x:=s.x++[i],a:=s.a++[bI i] })):=by
      show _=_;rw[v.o,a0n (by simp only at k;omega),a0m u];simp only at k;rw[k]
     have T:=aj G;have t0:zC j (w.heap.size+1) 0 (zI 0):=by simp[World.cell?,d]
     have t1:zC j (w.heap.size+1) 1 (zI 0):=by simp[World.cell?,d]
     have t2:zC j (w.heap.size+1) 2 (zI 0):=by simp[World.cell?,d]
     have tz:∀o,j.frozen? (zB (w.heap.size+1) o)=false:=λo=>by simp[World.frozen?,d]
     clear hE d k u H G l v;go_wp2_with fail
     refine bodyPost_ret (bS rfl _ _ (w.heap.size+1) (kV ⟨fn,1,s.x.length⟩) rfl (wZ (xc _ _ _ A) rfl)) rfl ?_;exact .inr ⟨_,_,_,_,I,rfl,t.o.1,⟨T.o.1,T.o.2.1,T.o.2.2.1,T.o.2.2.2⟩,t.o.2⟩
    have d:=Mg.o j _ _ l;have A:=aj d;have I:Z_ (nP re bI s (nm,3,i)=none):=by
     show _=_;rw[v.o,a0n (by simp only at k;omega),a0n u]
    have HRE:=aj u;have F3:=aj Gq;have t0:zC j (w.heap.size+1) 0 (zI 0):=by simp[World.cell?,d]
    have t1:zC j (w.heap.size+1) 1 (zI 0):=by simp[World.cell?,d]
    have t2:zC j (w.heap.size+1) 2 (zI 0):=by simp[World.cell?,d]
    have tz:∀o,j.frozen? (zB (w.heap.size+1) o)=false:=λo=>by simp[World.frozen?,d]
    clear d k u Gq l v;go_wp2_with fail
    refine bodyPost_ret (bS rfl _ _ (w.heap.size+1) (kV ⟨fn,1,0⟩) rfl (wZ (xc _ _ _ A) rfl)) rfl ?_;exact .inl ⟨I,HRE,F3.o.over (VQ _ _ _ _ _) (by simp;omega),_,rfl⟩
   have v:Z_ (nP re bI s (nm,kd,i)=some (⟨iL s.n nm,0,iL s.c i⟩,{ s with n:=l9 s.n nm,c:=l9 s.c i })):=by
    show _=_;unfold nP;rw[a0n hk]
   have JG:((kd:Int)==2)=false:=by rw[a0j];omega
   have Vo:((kd:Int)==3)=false:=by rw[a0j];omega
   have ayS:decide ((kd:Int)=2)=false:=a0f (by omega);have ayT:decide ((kd:Int)=3)=false:=a0f (by omega);have Y:OW 9 1 w0.heap.size wb C (sc s.c):=KB.o.own 1 (r:=⟨9,1,C,sc s.c⟩) (λca cq=>rfl);obtain⟨ac,VR,he⟩:=Y.shape;rw[iC]at he;subst he;have c1:=KB.o.row.c 1;simp at c1;have z1:=KB.o.row.fz 1;have N3:Z_ (∀W,aB [] wb W->zF 80 #[.slice ac s.c.length VR,zT i] W λe w'=>e=zR (zI (iL s.c i:Nat))/\w'=W):=λW hW=>(VE W _ [] s.c i ((Y.rw (by simp)).aC hW (by simp)) (by omega)).mono (λe w' h=>⟨h.1,h.2.symm⟩)
   have FB:Z_ (∀n,aB [] wb (wb.drewN n)):=λn=>(aB.refl [] _).drewN n
   have OB:=aj Y;have hfc:=Eg s.c i;have X:Z_ ((sc s.c).length=s.c.length):=iC s.c;have Dt:Z_ (∀r,Value.ownBlock (.slice ac s.c.length VR)=some r->r≠kb):=λr hr=>by have:=(OB.o.lt hr).1;omega
   have hmw:w.heap.size<wb.heap.size:=by omega
   have ayU:∀n,kb<(wb.drewN n).heap.size:=λn=>hkb
   have ayV:∀n,w.heap.size<(wb.drewN n).heap.size:=λn=>hmw
   have c1d:∀n o,zC ((wb.drewN n).alloc o) kb 1 (.slice ac s.c.length VR):=λn o=>((((aB.refl [] wb).drewN n).alloc o).cell (p:=(zB kb 1)) hkb (by simp)).trans c1
   clear Y;generalize iL s.n nm=fn at *
   by_cases M:iL s.c i=s.c.length
   .have B:=aj (aeq M)
    rw[M]at N3 v;clear hfc M;go_wp2_with fail
    go_quiet ((go_at_call 80;exact Calls.quiet_of_same (N3.o _ (FB.o _))))
    go_wp2_with fail
    go_region_law ((refine CU _ (by rfl) _ _ 44 9 _ 1 16 uY Tryz.underlying44 (by rfl) (by omega) (by rfl) w0.heap.size (.slice ac s.c.length VR) (sc s.c) wb.heap.size #[zT i] (0,0) (by rfl) (OB.o.aC (S:=[]) (((aB.refl [] _).drewN _).alloc _) (by simp)) (by rfl) (by rfl) (by exact bD (wb.drewN _) _) (by simp[Value.oneCell']) (by rw[X.o];omega) (by rw[X.o];omega) (by simp;omega) (wb.heap.size+1) (by simp) ?_;intro gg m w4 bT P bq AO;rw[X.o]at bT |-;have R4:=aj ((KB.o.row.aC (S:=[]) (((aB.refl [] _).drewN _).alloc _) (by simp)).grown P Dt);have k1:=R4.o.c 1;have y1:=R4.o.fz 1;simp at k1))
    all_goals
     have O4:OW 9 1 w0.heap.size w4 (zS gg (s.c.length+1) m) (sc (s.c++[i])):=by rw[<-abt];exact bT
     have K5:=aj (KB.o.put (((aB.refl [] _).drewN _).alloc _) 1 ⟨9,1,.slice ac s.c.length VR,sc s.c⟩ ⟨9,1,zS gg (s.c.length+1) m,sc (s.c++[i])⟩ (V':=⟨q,zS gg (s.c.length+1) m,z,vt,vr,y⟩) (U':=U) (s':={ s with n:=l9 s.n nm,c:=s.c++[i] }) (λca cq=>rfl) (λca cq=>rfl) rfl rfl P O4 rfl (by simpa using bq) 1 (zS gg (s.c.length+1) m) rfl);have R:Z_ (KF kb wb ⟨q,.slice ac s.c.length VR,z,vt,vr,y⟩ U (w4.setCell (zB kb 1) (zS gg (s.c.length+1) m)) ⟨q,zS gg (s.c.length+1) m,z,vt,vr,y⟩ U):=KF.put (s:=s) (s':={ s with c:=s.c++[i] }) (ca:=[]) (cq:=[]) (ca':=[]) (cq':=[]) (((aB.refl [] _).drewN _).alloc _) 1 (r:=⟨9,1,.slice ac s.c.length VR,sc s.c⟩) (r':=⟨9,1,zS gg (s.c.length+1) m,sc (s.c++[i])⟩) rfl rfl P rfl (by simpa using bq) 1 _;have d:=Mg.o _ _ _ R;have t:=aj (D.o _ _ _ _ (zI (fn:Nat)) (zI 0) (zI (s.c.length:Nat)) K5.o R);have A:=aj d;have t0:zC (w4.setCell (zB kb 1) (zS gg (s.c.length+1) m)) (w.heap.size+1) 0 (zI 0):=by simp[World.cell?,d]
     have t1:zC (w4.setCell (zB kb 1) (zS gg (s.c.length+1) m)) (w.heap.size+1) 1 (zI 0):=by simp[World.cell?,d]
     have t2:zC (w4.setCell (zB kb 1) (zS gg (s.c.length+1) m)) (w.heap.size+1) 2 (zI 0):=by simp[World.cell?,d]
     have tz:∀o,(w4.setCell (zB kb 1) (zS gg (s.c.length+1) m)).frozen? (zB (w.heap.size+1) o)=false:=λo=>by simp[World.frozen?,d]
     clear P bT bq k1 y1 R4 O4 d;generalize w4.setCell (zB kb 1) (zS gg (s.c.length+1) m)=w5 at *;go_wp2_with fail
     refine bodyPost_ret (bS rfl _ _ (w.heap.size+1) (kV ⟨fn,0,s.c.length⟩) rfl (wZ (xc _ _ _ A) rfl)) rfl ?_;exact .inr ⟨_,_,_,_,by rw[v.o,B.o],rfl,t.o.1,⟨rfl,rfl,rfl,rfl⟩,t.o.2⟩
   have B:=aj (aer M);have kv:((iL s.c i:Int)==(s.c.length:Int))=false:=by rw[a0j];omega
   have jR:decide ((iL s.c i:Int)=(s.c.length:Int))=false:=a0f (by omega);generalize iL s.c i=fc at *;have d:=Mg.o wb _ _ (KF.refl _ _ _ _);have A:=aj d;have t0:zC wb (w.heap.size+1) 0 (zI 0):=by simp[World.cell?,d]
   have t1:zC wb (w.heap.size+1) 1 (zI 0):=by simp[World.cell?,d]
   have t2:zC wb (w.heap.size+1) 2 (zI 0):=by simp[World.cell?,d]
   have tz:∀o,wb.frozen? (zB (w.heap.size+1) o)=false:=λo=>by simp[World.frozen?,d]
   clear d;go_wp2_with fail
   go_quiet ((go_at_call 80;exact Calls.quiet_of_same (N3.o _ (FB.o _))))
   go_wp2_with fail
   refine bodyPost_ret (bS rfl _ _ (w.heap.size+1) (kV ⟨fn,0,fc⟩) rfl (wZ (xc _ _ _ (A.o:(wb.drewN nq).heap[w.heap.size+1]?=_)) rfl)) rfl ?_;have t:=D.o (wb.drewN nq) _ _ _ (zI (fn:Nat)) (zI 0) (zI (fc:Nat)) (KB.o.aC (FB.o nq)) (KF.of (FB.o nq));exact .inr ⟨_,_,_,_,by rw[v.o,B.o],rfl,t.1,KV.refl _ _,t.2⟩
def mF(re:LB->Nat):List CM->Nat
 | []=>0
 | m::r=>if (m.2.1==2||m.2.1==3)&&!(re m.2.2==0) then re m.2.2 else mF re r
def xF(re:LB->Nat):List CR->Nat->Nat × Nat
 | [],_=>(0,0)
 | c::r,i=>if !(mF re c.ifs==0) then (mF re c.ifs,i+2) else xF re r (i+1)
def ard {re:LB->Nat} {bI:LB->gz}(b:∀y∈s.x,re y=0)(m:CM) :
 (nP re bI s m=none/\(m.2.1==2||m.2.1==3)=true/\re m.2.2≠0)\/(∃t s1,nP re bI s m=some (t,s1)/\(∀y∈s1.x,re y=0)/\((m.2.1==2||m.2.1==3)&&!(re m.2.2==0))=false):=by
 unfold nP
 by_cases a:m.2.1=2\/m.2.1=3
 .have c:(m.2.1==2||m.2.1==3)=true:=by simpa using a
  rw[a0m a]
  by_cases d:iL s.x m.2.2<s.x.length
  .rw[a0m d]
   refine .inr ⟨_,_,rfl,b,?_⟩;have hz:re m.2.2=0:=by grind [iL]
   simp[hz]
  grind
 grind
def El {re:LB->Nat} {bI:LB->gz}:∀(M:List CM) (s:CS) (acc:List (Nat × Bool)),(∀y∈s.x,re y=0) ->
 (∃e,nu re bI s acc M=.error e/\mF re M=e/\e≠0)\/(∃l s1,nu re bI s acc M=.ok (l,s1)/\mF re M=0/\∀y∈s1.x,re y=0)
 | [],s,acc,a=>.inr ⟨acc,s,rfl,rfl,a⟩
 | m::r,s,acc,a=>by
   rcases ard (bI:=bI) a m with⟨d,c,b⟩|⟨t,s1,d,c,b⟩
   .grind [nu,mF]
   have e:nu re bI s acc (m::r)=nu re bI { s1 with t:=pE s1.t t } (acc++[(C6 s1.t t,IV m)]) r:=by rw[nu,d]
   rw[e,mF,b];exact El r { s1 with t:=pE s1.t t } _ c
def Uk {re:LB->Nat} {bI:LB->gz}:∀(C:List CR) (s:CS) (i:Nat),(∀y∈s.x,re y=0) ->
 (∃e,pread re bI s i C=.error e/\xF re C i=e/\e.1≠0)\/(∃s1,pread re bI s i C=.ok s1/\xF re C i=(0,0)/\∀y∈s1.x,re y=0)
 | [],s,i,a=>.inr ⟨s,rfl,rfl,a⟩
 | c::r,s,i,a=>by
   rcases El (bI:=bI) c.ifs s [] a with⟨e,f,d,b⟩|⟨l,s1,f,d,b⟩
   .grind [pread,xF]
   have e:pread re bI s i (c::r)=pread re bI { s1 with q:=s1.q++[l] } (i+1) r:=by rw[pread,f]
   rw[e,xF,d];exact Uk r { s1 with q:=s1.q++[l] } (i+1) b
structure CSB(s:CS)(k:Nat):Prop where
 n:s.n.length<=k
 c:s.c.length<=k
 x:s.x.length<=k
 a:s.a.length<=k
 t:s.t.length<=k
def aeu(L:List LB)(x:LB):(l9 L x).length<=L.length+1:=by unfold l9;split<;>simp
def VS(L:List jd)(x:jd):(pE L x).length<=L.length+1:=by unfold pE;split<;>simp
def aev {re:LB->Nat} {bI:LB->gz}{s1:CS} {t:jd}(h:CSB s k) {m:CM}(he:nP re bI s m=some (t,s1)):CSB { s1 with t:=pE s1.t t } (k+1)/\s1.t=s.t/\s1.q=s.q:=by
 have a:=aeu s.n m.1;have b:=aeu s.c m.2.2;obtain⟨i,g,f,e,d⟩:=h;unfold nP at he
 split at he
 .split at he
  .cases he
   have ht:=VS s.t ⟨iL s.n m.1,1,iL s.x m.2.2⟩;exact⟨⟨by simp only;omega,by simp only;omega,by simp only;omega,by simp only;omega,by simp only;omega⟩,rfl,rfl⟩
  split at he
  .cases he
   have ht:=VS s.t ⟨iL s.n m.1,1,iL s.x m.2.2⟩;exact⟨⟨by simp only;omega,by simp only;omega,by simp;omega,by simp;omega,by simp only;omega⟩,rfl,rfl⟩
  cases he
 cases he
 have ht:=VS s.t ⟨iL s.n m.1,0,iL s.c m.2.2⟩;exact⟨⟨by simp only;omega,by simp only;omega,by simp only;omega,by simp only;omega,by simp only;omega⟩,rfl,rfl⟩
end
section
variable {w w' w0 w1 w2:World} {g gb kb:Nat} {V:V6} {U:V4} {l l1:List bX} {a b v:Value} {A L S:LN} {C:List CR}
structure LY(w0:World)(kb:Nat)(w:World)(V:V6)(U:V4)(l:List bX):Prop where
 row:KR w kb V U
 fr:aB [kb] w0 w
 lo:kb<w0.heap.size
 o:OW 109 4 w0.heap.size w U.l (uj l)
theorem LY.aC(h:LY w0 kb w V U l)(f:aB [] w w'):LY w0 kb w' V U l :=
 ⟨h.row.aC f (by simp),h.fr.over f (by simp),h.lo,h.o.aC f (by simp)⟩
structure LF(kb:Nat)(w:World)(a:Value)(w':World)(b:Value):Prop where
 f:aB (kb::a.ownBlock.toList) w w'
 o:∀g,b.ownBlock=some g->a.ownBlock=some g\/w.heap.size<=g
theorem LF.refl(kb:Nat)(w:World)(a:Value):LF kb w a w a:=⟨zK,λg h=>.inl h⟩
theorem LF.trans{c:Value}(h:LF kb w a w1 b)(k:LF kb w1 b w2 c):LF kb w a w2 c:=by
 refine⟨h.f.over k.f ?_,λg i=>?_⟩
 .intro x e
  rcases a0l.1 e with rfl|e
  .exact .inr (by simp)
  rcases h.o x (by simpa using e) with d|d
  .exact .inr (by simp[d])
  exact .inl d
 rcases k.o g i with d|d
 .exact h.o g d
 exact .inr (a0h h.f.size d)
theorem LF.pre(h:aB [] w w1)(k:LF kb w1 a w2 b):LF kb w a w2 b:=by have d:LF kb w a w1 a:=⟨zK.over h (by simp),λg c=>.inl c⟩;exact d.trans k
theorem OW.off {e:TypeId} {k base:Nat} {vs:List (List Value)}(h:OW e k base w v vs)(f:aB S w w')(d:∀g,v.ownBlock=some g->g∉S):OW e k base w' v vs:=by
 refine⟨⟨h.1.1,?_⟩,h.2⟩;rcases h.1.2 with c|⟨g,cap,cur,rfl,b,a,rest⟩
 .exact .inl c
 refine .inr ⟨g,cap,cur,rfl,b,?_,rest⟩;rw[f.block g (a0c.1 a).1 (d g rfl)];exact a
abbrev V4.lay(U:V4)(v:Value):V4:=⟨U.rt,U.x,U.q,v⟩
def TW(w0:World)(kb:Nat)(w:World)(V:V6)(U:V4)(l:List bX)(h:LY w0 kb w V U l)(x:bX)(P:l.length<=1000000000) :
 zF 54 #[zP kb,.agg (jT x)] w λe w'=>e=zR (zI (l.length:Nat))/\∃v,LY w0 kb w' V (U.lay v) (l++[x])/\LF kb w U.l w' v:=by
 obtain⟨rt,F,q,N⟩:=U;obtain⟨s,co,he⟩:=h.o.shape;rw[CZ]at he;subst he;have O:=h.o;have HR:=h.row;have L:=h.fr;have H:=h.lo;have R:=h.row.lt;have T:=h.fr.size;have M:Z_ (∀r,Value.ownBlock (.slice s l.length co)=some r->r≠kb):=λr i=>by have:=(O.lt i).1;omega
 have A:=h.row.c 9;have D:=h.row.fz 9;simp at A;have n:Z_ ((uj l).length=l.length):=CZ l;obtain⟨op,u,a,b⟩:=x;clear h;simp only[jT];delta zF;go_in
 go_wp2_with fail
 go_region_law ((refine CU _ (by rfl) _ _ 54 109 _ 4 32 TS Tryz.underlying54 (by rfl) (by omega) (by rfl) w0.heap.size (.slice s l.length co) (uj l) (w.heap.size+1) (jT ⟨op,u,a,b⟩) (0,0) (by rfl) (O.aC (S:=[]) ((zG.alloc _).drew) (by simp)) (by rfl) (by rfl) (by exact Nf _ _ _) (akk _) (by rw[n.o];omega) (by rw[n.o];omega) (by simp;omega) (w.heap.size+2) (by simp) ?_;intro d f m j k B W;rw[n.o]at j |-;have R4:=(HR.aC (S:=[]) ((zG.alloc _).drew) (by simp)).grown k M;have y:=R4.c 9;have E:=R4.fz 9;simp at y))
 all_goals
  have C:=R4.set (U':=⟨rt,F,q,zS d (l.length+1) f⟩) (V':=V) 9 (zS d (l.length+1) f) rfl;have G:=C.c 9;simp at G;rw[Nb]at j;have J:Z_ (OW 109 4 w0.heap.size (m.setCell (zB kb 9) (zS d (l.length+1) f)) (zS d (l.length+1) f) (uj (l++[⟨op,u,a,b⟩]))):=j.aC (S:=[kb]) ((aB.refl [kb] _).setCell (p:=(zB kb 9)) (.inl (by simp)) _) (by simp;omega);have F5:Z_ (aB [kb] w0 (m.setCell (zB kb 9) (zS d (l.length+1) f))):=((((L.alloc _).alloc _).drew).grown k (λr i=>.inr (O.lt i).1)).setCell (p:=(zB kb 9)) (.inl (by simp)) _;have t:Z_ (LF kb w (.slice s l.length co) (m.setCell (zB kb 9) (zS d (l.length+1) f)) (zS d (l.length+1) f)):=by
   refine⟨(((((aB.refl _ w).alloc _).alloc _).drew).grown k (λr i=>.inl (by simp[i]))).setCell (p:=(zB kb 9)) (.inl (by simp)) _,λg I=>?_⟩;cases I
   rcases B with z|z
   .exact .inl z
   exact .inr (by show w.heap.size<=d;omega)
  clear k j B y E A D;go_wp2;go_ret;exact⟨congrArg Ending.returned (by go_num),_,⟨C,F5,H,J⟩,t⟩
def KS.aew {Z Z':LN} {s:CS}(h:KS Z w0 kb w V U s)(c:∀g∈Z',g∈Z\/w.heap.size<=g):KS Z' w0 kb w V U s:=by
 obtain⟨ca,cq,g⟩:=h.g;have av:∀x∈Z'++kb::owns (Gm V U s ca cq),x∈Z++kb::owns (Gm V U s ca cq)\/w.heap.size<=x:=by
  intro x a;rcases a0e.1 a with a|a
  .rcases c x a with b|b
   .exact .inl (a0e.2 (.inl b))
   exact .inr b
  exact .inl (a0e.2 (.inr a))
 exact⟨h.row,ca,cq,g.fr,g.lo,g.rw,g.ai.cO av,g.qi.cO av⟩
def RW.mts {M:List CM}(h:RW A 3 w v (LH M)):∃a cap,v=.slice a M.length cap/\∀(j:Nat) (c:j<M.length),∃g off,a=some (zB g off)/\g∉A/\g<w.heap.size/\zC w g (off+j*3) (.string (bs M[j].1))/\zC w g (off+j*3+1) (zI (M[j].2.1:Nat))/\zC w g (off+j*3+2) (.string (bs M[j].2.2)):=by obtain⟨a,cap,e,l,i⟩:=h;rw[show(LH M).length=M.length by simp[LH]]at e;refine⟨a,cap,e,λj c=>?_⟩;obtain⟨g,off,k,f,d,b⟩:=i j (by simpa[LH] using c);exact⟨g,off,k,f,d,b 0 _ (by simp[LH,Bb]),b 1 _ (by simp[LH,Bb]),b 2 _ (by simp[LH,Bb])⟩
def asO:(Tryz.prog.info? 143).map (λi=>(i.zero,i.size,i.bytes))=some (some zN,1,24):=by kernel_rfl
def aiw:(Tryz.prog.info? 148).map (λi=>(i.zero,i.size,i.bytes))=some (some (.agg #[zI 0,.bool false]),2,16):=by kernel_rfl
theorem aex(w:World)(fd:Nat)(hb:Bool)(j:Nat)(u:Value)(a:[Value.int .i64 (fd:Nat),Value.bool hb][j]?=some u):(w.alloc (Obj.cells #[.int .i64 (fd:Nat),.bool hb] 148)).cell? ⟨w.heap.size,j,none⟩=some u:=by have b:=bD w (Obj.cells #[.int .i64 (fd:Nat),.bool hb] 148);simp only[World.cell?,b];simpa using a
theorem an4(w:World)(v:Value)(j:Nat)(u:Value)(a:[v][j]?=some u):(w.alloc (Obj.cells #[v] 143)).cell? ⟨w.heap.size,j,none⟩=some u:=by have b:=bD w (Obj.cells #[v] 143);simp only[World.cell?,b];simpa using a
def RMQ(Z:LN)(re:LB->Nat)(bI:LB->gz)(w0:World)(kb:Nat)(V:V6)(U:V4)(s:CS)(M:List CM)(e:Ending)(w':World):Prop :=
 (∃n,nu re bI s [] M=.error n/\e=zR (zI (n:Nat))/\aB [kb] w0 w') \/
 (∃l s1 V' U',nu re bI s [] M=.ok (l,s1)/\e=zR (zI 0)/\KS Z w0 kb w' V' U' { s1 with q:=s1.q++[l] }/\KV V V' U U')
def Ul(Z:LN)(re:LB->Nat)(bI:LB->gz)(w0:World)(kb:Nat)(w:World)(V:V6)(U:V4)(s:CS)(h:KS Z w0 kb w V U s)(hZ:∀g∈Z,g<w.heap.size)(kG:CSB s 500)(v:Value)(M:List CM)(hM:RW [kb] 3 w0 v (LH M))(hMl:M.length<=4)(hMk:∀m∈M,m.2.1<=3/\((m.2.1=2\/m.2.1=3)->RCP re bI m.2.2))(hq:s.q.length<=1000) :
 zF 27 #[zP kb,v] w (RMQ Z re bI w0 kb V U s M):=by
 obtain⟨am,cm,rfl,r⟩:=hM.mts;have R:=aj r;have HK:=aj h;have HMK:=aj hMk;have jU:=h.lo;have YG:=h.row.lt;have HOL:=aj h.Dx;have HZ:=aj hZ;have HCB:=aj kG;clear h hM r hMk hZ kG;delta zF;go_in
 go_wp2_with fail
 go_loopg [5,15] M.length (λk v5 v15 wr=>∃(j:Nat) (acc:List (Nat × Bool)) (B:CS) (N:V6) (Uj:V4),j+k=M.length/\v15=zI j/\acc.length=j/\w.heap.size<=wr.heap.size/\OW 148 2 w.heap.size wr v5 (cc acc)/\Z_ (∀g,v5.ownBlock=some g->g∉Mf N Uj)/\Z_ (KS (v5.ownBlock.toList++Z) w0 kb wr N Uj B)/\Z_ (KV V N U Uj)/\Z_ (nu re bI B acc (M.drop j)=nu re bI s [] M)/\Z_ (CSB B (500+j))/\Z_ (B.q=s.q))
 case atStart =>
  refine⟨0,[],s,V,U,by omega,rfl,rfl,by simp,OW.empty _ _ _ _ (a0b _),?_,?_,KV.refl _ _,?_,HCB,?_⟩
  .intro g b y
   have e:w.heap.size=g:=by simpa[Value.ownBlock] using b
   have:=HOL.o g (by simp[y]);omega
  .exact(HK.o.aew (λg b=>by
    rcases a0e.1 b with d|d
    .exact .inr (by have:g=w.heap.size:=by simpa[Value.ownBlock] using d
                    omega)
    exact .inl d)).aC ((aB.refl [] _).alloc _)
  .show _=_;rfl
  show _=_;rfl
 case round =>
  obtain⟨j,acc,B,N,Uj,lU,rfl,ja,hzr,hO,X,T,Gx,HP,CBJ,HQ⟩:=hrel;obtain⟨ac,l,he⟩:=hO.shape;rw[YY,ja]at he;subst he;have O:=aj hO;clear hO
  by_cases aL:j<M.length
  .have gJ:decide ((j:Int)<(M.length:Int))=true:=a0g (by omega)
   obtain⟨gm,om,rfl,arf,J,q0,q1,q2⟩:=R.o j aL;have t0:=(T.o.fr.cell (p:=(zB gm (om+j*3))) J arf).trans q0;have t1:=(T.o.fr.cell (p:=(zB gm (om+j*3+1))) J arf).trans q1;have t2:=(T.o.fr.cell (p:=(zB gm (om+j*3+2))) J arf).trans q2;have ayW:=a0t J T.o.fr.size;have Oh:=HMK.o M[j] (a0u aL);have hdp:M.drop j=M[j]::M.drop (j+1):=a0k aL;have HP1:Z_ (nu re bI B acc (M[j]::M.drop (j+1))=nu re bI s [] M):=by show _=_;rw[<-hdp];exact HP
   generalize M[j]=m at *;obtain⟨nm,kd,F⟩:=m;simp only at t0 t1 t2 Oh;have Ko:=CBJ.o;obtain⟨b1,b2,b3,b4,b5⟩:=Ko;have N1:=aj (aiu ((Value.ownBlock (.slice ac j l)).toList++Z) re bI w0 kb (wr.alloc (Obj.cells #[zT nm,zI (kd:Nat),zT F] 140)) N Uj B (T.o.aC ((aB.refl [] _).alloc _)) (by
    intro g b;rcases a0e.1 b with d|d
    .have:=(O.o.lt (by simpa using d)).2
     simp;omega
    have:=HZ.o g d;simp;omega) nm kd F Oh.2 Oh.1 (by omega) (by omega) (by omega) (by omega))
   clear q0 q1 q2 HP hdp;go_wp2_with fail
   refine(N1.o).mono ?_;clear N1;rintro e w2 hT;rcases hT with⟨d,i,C,t,rfl⟩|⟨t,s1,V2,G,d,rfl,hK2,aix,aug⟩
   .have HE:Z_ (nu re bI s [] M=.error (re F)):=by show _=_;rw[<-HP1.o,nu,d]
    have bJ:((re F:Int) != 0)=true:=by rw[a1M];simp only at i;omega
    have Jl:((re F:Int)==0)=false:=by rw[a0j];simp only at i;omega
    have F3:=aj C;clear d i C;simp only[kV];go_wp2;go_ret;exact .inl ⟨_,HE,rfl,F3.o.alloc _⟩
   obtain⟨auh,CE,aui⟩:=aev CBJ.o d;have Qi:Z_ (nu re bI { s1 with t:=pE s1.t t } (acc++[(C6 s1.t t,IV (nm,kd,F))]) (M.drop (j+1))=nu re bI s [] M):=by show _=_;rw[<-HP1.o,nu,d]
   have CB2:=aj auh;have HQ2:Z_ ({ s1 with t:=pE s1.t t }.q=s.q):=aui.trans HQ;have N2:=aj (Ui _ w0 kb (w2.alloc (Obj.cells (kV t) 104)) V2 G s1 (hK2.aC ((aB.refl [] _).alloc _)) t (by rw[CE];omega));have K2F:=aj aug;have E:=aj (Gx.o.trans aix);have hbm:(wr.alloc (Obj.cells #[zT nm,zI (kd:Nat),zT F] 140)).heap[wr.heap.size]?=some (.cells #[zT nm,zI (kd:Nat),zT F] 140 (0,0)):=bD _ _;have HBM:=aj hbm;have OL:=aj T.o.Dx;obtain⟨tn,tk,tx⟩:=t;simp only[kV]at N2 |-;clear d hK2 aix aug auh CE aui HP1 hbm Gx t0 t1 t2;go_wp2_with fail
   refine(N2.o).mono ?_;clear N2;rintro e A ⟨rfl,V4,hK4,hV4,auj⟩;have W:KF kb (wr.alloc (Obj.cells #[zT nm,zI (kd:Nat),zT F] 140)) N Uj A V4 G:=K2F.o.trans ((KF.of ((aB.refl [] w2).alloc _)).trans auj);have GH:A.heap[wr.heap.size]?=some (.cells #[zT nm,zI (kd:Nat),zT F] 140 (0,0)):=(W.f.block wr.heap.size (by simp) (λy=>by have:=OL.o _ y;omega)).trans HBM;have m1:zC A wr.heap.size 1 (zI (kd:Nat)):=by simp[World.cell?,GH]
   have O4:=aj ((O.o.aC (S:=[]) ((aB.refl [] _).alloc _) (by simp)).off W.f (λg b y=>by
    rcases a0l.1 y with rfl|y
    .have:=(O.o.lt b).1;omega
    exact X.o g b y))
   have P:Z_ (∀g,Value.ownBlock (.slice ac j l)=some g->g∉Mf V4 G):=λg b y=>by
    rcases W.o g y with d|d
    .exact X.o g b d
    have:=(O.o.lt b).2;simp at d;omega
   have K4:=aj hK4;have auk:Z_ (KV V V4 U G):=⟨hV4.1.trans E.o.1,hV4.2.trans E.o.2.1,E.o.2.2.1,E.o.2.2.2⟩;have Yl:wr.heap.size<A.heap.size:=(a0c.1 GH).1;have mI:Z_ ((cc acc).length=j):=by show _=_;rw[YY];exact ja
   generalize hfd:C6 s1.t ⟨tn,tk,tx⟩=fd at *;clear hfd hK4 hV4 auj W GH K2F HBM E X T;rcases(show(kd=0\/kd=2)\/(kd=1\/kd=3) by omega) with hk|hk
   .rcases hk with rfl|rfl
    all_goals
     go_wp2_with (at_builtin;refine qD _ rfl _ _ 143 148 _ 2 16 aiw Tryz.underlying143 rfl (by omega) rfl w.heap.size (.slice ac j l) (cc acc) A.heap.size [zI (fd:Nat),.bool true] rfl (O4.o.aC (S:=[]) ((aB.refl [] _).alloc _) (by simp)) rfl rfl (aex _ _ _) (by intro u Y;simp at Y;rcases Y with rfl|rfl<;>rfl) (by rw[mI.o];omega) (by rw[mI.o];omega) (by simp;omega) ?_;intro z L w5 wH aH bq arh;rw[mI.o]at wH |-;have O5:=aj wH;have G5:=aj aH;have YK:=aj bq;clear wH aH bq)
     have I:aB [] A (A.alloc (Obj.cells #[zI (fd:Nat),.bool true] 148)):=(aB.refl [] _).alloc _;have FG:aB (Value.ownBlock (.slice ac j l)).toList (A.alloc (Obj.cells #[zI (fd:Nat),.bool true] 148)) w5:=(aB.refl _ _).grown G5.o (λr hr=>.inl (by simp[hr]));have K5:KS ([z]++Z) w0 kb w5 V4 G { s1 with t:=pE s1.t ⟨tn,tk,tx⟩ }:=by
      have k1:=(K4.o.aC I).aew (Z':=(Value.ownBlock (.slice ac j l)).toList++(z::Z)) (λg b=>by
       rcases a0e.1 b with d|d
       .exact .inl (a0e.2 (.inl d))
       rcases a0l.1 d with rfl|d
       .rcases YK.o with i|i
        .exact .inl (a0e.2 (.inl (by simp[i])))
        exact .inr (by rw[i];exact a0b _)
       exact .inl (a0e.2 (.inr d)))
      have k2:=k1.off FG (λg b=>a0e.2 (.inl b)) (λg b=>by have:=(O4.o.lt (by simpa using b)).1;omega) (λg b=>P.o g (by simpa using b));exact k2.aew (λg b=>.inl (a0e.2 (.inr (by simpa using b))))
     have HK5:=aj K5;have NO5:Z_ (∀g,Value.ownBlock (zS z (j+1) L)=some g->g∉Mf V4 G):=λg b y=>by
      have e:z=g:=by simpa[Value.ownBlock] using b
      subst e;rcases YK.o with i|i
      .exact P.o _ i y
      have C:=K4.o.Dx z (by simp[y]);rw[i]at C;simp at C;omega
     have H:=O5.o;rw[show cc acc++[[Value.int .i64 (fd:Nat),Value.bool true]]=cc (acc++[(fd,true)]) from ahV acc (fd,true)]at H;have HO6:=aj H;have Fu:=FG.size;have Sa:=I.size;clear I FG K5 H;go_roundg (gk-1)
     case measure=>omega
     case rel=>exact⟨j+1,acc++[(fd,true)],_,V4,G,by omega,by go_num,by simp;omega,by omega,HO6,NO5,HK5,auk,Qi,CB2,HQ2⟩
   rcases hk with rfl|rfl
   all_goals
    go_wp2_with (at_builtin;refine qD _ rfl _ _ 143 148 _ 2 16 aiw Tryz.underlying143 rfl (by omega) rfl w.heap.size (.slice ac j l) (cc acc) A.heap.size [zI (fd:Nat),.bool false] rfl (O4.o.aC (S:=[]) ((aB.refl [] _).alloc _) (by simp)) rfl rfl (aex _ _ _) (by intro u Y;simp at Y;rcases Y with rfl|rfl<;>rfl) (by rw[mI.o];omega) (by rw[mI.o];omega) (by simp;omega) ?_;intro z L w5 wH aH bq arh;rw[mI.o]at wH |-;have O5:=aj wH;have G5:=aj aH;have YK:=aj bq;clear wH aH bq)
    have I:aB [] A (A.alloc (Obj.cells #[zI (fd:Nat),.bool false] 148)):=(aB.refl [] _).alloc _;have FG:aB (Value.ownBlock (.slice ac j l)).toList (A.alloc (Obj.cells #[zI (fd:Nat),.bool false] 148)) w5:=(aB.refl _ _).grown G5.o (λr hr=>.inl (by simp[hr]));have K5:KS ([z]++Z) w0 kb w5 V4 G { s1 with t:=pE s1.t ⟨tn,tk,tx⟩ }:=by
     have k1:=(K4.o.aC I).aew (Z':=(Value.ownBlock (.slice ac j l)).toList++(z::Z)) (λg b=>by
      rcases a0e.1 b with d|d
      .exact .inl (a0e.2 (.inl d))
      rcases a0l.1 d with rfl|d
      .rcases YK.o with i|i
       .exact .inl (a0e.2 (.inl (by simp[i])))
       exact .inr (by rw[i];exact a0b _)
      exact .inl (a0e.2 (.inr d)))
     have k2:=k1.off FG (λg b=>a0e.2 (.inl b)) (λg b=>by have:=(O4.o.lt (by simpa using b)).1;omega) (λg b=>P.o g (by simpa using b));exact k2.aew (λg b=>.inl (a0e.2 (.inr (by simpa using b))))
    have HK5:=aj K5;have NO5:Z_ (∀g,Value.ownBlock (zS z (j+1) L)=some g->g∉Mf V4 G):=λg b y=>by
     have e:z=g:=by simpa[Value.ownBlock] using b
     subst e;rcases YK.o with i|i
     .exact P.o _ i y
     have C:=K4.o.Dx z (by simp[y]);rw[i]at C;simp at C;omega
    have H:=O5.o;rw[show cc acc++[[Value.int .i64 (fd:Nat),Value.bool false]]=cc (acc++[(fd,false)]) from ahV acc (fd,false)]at H;have HO6:=aj H;have Fu:=FG.size;have Sa:=I.size;clear I FG K5 H;go_roundg (gk-1)
    case measure=>omega
    case rel=>exact⟨j+1,acc++[(fd,false)],_,V4,G,by omega,by go_num,by simp;omega,by omega,HO6,NO5,HK5,auk,Qi,CB2,HQ2⟩
  have gJ:decide ((j:Int)<(M.length:Int))=false:=a0f (by omega);have hj:j=M.length:=by omega
  have HE:Z_ (nu re bI s [] M=.ok (acc,B)):=by
   show _=_;rw[<-HP.o,hj,a2H]
   rfl
  have KZ:=T.o.aew (Z':=Z) (λg b=>.inl (a0e.2 (.inr b)));obtain⟨rt,ux,uq,ul⟩:=Uj;obtain⟨ca,cq,b⟩:=KZ.g;have hOQ:OW 143 1 w0.heap.size wr uq (fZ cq):=b.rw.o 5 ⟨143,1,uq,fZ cq⟩ rfl;have hcq:cq.length<=1000:=by rw[b.qi.1,HQ.o];exact hq
  obtain⟨aq,D,heq⟩:=hOQ.shape;rw[jA]at heq;subst heq;have c8:=KZ.row.c 8;simp at c8;have z8:=KZ.row.fz 8;have hkr:=KZ.row.lt;have HRQ:Z_ (dV aqu (Z++kb::owns (Gm N ⟨rt,ux,.slice aq cq.length D,ul⟩ B ca cq)) wr [#[.slice ac j l]] [acc]):=by
   refine⟨rfl,λn cs x d i=>?_⟩;rcases n with _|n
   .simp at d i
    subst d i;refine⟨_,rfl,O.o.rw (λg iD y=>?_)⟩;rcases a0e.1 y with C|C
    .have h4:=HZ.o g C
     have h5:=(O.o.lt iD).1;omega
    rcases a0l.1 C with rfl|C
    .have h5:=(O.o.lt iD).1
     omega
    exact X.o g iD C
   simp at d
  have HG:=aj b;have OQ:=aj hOQ;have HTQ:Z_ ((fZ cq).length=cq.length):=jA cq;have HKR:=aj KZ.row;have Dt:Z_ (∀r,Value.ownBlock (.slice aq cq.length D)=some r->r≠kb):=λr hr=>by have:=(OQ.o.lt hr).1;omega
  have ayX:=b.fr.size;clear b hOQ KZ T HP hj;go_wp2_with (at_builtin;refine qD _ rfl _ _ 83 143 _ 1 24 asO Tryz.underlying83 rfl (by omega) rfl w0.heap.size (.slice aq cq.length D) (fZ cq) wr.heap.size [.slice ac j l] rfl (OQ.o.aC (S:=[]) ((aB.refl [] _).alloc _) (by simp)) rfl rfl (an4 _ _) (by intro u Y;simp at Y;rcases Y with rfl;rfl) (by rw[HTQ.o];omega) (by rw[HTQ.o];omega) (by simp;omega) ?_;intro z L A bT aH bq AO;rw[HTQ.o]at bT |-;have O4:=aj bT;have G4:=aj aH;have YK:=aj bq;have R4:=aj ((HKR.o.aC (S:=[]) ((aB.refl [] _).alloc _) (by simp)).grown G4.o Dt);have k8:=R4.o.c 8;have y8:=R4.o.fz 8;simp at k8;clear bT aH bq)
  go_ret;have I:aB [] wr (wr.alloc (Obj.cells #[.slice ac j l] 143)):=(aB.refl [] _).alloc _;have H:=O4.o;rw[show fZ cq++[[Value.slice ac j l]]=fZ (cq++[#[.slice ac j l]]) from Gi cq #[.slice ac j l]]at H;have g5:=(HG.o.aC I (by simp)).grow 5 (r:=⟨143,1,.slice aq cq.length D,fZ cq⟩) (r':=⟨143,1,zS z (cq.length+1) L,fZ (cq++[#[.slice ac j l]])⟩) rfl G4.o H rfl YK;have r5:=(HRQ.o.aC I (by simp)).turn G4.o (λr hr=>VP 5 (r:=⟨143,1,.slice aq cq.length D,fZ cq⟩) rfl hr) YK.o (VN 5 (r:=⟨143,1,.slice aq cq.length D,fZ cq⟩) (r':=⟨143,1,zS z (cq.length+1) L,fZ (cq++[#[.slice ac j l]])⟩) rfl rfl);have g6:KG Z w0 kb A (Gm N ⟨rt,ux,zS z (cq.length+1) L,ul⟩ { B with q:=B.q++[acc] } ca (cq++[#[.slice ac j l]])) ca B.a (cq++[#[.slice ac j l]]) (B.q++[acc]):=⟨g5.fr,g5.lo,g5.rw,g5.ai,g5.qi.snoc (r5.2 0 _ _ rfl rfl)⟩;have R6:=R4.o.set (V':=N) (U':=⟨rt,ux,zS z (cq.length+1) L,ul⟩) 8 (zS z (cq.length+1) L) rfl;exact .inr ⟨acc,B,_,_,HE,rfl,⟨R6,ca,cq++[#[.slice ac j l]],g6.aC (S:=[kb]) ((aB.refl [kb] _).setCell (p:=(zB kb 8)) (.inl (by simp)) _) (by simp)⟩,⟨Gx.o.1,Gx.o.2.1,Gx.o.2.2.1,Gx.o.2.2.2⟩⟩
def QR(A:LN)(w:World)(v:Value)(q:List (List (Nat × Bool))):Prop:=∃cq,RW A 1 w v (fZ cq)/\dV aqu A w cq q
theorem QR.aC {q:List (List (Nat × Bool))}(h:QR A w v q)(f:aB S w w')(a:∀g∈S,g∈A):QR A w' v q:=by obtain⟨d,c,b⟩:=h;exact⟨d,c.aC f a,b.aC f a⟩
def RW.con {L:List (Nat × Bool)}(h:RW A 2 w v (cc L)):∃a cap,v=.slice a L.length cap/\∀(j:Nat) (b:j<L.length),∃g off,a=some (zB g off)/\g∉A/\g<w.heap.size/\zC w g (off+j*2) (zI (L[j].1:Nat))/\zC w g (off+j*2+1) (.bool L[j].2):=by obtain⟨a,cap,e,l,i⟩:=h;rw[YY]at e;refine⟨a,cap,e,λj b=>?_⟩;obtain⟨g,off,k,f,d,c⟩:=i j (by rw[YY];exact b);exact⟨g,off,k,f,d,c 0 _ (by simp[cc]),c 1 _ (by simp[cc])⟩
def LU(w0:World)(kb:Nat)(w:World)(V:V6)(U:V4)(l:List bX)(h:LY w0 kb w V U l)(q:List (List (Nat × Bool)))(hq:QR [kb] w0 U.q q)(s:∀x∈q,x.length<=1000)(r y n:Nat)(N:r<q.length)(Kv:q.length<=1000)(hl:l.length<=900000000) :
 zF 84 #[zP kb,zI r,zI y,zI n] w λe w'=>e=zR (zI ((bR q[r] y n l).1:Nat))/\∃v,LY w0 kb w' V (U.lay v) (bR q[r] y n l).2/\LF kb w U.l w' v:=by
 obtain⟨rt,T,vq,z⟩:=U;obtain⟨cq,P,O⟩:=hq;obtain⟨aq,D,e,rq⟩:=sP P O;simp only at e;subst e;obtain⟨gq,J,cs,rfl,C,RU,⟨vb,rfl,S⟩,k1⟩:=rq r N;obtain⟨ab,Js,rfl,RB⟩:=S.con;have X:=(h.fr.cell (p:=(zB gq (J+r*1+0))) C RU).trans (k1 0 _ rfl);rw[a1H,a1Q]at X;have c8:=h.row.c 8;simp at c8;have hQ:=s q[r] (a0u N);have ER:decide ((r:Int)<(q.length:Int))=true:=a0g (by omega);clear P O rq k1 S s;generalize q[r]=Q at *;delta zF;go_in
 go_wp2_with fail
 go_loopg [2,10] Q.length (λk d B wr=>∃(j a:Nat) (x:Int) (l1:List bX) (v:Value),j<=Q.length/\k=j/\B=zI x/\x=(j:Int)-1/\d=zI a/\Z_ (l1.length=l.length+(Q.length-j))/\Z_ (bR (Q.drop j) y n l=(a,l1))/\Z_ (LY w0 kb wr V ⟨rt,T,.slice (some (zB gq J)) q.length D,v⟩ l1)/\Z_ (LF kb w z wr v))
 exact⟨Q.length,y,_,l,z,a0b _,rfl,rfl,by omega,rfl,by show _=_;omega,by show _=_;simp[bR],h,LF.refl _ _ _⟩
 .obtain⟨j,a,x,l1,v,hj,rfl,rfl,M,rfl,A,F,L1,b⟩:=hrel;rcases gk with _|m
  .obtain rfl:x=-1:=by omega
   clear M;go_wp2;go_ret;have:=F.o;rw[a2j]at this;rw[this];exact⟨rfl,v,L1,b⟩
  obtain rfl:x=(m:Int):=by omega
  clear M;obtain⟨gc,L,rfl,R,f,I,H⟩:=RB m (by omega);have W:=(L1.o.fr.cell (p:=(zB gc (L+m*2))) f R).trans I;have s1:=(L1.o.fr.cell (p:=(zB gc (L+m*2+1))) f R).trans H;have Z:=a0t f L1.o.fr.size;have u:bR (Q.drop m) y n l=(l1.length,l1++[if Q[m].2 then ⟨2,Q[m].1,a,n⟩ else ⟨2,Q[m].1,n,a⟩]):=by rw[a0k (by omega),bR,F.o]
  have gJ:decide ((m:Int)<(Q.length:Int))=true:=a0g (by omega);generalize Q[m]=c at *;obtain⟨ct,Y⟩:=c;simp only at W s1 u;clear I H F;cases Y with
  | true =>
    have G:Z_ (bR (Q.drop m) y n l=(l1.length,l1++[⟨2,ct,a,n⟩])):=u;have g:=(TW w0 kb (wr.alloc (Obj.cells #[zI 2,zI ct,zI a,zI n] 109)) V _ l1 (L1.o.aC zG) ⟨2,ct,a,n⟩ (by rw[A.o];omega));simp only[jT]at g;clear u;go_wp2_with fail
    refine g.mono ?_;rintro e w2 ⟨rfl,d,E,t⟩;have i:Z_ (LF kb w z w2 d):=b.o.trans (t.pre zG);clear g t b;go_wp2;go_roundg m;exact⟨m,l1.length,_,_,d,by omega,rfl,rfl,by omega,rfl,by show _=_;simp[A.o];omega,G,E,i⟩;omega
  | false =>
    have G:Z_ (bR (Q.drop m) y n l=(l1.length,l1++[⟨2,ct,n,a⟩])):=u;have g:=(TW w0 kb (wr.alloc (Obj.cells #[zI 2,zI ct,zI n,zI a] 109)) V _ l1 (L1.o.aC zG) ⟨2,ct,n,a⟩ (by rw[A.o];omega));simp only[jT]at g;clear u;go_wp2_with fail
    refine g.mono ?_;rintro e w2 ⟨rfl,d,E,t⟩;have i:Z_ (LF kb w z w2 d):=b.o.trans (t.pre zG);clear g t b;go_wp2;go_roundg m;exact⟨m,l1.length,_,_,d,by omega,rfl,rfl,by omega,rfl,by show _=_;simp[A.o];omega,G,E,i⟩;omega
theorem ahW(wr:World)(q:Nat)(v:Value)(t:TypeId):((wr.drewN q).alloc (Obj.cells #[v] t)).cell? ⟨wr.heap.size,0,none⟩=some v:=by
 have h:((wr.drewN q).alloc (Obj.cells #[v] t)).heap[wr.heap.size]?=some (Obj.cells #[v] t):=bD (wr.drewN q) _;unfold World.cell?;simp only[h]
 rfl
def OU(C:List CR)(r j:Nat):Bool:=decide (r<j)&&(par C j==some r)
theorem abu(C:List CR)(r:Nat):kids C r=(List.range C.length).filter (OU C r):=rfl
def ahX(C:List CR)(r:Nat):(List.range (r+1)).filter (OU C r)=[]:=by rw[List.filter_eq_nil_iff];intro j a;rw[a2b]at a;simp[OU];omega
def akl(C:List CR)(r j:Nat)(h:r<j):(List.range (j+1)).filter (OU C r)=(List.range j).filter (OU C r)++(if (par C j==some r)=true then [j] else []):=by
 rw[List.range_succ,a3v]
 congr 1
 cases a:(par C j==some r)<;>simp[OU,h,a]
def aqx(C:List CR)(j r:Nat):(Gn C j==(r:Int))=(par C j==some r):=by
 unfold Gn;cases par C j with
 | none=>simp
 | some p=>rw[a0T];simp;omega
def YH(kb:Nat)(w:World)(V:V6)(U:V4)(s:KR w kb V U)(C:List CR)(zV:QH [kb] w U.rt C)(hC:C.length<=1000)(hd:∀c∈C,c.d<=1048576)(r:Nat)(q:r<C.length) :
 zF 83 #[zP kb,zI r] w λe w'=>∃v,e=zR v/\aB [] w w'/\OW 3 1 w.heap.size w' v (ic (kids C r)):=by
 obtain⟨rt,L,N,P⟩:=U;obtain⟨D,R,l⟩:∃a cap,rt=.slice a C.length cap:=by obtain⟨Z,A,z⟩:=zV;obtain⟨a,cap,e,_⟩:=sP A z;exact⟨a,cap,e⟩
 subst l;have x:=s.lt;delta zF;go_in
 go_wp2_with fail
 go_loopg [5,6] (C.length-(r+1)) (λk u t wr=>∃(j:Nat) (acc:LN),r<j/\j+k=C.length/\t=zI j/\Z_ (acc=(List.range j).filter (OU C r))/\acc.length<=j/\aB [] w wr/\OW 3 1 w.heap.size wr u (ic acc))
 exact⟨r+1,[],by omega,by omega,by go_num,by show _=_;exact(ahX C r).symm,by simp,zJ,OW.empty _ _ _ _ (a0b _)⟩
 .obtain⟨j,acc,i,W,rfl,b,X,F,O⟩:=hrel;obtain⟨E,co,he⟩:=O.shape;rw[TM]at he;subst he;have hz:=F.size;have c6:=(s.aC F (by simp)).c 6;simp at c6
  by_cases G:j<C.length
  .have B:decide ((j:Int)<(C.length:Int))=true:=a0g (by omega)
   have h:=OT wr _ [kb] C (zV.aC F (by simp)) (by omega) hd j G;have f:=aqx C j r;have g:=akl C r j i;generalize Gn C j=T at *;cases hb:(par C j==some r)
   .have n:Z_ (acc=(List.range (j+1)).filter (OU C r)):=by show _=_;rw[g,hb,b.o];simp
    rw[hb]at f;clear g b hb;go_wp2_with fail
    refine h.mono ?_;rintro e w2 ⟨rfl,p,rfl⟩;clear h;go_wp2;go_roundg (gk-1);exact⟨j+1,acc,by omega,by omega,by go_num,n,by omega,F.drewN _,O.aC ((aB.refl [] _).drewN _) (by simp)⟩;omega
   have n:Z_ (acc++[j]=(List.range (j+1)).filter (OU C r)):=by show _=_;rw[g,hb,b.o];simp
   rw[hb]at f;clear g b hb;go_wp2_with fail
   refine h.mono ?_;rintro e w2 ⟨rfl,p,rfl⟩;clear h;go_wp2_with (at_builtin;refine anu _ rfl _ _ rfl w.heap.size (.slice E acc.length co) acc wr.heap.size j rfl (O.aC (S:=[]) (((aB.refl [] _).drewN p).alloc _) (by simp)) rfl (ahW _ _ _ _) (by omega) (by simp;omega) ?_;intro Y aU M H J m Gb;clear m)
   go_roundg (gk-1);exact⟨j+1,acc++[j],by omega,by omega,by go_num,n,by simp;omega,((F.drewN _).alloc _).grown J (λr q=>.inr (O.lt q).1),H⟩;omega
  have B:decide ((j:Int)<(C.length:Int))=false:=a0f (by omega);have y:j=C.length:=by omega
  have I:Z_ (acc=kids C r):=by show _=_;rw[b.o,y,abu]
  clear b;go_wp2;go_ret;rw[<-I.o];exact⟨_,rfl,F,O⟩
theorem Ei(y n:Nat)(l:List bX):∀q:List (Nat × Bool),(bR q y n l).2.length=l.length+q.length
 | []=>rfl
 | c::r=>by simp[bR,Ei y n l r];omega
def bnd:Nat->Nat
 | 0=>0
 | f+1=>16*(bnd f+8)+1
def Xl {q:List (List (Nat × Bool))}(hq:∀x∈q,x.length<=4)(c:Nat):(q.getD c []).length<=4:=by grind
def Ng {rec:Nat->Nat->List bX->Nat × List bX} {R:Nat}(a:∀c d l,(rec c d l).2.length<=l.length+R)(C:List CR) {q:List (List (Nat × Bool))}(hq:∀x∈q,x.length<=4)(d:Nat)(l:List bX):∀K:LN,(ji rec C q d l K).2.2.length<=l.length+K.length*(R+4)
 | []=>by simp[ji]
 | c::r=>by have h:=Ng a C hq d l r;rw[ji];generalize ji rec C q d l r=x at *;have g:=a c (if (C[c]?.map (·.co))=some true then x.1 else d) x.2.2;generalize rec c (if (C[c]?.map (·.co))=some true then x.1 else d) x.2.2=b at *;have f:=Ei b.1 x.1 b.2 (q.getD c []);have e:=Xl hq c;show(bR _ _ _ _).2.length<=_;rw[a0r,a0J];omega
def VF {q:List (List (Nat × Bool))}(hq:∀x∈q,x.length<=4)(first:Nat)(l:List bX):∀Z:List (Nat × Nat),(lS q first l Z).2.length<=l.length+Z.length*4
 | []=>by simp[lS]
 | z::r=>by
   have c:=VF hq first l r
   rw[lS];have b:=Ei z.2 (lS q first l r).1 (lS q first l r).2 (q.getD z.1 []);have a:=Xl hq z.1;rw[a0r,a0J];omega
def ad4(C:List CR)(r:Nat):(kids C r).length<=C.length:=by grind [abu]
def Gp(hC:C.length<=16) {q:List (List (Nat × Bool))}(hq:∀x∈q,x.length<=4):∀f r d l,(ig C q f r d l).2.length<=l.length+bnd f
 | 0,_,_,l=>by simp[ig]
 | f+1,r,d,l=>by
   have g:=Ng (Gp hC hq f) C hq d l (kids C r);rw[ig];generalize ji (ig C q f) C q d l (kids C r)=x at *;have a:=VF hq x.2.2.length (x.2.2++[⟨1,r,d,0⟩]) ((kids C r).zip x.2.1);have e:=ad4 C r;have c:((kids C r).zip x.2.1).length<=(kids C r).length:=by rw[List.length_zip];exact Nat.min_le_left _ _
   have b:(kids C r).length*(bnd f+4)<=16*(bnd f+4):=a0z _ (by omega);simp at a;rw[bnd];show(lS _ _ _ _).2.length<=_;omega
theorem Xm {d:Nat}:∀{i p:Nat},nQ C d i=some p->p<i/\∃c,C[p]?=some c/\c.d+1=d
 | 0,p,h=>by simp[nQ]at h
 | j+1,p,h=>by
   rw[nQ]at h
   split at h
   .grind
   obtain⟨b,a⟩:=Xm h;exact⟨by omega,a⟩
def anA {r c:Nat}(h:c∈kids C r)(a:r<C.length):∃b:c<C.length,r<c/\C[r].d+1=C[c].d:=by grind [abu,OU,par,Xm]
structure LC(w0:World)(kb:Nat)(rt vq:Value)(C:List CR)(q:List (List (Nat × Bool))):Prop where
 zV:QH [kb] w0 rt C
 hq:QR [kb] w0 vq q
 ql:q.length=C.length
 qb:∀x∈q,x.length<=4
 cl:C.length<=16
 d:∀c∈C,c.d<=5
def BG(w:World)(gb:Nat)(L:LN):Prop:=w.heap[gb]?=some (.cells (nv .i64 L).toArray 3 (0,0))
theorem BG.cell(h:BG w gb L)(i:Nat)(a:i<L.length):zC w gb i (zI (L[i]:Nat)):=by unfold BG at h;simp[World.cell?,h,nv,a]
theorem BG.fz(h:BG w gb L)(i:Nat):w.frozen? (zB gb i)=false:=by unfold BG at h;simp[World.frozen?,h]
theorem BG.lt(h:BG w gb L):gb<w.heap.size:=(a0c.1 h).1
theorem BG.aC(h:BG w gb L)(f:aB S w w')(a:gb∉S):BG w' gb L:=(f.block gb h.lt a).trans h
theorem BG.set(h:BG w gb L)(i y:Nat):BG (w.setCell (zB gb i) (zI y)) gb (L.set i y):=by unfold BG at h |-;simp[World.setCell,a0v,h,nv,a2d]
def ad5:(Tryz.prog.info? 3).map (λi=>(i.zero,i.size,i.bytes))=some (some (zI 0),1,8):=by kernel_rfl
theorem akm(n:Nat):madeCells #[zI 0] n=(nv .i64 (List.replicate n 0)).toArray:=by
 apply Array.ext
 .simp[size_madeCells,nv]
 intro i b a;simp[madeCells,nv,Nat.mod_one]
def anB(n:Nat)(f:n<=1000000)(u:World):(Instr.makeSlice 100 (zI (n:Int)) (zI (n:Int))).run Tryz.prog u=.ok (zS u.heap.size n n) (u.alloc (.cells (nv .i64 (List.replicate n 0)).toArray 3)):=by obtain⟨a,b,gT,d,c⟩:=kg ad5;have:=run_make (P:=Tryz.prog) u 100 3 a _ Tryz.underlying100 b gT .i64 .i64 (n:Int) (n:Int) (by omega) (a3n _) (by rw[c];omega) (by omega);rw[d,a2A,a1H]at this;rw[this];have e:(Value.int .i64 0).cells=#[zI 0]:=rfl;rw[e,akm]
theorem QH.co(h:QH A w v C):∃a cap,v=.slice a C.length cap/\∀(j:Nat) (b:j<C.length),∃g off,a=some (zB g off)/\g∉A/\g<w.heap.size/\zC w g (off+j*9+8) (.bool C[j].co):=by obtain⟨l,i,f⟩:=h;obtain⟨a,cap,e,r⟩:=sP i f;refine⟨a,cap,e,λj b=>?_⟩;obtain⟨g,off,cs,k,d,c,⟨ek,iJ,rfl,_⟩,k1⟩:=r j b;exact⟨g,off,k,c,d,k1 8 _ rfl⟩
def OW.awY {base:Nat}(h:OW 3 1 base w v (ic L)):∃a cap,v=.slice a L.length cap/\∀(j:Nat) (d:j<L.length),∃g,a=some (zA g)/\v.ownBlock=some g/\g<w.heap.size/\zC w g j (zI (L[j]:Nat)):=by
 obtain⟨a,cap,e⟩:=h.shape;rw[TM]at e;subst e;refine⟨a,cap,rfl,λj d=>?_⟩;obtain⟨o,i,b,k⟩:=(h.rw (A:=[]) (by simp)).num;simp only[Value.slice.injEq,a1W]at b;obtain⟨rfl,rfl⟩:=b;obtain⟨g,off,rfl,l,f⟩:=k j d;have c:=h.1.2;rcases c with m|⟨n,i,cur,b,_⟩
 .grind
 simp only[Value.slice.injEq,Option.some.injEq,Addr.mk.injEq]at b;obtain⟨⟨rfl,rfl,_⟩,_⟩:=b;rw[a1n]at f;exact⟨_,rfl,rfl,l,f⟩
theorem LY.off(h:LY w0 kb w V U l)(f:aB S w w')(b:kb∉S)(c:∀g∈S,w0.heap.size<=g)(ho:∀g,U.l.ownBlock=some g->g∉S):LY w0 kb w' V U l :=
 ⟨h.row.aC f b,h.fr.over f (λx a=>.inl (c x a)),h.lo,h.o.off f ho⟩
def TX {b wr e:World}{c i:Value}(F:aB S b wr)(k:kb∈S)(j:∀g,c.ownBlock=some g->g∈S)(OV:∀g,v.ownBlock=some g->c.ownBlock=some g\/b.heap.size<=g)(h:LF kb wr v e i) :
 aB S b e/\∀g,i.ownBlock=some g->c.ownBlock=some g\/b.heap.size<=g:=by
 refine⟨F.over h.f ?_,λg l=>?_⟩
 .intro x d
  rcases a0l.1 d with rfl|d
  .exact .inr k
  rcases OV x (by simpa using d) with a|a
  .exact .inr (j x a)
  exact .inl a
 rcases h.o g l with a|a
 .exact OV g a
 exact .inr (a0h F.size a)
theorem anC(m b:Nat)(L:LN):(List.replicate (m+1) 0++L).set m b=List.replicate m 0++(b::L):=by rw[List.replicate_succ',a0M,a1v _ _ (by simp)];simp
def aqy(rec:Nat->Nat->List bX->Nat × List bX)(C:List CR)(q:List (List (Nat × Bool)))(d:Nat)(l:List bX)(K:LN)(m c:Nat)(f:m<K.length)(g:K[m]=c)(i:c<C.length)(hq:c<q.length) {sec:Nat} {a:LN}(h:ji rec C q d l (K.drop (m+1))=(sec,a,l1)) {b:Nat} {l2:List bX}(hb:rec c (if C[c].co then sec else d) l1=(b,l2)) :
 ji rec C q d l (K.drop m)=((bR q[c] b sec l2).1,b::a,(bR q[c] b sec l2).2):=by
 subst g;have e:(if (C[K[m]]?.map (·.co))=some true then sec else d)=(if C[K[m]].co then sec else d):=by rw[a0a i];simp
 rw[a0k f,ji,h];simp only[e,hb];rw[a0x,a0a hq]
 rfl
def aqz(q:List (List (Nat × Bool)))(first:Nat)(l:List bX)(K a:LN)(m c:Nat)(f:m<K.length)(d:K[m]=c)(hq:c<q.length)(e:m<a.length) {b:Nat}(h:lS q first l ((K.zip a).drop (m+1))=(b,l1)) :
 lS q first l ((K.zip a).drop m)=bR q[c] a[m] b l1:=by
 subst d;rw[a0k (by rw[List.length_zip];omega),lS,h];simp only[List.getElem_zip];rw[a0x,a0a hq]
 rfl
def LRQ(w0:World)(kb:Nat)(V:V6)(rt a b:Value)(C:List CR)(q:List (List (Nat × Bool)))(f:Nat):Prop :=
 ∀(r d:Nat) (w:World) (c:Value) (l:List bX),LY w0 kb w V ⟨rt,a,b,c⟩ l->(g:r<C.length)->6<=C[r].d+f->l.length+bnd f<=800000000 ->
  zF 55 #[zP kb,zI r,zI d] w λe w'=>e=zR (zI ((ig C q f r d l).1:Nat))/\∃v,LY w0 kb w' V ⟨rt,a,b,v⟩ (ig C q f r d l).2/\LF kb w c w' v
def abv(w0:World)(kb:Nat)(V:V6)(rt L J:Value)(C:List CR)(q:List (List (Nat × Bool)))(t:LC w0 kb rt J C q)(f:Nat)(ih:LRQ w0 kb V rt L J C q f):LRQ w0 kb V rt L J C q (f+1):=by
 intro r d w T l L0 hr hf hl;have uA:=t.cl;have Kv:=t.ql;have hKl:=ad4 C r;have N1:=(YH kb w V ⟨rt,L,J,T⟩ L0.row C (t.zV.aC L0.fr (by simp)) (by omega) (λc h=>by have:=t.d c h;omega) r hr);have HKM:Z_ (∀c∈kids C r,∃t:c<C.length,r<c/\C[r].d+1=C[c].d):=λc h=>anA h hr
 have HR:Z_ (ig C q (f+1) r d l=lS q (ji (ig C q f) C q d l (kids C r)).2.2.length ((ji (ig C q f) C q d l (kids C r)).2.2++[⟨1,r,d,0⟩]) ((kids C r).zip (ji (ig C q f) C q d l (kids C r)).2.1)):=rfl;have jU:=L0.lo;have gT:=L0.fr.size;have E:Z_ (∀g,T.ownBlock=some g->g<w.heap.size):=λg i=>(L0.o.lt i).2
 obtain⟨art,uR,ert,HCO⟩:=t.zV.co;subst ert;have uh:Z_ (∀y,ji (ig C q f) C q d l (kids C r)=y->y.2.2.length<=l.length+16*(bnd f+4)):=by intro y X;have a:=Ng (Gp t.cl t.qb f) C t.qb d l (kids C r);have h2:(kids C r).length*(bnd f+4)<=16*(bnd f+4):=a0z _ (by omega);rw[<-X];omega
 have HB1:Z_ (∀n,n+1<=(kids C r).length->∀y,ji (ig C q f) C q d l ((kids C r).drop (n+1))=y->y.2.2.length<=l.length+15*(bnd f+4)):=by intro n hn y X;have a:=Ng (Gp t.cl t.qb f) C t.qb d l ((kids C r).drop (n+1));have h2:((kids C r).drop (n+1)).length*(bnd f+4)<=15*(bnd f+4):=a0z _ (by rw[a2F];omega);rw[<-X];omega
 have Z:Z_ (bnd (f+1)=16*(bnd f+8)+1):=rfl;have jE:l.length+16*(bnd f+8)+1<=800000000:=by have:=Z.o;omega
 have Yz:C[r].d+(f+1)≥6:=hf;clear hf hl Z;generalize C[r].d=dr at *;generalize kids C r=K at *;have Oh:=anB K.length (by omega);delta zF;go_in
 go_wp2_with fail
 refine N1.mono ?_;clear N1;rintro e w1 ⟨vk,rfl,sZ,hO1⟩;obtain⟨ak,ck,rfl,HK⟩:=hO1.awY;have HKB:Z_ (∀g,Value.ownBlock (.slice ak K.length ck)=some g->w.heap.size<=g):=λg i=>(hO1.lt i).1
 obtain⟨R,D⟩:∃R,R=w1.alloc (.cells (nv .i64 (List.replicate K.length 0)).toArray 3):=⟨_,rfl⟩;have A:Z_ (aB [] w1 R):=by rw[D];exact zG
 have fM:=sZ.size;have H:Z_ (R.heap.size=w1.heap.size+1):=by rw[D];simp[Z_]
 have HBG:Z_ (BG R w1.heap.size (List.replicate K.length 0)):=by rw[D];exact bD _ _
 clear hO1;go_wp2_with fail
 go_loopg [9,10] K.length (λk v9 v10 wr=>∃(j sec:Nat) (x:Int) (s:LN) (l1:List bX) (v:Value),j<=K.length/\k=j/\v10=zI x/\x=(j:Int)-1/\v9=zI sec/\Z_ (ji (ig C q f) C q d l (K.drop j)=(sec,s,l1))/\Z_ (s.length=K.length-j)/\Z_ (LY w0 kb wr V ⟨.slice art C.length uR,L,J,v⟩ l1)/\Z_ (BG wr w1.heap.size (List.replicate j 0++s))/\Z_ (aB (kb::w1.heap.size::T.ownBlock.toList) R wr)/\Z_ (∀g,v.ownBlock=some g->T.ownBlock=some g\/R.heap.size<=g))
 case atStart =>
  refine⟨K.length,d,_,[],l,T,a0b _,rfl,rfl,by omega,rfl,?_,?_,?_,?_,?_,?_⟩
  .show _=_;simp[ji]
  .show _=_;simp
  .show LY _ _ _ _ _ _;rw[<-D];exact L0.aC (sZ.trans A)
  .show BG _ _ _;rw[<-D,a0R];exact HBG
  .show aB _ _ _;rw[<-D];exact zK
  exact λg i=>.inl i
 case round =>
  obtain⟨j,sec,x,s,l1,v,hj,rfl,rfl,G,rfl,HV,Z,L1,B1,FO,OV⟩:=hrel;have Dt:∀g,v.ownBlock=some g->g≠w1.heap.size:=λg i e=>by
   have h2:=H.o;rcases OV.o g i with a|a
   .have:=E.o g a;omega
   omega
  have r6:=L1.o.row.c 6;simp at r6;rcases gk with _|m
  .obtain rfl:x=-1:=by omega
   clear G;have M:=HV.o;rw[a2j]at M;have kM:=uh.o _ M;simp only at kM;have nK:=Z.o;have tV:Z_ (ig C q (f+1) r d l=lS q l1.length (l1++[⟨1,r,d,0⟩]) (K.zip s)):=by have:=HR.o;rw[M]at this;exact this
   have B0:Z_ (BG wr w1.heap.size s):=by show BG _ _ _;have:=B1.o;simpa using this
   have TA:kb≠w1.heap.size:=by omega
   have N4:=TW w0 kb wr V _ l1 L1.o ⟨1,r,d,0⟩ (by omega);simp only[jT]at N4;have QJ:Z_ ((l1++[(⟨1,r,d,0⟩:bX)]).length=l1.length+1):=by show _=_;simp
   clear M HV Z HR uh HB1 ih;go_wp2_with fail
   refine N4.mono ?_;clear N4;rintro e w3 ⟨rfl,v3,L3,z⟩;obtain⟨FO3,B⟩:=TX FO.o (by simp) (λg i=>by simp[i]) OV.o z;have B3:=(B0.o.aC z.f (by intro h;simp at h;rcases h with a|a;exact TA a.symm;exact Dt _ a rfl));clear z;generalize oP:l1++[(⟨1,r,d,0⟩:bX)]=l2 at *;clear oP;go_wp2_with fail
   go_loopg [14,15] K.length (λk v14 v15 wr=>∃(j Y:Nat) (x:Int) (U:List bX) (v:Value),j<=K.length/\k=j/\v15=zI x/\x=(j:Int)-1/\v14=zI Y/\Z_ (lS q l1.length l2 ((K.zip s).drop j)=(Y,U))/\Z_ (LY w0 kb wr V ⟨.slice art C.length uR,L,J,v⟩ U)/\Z_ (BG wr w1.heap.size s)/\Z_ (aB (kb::w1.heap.size::T.ownBlock.toList) R wr)/\Z_ (∀g,v.ownBlock=some g->T.ownBlock=some g\/R.heap.size<=g))
   case atStart =>
    refine⟨K.length,l1.length,_,l2,v3,a0b _,rfl,rfl,by omega,rfl,?_,L3,B3,FO3,B⟩;show _=_;rw[a0i (by rw[List.length_zip];omega)]
    rfl
   case round =>
    obtain⟨j,Y,x,U,v4,hj2,rfl,rfl,G,rfl,I,L4,B4,F,OV4⟩:=hrel;rcases gk with _|m
    .obtain rfl:x=-1:=by omega
     clear G;have hv4:=I.o;rw[a2j]at hv4;have PZ:Z_ (ig C q (f+1) r d l=(Y,U)):=tV.o.trans hv4;have HLF:Z_ (LF kb w T wr v4):=by
      refine⟨(zK.over (sZ.trans A) (by simp)).over F ?_,λg i=>?_⟩
      .intro y X
       simp at X;rcases X with rfl|rfl|X
       .exact .inr (by simp)
       .exact .inl (by omega)
       exact .inr (by simp[X])
      rcases OV4.o g i with a|a
      .exact .inl a
      exact .inr (by have:=H.o;omega)
     clear hv4 I;go_wp2;go_ret;rw[PZ.o];exact⟨rfl,v4,L4,HLF⟩
    obtain rfl:x=(m:Int):=by omega
    clear G;obtain⟨gk,rfl,iD,RU,p0⟩:=HK m (by omega);have hgw:=HKB.o gk iD;have s0:zC wr gk m (zI (K[m]:Nat)):=by
     refine(F.cell (p:=(zB gk m)) (a0t RU A.o.size) ?_).trans ((A.o.cell (p:=(zB gk m)) RU (by simp)).trans p0);intro h;simp at h;rcases h with a|a|a
     .omega
     .omega
     have:=E.o gk a;omega
    obtain⟨c,N⟩:∃c,K[m]=c:=⟨_,rfl⟩;rw[N]at s0;obtain⟨O,rP,hdc⟩:=HKM.o c (by rw[<-N];exact a0u _);have hqc:c<q.length:=by omega
    have hbm:m<s.length:=by omega
    have t0:=B4.cell m hbm;have hl3:U.length<=900000000:=by have a:=VF t.qb l1.length l2 ((K.zip s).drop (m+1));rw[I.o]at a;simp only[a2F,List.length_zip]at a;have:=QJ.o;omega
    have S:=aqz q l1.length l2 K s m c (by omega) N hqc hbm I;have N5:Z_ (∀W,aB [] wr W->zF 84 #[zP kb,zI (c:Nat),zI (s[m]:Nat),zI (Y:Nat)] W λe w'=>e=zR (zI ((bR q[c] s[m] Y U).1:Nat))/\∃v,LY w0 kb w' V ⟨.slice art C.length uR,L,J,v⟩ (bR q[c] s[m] Y U).2/\LF kb W v4 w' v):=λW hW=>LU w0 kb W V _ U (L4.o.aC hW) q t.hq (λx G=>by have:=t.qb x G;omega) c s[m] Y hqc (by omega) hl3
    have VG:decide ((m:Int)<(K.length:Int))=true:=a0g (by omega);generalize s[m]=bm at *;have FN:Z_ (aB [] wr wr.drew):=(aB.refl [] _).drew;clear I N p0 iD;go_wp2_with fail
    go_region_with (go_at_call 84;refine(N5.o _ FN).mono ?_;rintro e w6 ⟨rfl,v6,L6,aqA⟩)
    all_goals
     obtain⟨FO6,OV6⟩:=TX F (by simp) (λg i=>by simp[i]) OV4.o (aqA.pre FN);have B6:Z_ (BG w6 w1.heap.size s):=by
      refine(B4.aC FN.o (by simp)).aC aqA.f ?_;intro h;simp at h;rcases h with a|a
      .exact TA a.symm
      have h2:=H.o;rcases OV4.o _ a with h3|h3
      .have:=E.o _ h3;omega
      omega
     clear aqA;go_wp2;go_roundg m;exact⟨m,_,_,_,v6,by omega,rfl,rfl,by omega,rfl,S,L6,B6,FO6,OV6⟩;omega
  obtain rfl:x=(m:Int):=by omega
  clear G;obtain⟨gk,rfl,iD,RU,p0⟩:=HK m (by omega);have hgw:=HKB.o gk iD;have s0:zC wr gk m (zI (K[m]:Nat)):=by
   refine(FO.o.cell (p:=(zB gk m)) (a0t RU A.o.size) ?_).trans ((A.o.cell (p:=(zB gk m)) RU (by simp)).trans p0);intro h;simp at h;rcases h with a|a|a
   .omega
   .omega
   have:=E.o gk a;omega
  obtain⟨c,HKE⟩:∃c,K[m]=c:=⟨_,rfl⟩;rw[HKE]at s0;obtain⟨O,rP,hdc⟩:=HKM.o c (by rw[<-HKE];exact a0u _);have hqc:c<q.length:=by omega
  obtain⟨gr,or,rfl,awZ,atQ,t0⟩:=HCO c O;have s8:=(L1.o.fr.cell (p:=(zB gr (or+c*9+8))) atQ awZ).trans t0;have kv:=HB1.o m (by omega) _ HV;simp only at kv;have xZ:∀P:Nat,(ig C q f c P l1).2.length<=l1.length+bnd f:=λP=>Gp t.cl t.qb f c P l1
  have HN3:Z_ (∀(u:World) (vu:Value) (lu:List bX) (yy nn:Nat),LY w0 kb u V ⟨.slice (some (zB gr or)) C.length uR,L,J,vu⟩ lu->lu.length<=900000000->zF 84 #[zP kb,zI (c:Nat),zI yy,zI nn] u λe w'=>e=zR (zI ((bR q[c] yy nn lu).1:Nat))/\∃v,LY w0 kb w' V ⟨.slice (some (zB gr or)) C.length uR,L,J,v⟩ (bR q[c] yy nn lu).2/\LF kb u vu w' v):=λu vu lu yy nn hu hlu=>LU w0 kb u V _ lu hu q t.hq (λx G=>by have:=t.qb x G;omega) c yy nn (by omega) (by omega) hlu
  have sU:6<=C[c].d+f:=by omega
  have ZX:l1.length+bnd f<=800000000:=by omega
  have HN2:Z_ (∀P:Nat,zF 55 #[zP kb,zI (c:Nat),zI (P:Nat)] wr λe w'=>e=zR (zI ((ig C q f c P l1).1:Nat))/\∃v',LY w0 kb w' V ⟨.slice (some (zB gr or)) C.length uR,L,J,v'⟩ (ig C q f c P l1).2/\LF kb wr v w' v'):=λP=>ih c P wr v l1 L1.o O sU ZX
  have RY:decide ((c:Int)<(C.length:Int))=true:=a0g (by omega);have VG:decide ((m:Int)<(K.length:Int))=true:=a0g (by omega);clear t0 p0;obtain⟨bd,Ml⟩:∃bd,bd=if C[c].co then sec else d:=⟨_,rfl⟩
  have N2:=HN2.o bd;have jR:=xZ bd;have HLB:Z_ (∀x,ig C q f c bd l1=x->ji (ig C q f) C q d l (K.drop m)=((bR q[c] x.1 sec x.2).1,x.1::s,(bR q[c] x.1 sec x.2).2)):=λx G=>aqy _ C q d l K m c (by omega) HKE O (by omega) HV.o (b:=x.1) (l2:=x.2) (by rw[<-Ml];exact G)
  generalize Yv:ig C q f c bd l1=bb at *;have S:=HLB.o bb rfl;obtain⟨b,l2⟩:=bb;simp only at N2 jR S;have nK:=Z.o;have TA:kb≠w1.heap.size:=by omega
  have ayx:=Ei b sec l2 q[c];clear HLB Yv HV xZ HN2 sU kv Z iD;cases HCO:C[c].co
  all_goals
   rw[HCO]at Ml s8;simp only[a0G,a0A,a0I]at Ml;rw[Ml]at N2;clear Ml;go_wp2_with fail
   refine N2.mono ?_;clear N2;rintro e w3 ⟨rfl,v3,hL3,z⟩;obtain⟨Gq,B⟩:=TX FO.o (by simp) (λg i=>by simp[i]) OV.o z;have B3:=B1.o.aC z.f (by intro h;simp at h;rcases h with a|a;exact TA a.symm;exact Dt _ a rfl);have y0:=B3.cell m (by simp;omega);have y1:=B3.fz m;have atS:∀g,v3.ownBlock=some g->g≠w1.heap.size:=λg i e=>by
    have h2:=H.o;rcases B g i with a|a
    .have:=E.o g a;omega
    omega
   have FB:aB [w1.heap.size] w3 (w3.setCell (zB w1.heap.size m) (zI (b:Nat))):=zK.setCell (p:=(zB w1.heap.size m)) (.inl (by simp)) _;have hL4:=hL3.off FB (by simp;exact TA) (by simp;omega) (λg i=>by simp;exact atS g i);have N3:=HN3.o _ v3 l2 b sec hL4 (by omega);have B4:=B3.set m b;have F:=Gq.over FB (by simp);clear hL3 z Gq B3 atS FB hL4;go_wp2_with fail
   refine N3.mono ?_;clear N3;rintro e w5 ⟨rfl,v5,L5,aqB⟩;obtain⟨FO5,OV5⟩:=TX F (by simp) (λg i=>by simp[i]) B aqB;have B5:Z_ (BG w5 w1.heap.size (List.replicate m 0++(b::s))):=by
    rw[<-anC];refine B4.aC aqB.f ?_;intro h;simp at h;rcases h with a|a
    .exact TA a.symm
    have h2:=H.o;rcases B _ a with h3|h3
    .have:=E.o _ h3;omega
    omega
   clear aqB B4 F B y0 y1;go_wp2;go_roundg m;exact⟨m,_,_,b::s,_,v5,by omega,rfl,rfl,by omega,rfl,S,by show _=_;simp;omega,L5,B5,FO5,OV5⟩;omega
def O0(w0:World)(kb:Nat)(V:V6)(rt b a:Value)(C:List CR)(q:List (List (Nat × Bool)))(c:LC w0 kb rt a C q):∀f,LRQ w0 kb V rt b a C q f
 | 0=>by intro r d w g l h e j i;have:=c.d C[r] (a0u e);omega
 | f+1=>abv w0 kb V rt b a C q c f (O0 w0 kb V rt b a C q c f)
def NB(w:World)(g:Nat)(N:List Int):Prop:=w.heap[g]?=some (.cells (N.map λn=>Value.int .i64 n).toArray 3 (0,0))
def RB(w:World)(g:Nat)(R:List Bool):Prop:=w.heap[g]?=some (.cells (R.map λb=>Value.bool b).toArray 4 (0,0))
theorem NB.cell {L:List Int}(h:NB w g L)(i:Nat)(a:i<L.length):zC w g i (zI L[i]):=by unfold NB at h;simp[World.cell?,h,a]
theorem NB.fz {L:List Int}(h:NB w g L)(i:Nat):w.frozen? (zB g i)=false:=by unfold NB at h;simp[World.frozen?,h]
theorem NB.lt {L:List Int}(h:NB w g L):g<w.heap.size:=(a0c.1 h).1
theorem NB.aC {L:List Int}(h:NB w g L)(f:aB S w w')(a:g∉S):NB w' g L:=(f.block g h.lt a).trans h
theorem NB.set {L:List Int}(h:NB w g L)(i:Nat)(y:Int):NB (w.setCell (zB g i) (zI y)) g (L.set i y):=by unfold NB at h |-;simp[World.setCell,a0v,h,a2d]
theorem RB.cell {L:List Bool}(h:RB w g L)(i:Nat)(a:i<L.length):zC w g i (.bool L[i]):=by unfold RB at h;simp[World.cell?,h,a]
theorem RB.fz {L:List Bool}(h:RB w g L)(i:Nat):w.frozen? (zB g i)=false:=by unfold RB at h;simp[World.frozen?,h]
theorem RB.lt {L:List Bool}(h:RB w g L):g<w.heap.size:=(a0c.1 h).1
theorem RB.aC {L:List Bool}(h:RB w g L)(f:aB S w w')(a:g∉S):RB w' g L:=(f.block g h.lt a).trans h
theorem RB.set {L:List Bool}(h:RB w g L)(i:Nat)(y:Bool):RB (w.setCell (zB g i) (.bool y)) g (L.set i y):=by unfold RB at h |-;simp[World.setCell,a0v,h,a2d]
def akn:(Tryz.prog.info? 4).map (λi=>(i.zero,i.size,i.bytes))=some (some (.bool false),1,1):=by kernel_rfl
theorem ahY(n:Nat):madeCells #[.bool false] n=((List.replicate n false).map λb=>Value.bool b).toArray:=by
 apply Array.ext
 .simp[size_madeCells]
 intro i c a;simp[madeCells,Nat.mod_one]
def abx(n:Nat)(g:n<=1000000000)(u:World):(Instr.makeSlice 99 (zI (n:Int)) (zI (n:Int))).run Tryz.prog u=.ok (zS u.heap.size n n) (u.alloc (.cells ((List.replicate n false).map λb=>Value.bool b).toArray 4)):=by obtain⟨a,c,gT,f,d⟩:=kg akn;have:=run_make (P:=Tryz.prog) u 99 4 a _ Tryz.underlying99 c gT .i64 .i64 (n:Int) (n:Int) (by omega) (a3n _) (by rw[d];omega) (by omega);rw[f,a2A,a1H]at this;rw[this];have e:(Value.bool false).cells=#[.bool false]:=rfl;rw[e,ahY]
theorem ahZ(n:Nat):madeCells #[zI 0] n=((List.replicate n (0:Int)).map λb=>Value.int .i64 b).toArray:=by
 apply Array.ext
 .simp[size_madeCells]
 intro i c a;simp[madeCells,Nat.mod_one]
def ako(n:Nat)(g:n<=1000000000)(u:World):(Instr.makeSlice 100 (zI (n:Int)) (zI (n:Int))).run Tryz.prog u=.ok (zS u.heap.size n n) (u.alloc (.cells ((List.replicate n (0:Int)).map λb=>Value.int .i64 b).toArray 3)):=by obtain⟨a,c,gT,f,d⟩:=kg ad5;have:=run_make (P:=Tryz.prog) u 100 3 a _ Tryz.underlying100 c gT .i64 .i64 (n:Int) (n:Int) (by omega) (a3n _) (by rw[d];omega) (by omega);rw[f,a2A,a1H]at this;rw[this];have e:(Value.int .i64 0).cells=#[zI 0]:=rfl;rw[e,ahZ]
theorem RW.ins {L:List bX}(h:RW A 4 w v (uj L)):∃a cap,v=.slice a L.length cap/\∀(j:Nat) (d:j<L.length),∃g off,a=some (zB g off)/\g<w.heap.size/\zC w g (off+j*4) (zI (L[j].op:Nat))/\zC w g (off+j*4+1) (zI (L[j].x:Nat))/\zC w g (off+j*4+2) (zI (L[j].a:Nat))/\zC w g (off+j*4+3) (zI (L[j].b:Nat)):=by obtain⟨a,cap,e,m,i⟩:=h;rw[CZ]at e;refine⟨a,cap,e,λj d=>?_⟩;obtain⟨g,off,k,l,f,c⟩:=i j (by rw[CZ];exact d);exact⟨g,off,k,f,c 0 _ (by simp[uj,jT]),c 1 _ (by simp[uj,jT]),c 2 _ (by simp[uj,jT]),c 3 _ (by simp[uj,jT])⟩
def aby(w:World)(v:Value)(A:LN)(l:List bX)(h:RW A 4 w v (uj l))(G:GL l)(first:Nat)(hf:first < l.length)(hl:l.length<=900000000) :
 zF 85 #[v,zI first] w λe w'=>∃g,e=zR (zS g l.length l.length)/\aB [] w w'/\w.heap.size<=g/\NB w' g (numsOf l first):=by
 obtain⟨a,cap,rfl,R⟩:=h.ins;have W:=G;have Oh:=ako l.length (by omega);have hmb:=abx l.length (by omega);clear h G;delta zF;go_in
 go_wp2_with fail
 go_loopg [7,8] l.length (λk v7 v8 wr=>∃(j d:Nat) (x:Int) (R:List Bool) (N:List Int),j<=l.length/\k=j/\v8=zI x/\x=(j:Int)-1/\v7=zI d/\d+j<=l.length/\(R.length=l.length)/\(N.length=l.length)/\(mG l j R N d=numsOf l first)/\aB [] w wr/\(RB wr w.heap.size R)/\(NB wr (w.heap.size+1) N))
 case atStart =>
  refine⟨l.length,0,_,(List.replicate l.length false).set first true,List.replicate l.length 0,a0b _,rfl,rfl,by omega,rfl,by omega,?_,?_,?_,zJ.alloc _,?_,?_⟩
  .simp
  .simp
  .rfl
  .show RB _ _ _
   unfold RB;rw[zG.block w.heap.size (by simp) (by simp),bD];have e:(Array.replicate l.length (Value.bool false)).setIfInBounds first (Value.bool true)=(((List.replicate l.length false).set first true).map λb=>Value.bool b).toArray:=by apply Array.ext';simp[Array.toList_setIfInBounds,a2d]
   rw[e]
  show NB _ _ _;unfold NB;rw[Nf];simp
 case round =>
  obtain⟨j,d,x,f,N,hj,rfl,rfl,hx,rfl,Lt,U,V,s,F,C,I⟩:=hrel;have Gf:=F.size;rcases gk with _|m
  .obtain rfl:x=-1:=by omega
   have t:N=numsOf l first:=s;clear hx s;go_wp2;go_ret;exact⟨_,rfl,F,by omega,by rw[<-t];exact I⟩
  obtain rfl:x=(m:Int):=by omega
  clear hx;have J:=U;have Y:=V;have ayy:=C.lt;have ayz:=I.lt;have n0:=I.cell m (by omega);have nz:=I.fz;have r0:=C.cell m (by omega);have rz:=C.fz;have VG:decide ((m:Int)<(l.length:Int))=true:=a0g (by omega);obtain⟨E,ol,rfl,G,q0,q1,q2,q3⟩:=R m (by omega);have t0:=(F.cell (p:=(zB E (ol+m*4))) G (by simp)).trans q0;have t1:=(F.cell (p:=(zB E (ol+m*4+1))) G (by simp)).trans q1;have t2:=(F.cell (p:=(zB E (ol+m*4+2))) G (by simp)).trans q2;have Z:=(F.cell (p:=(zB E (ol+m*4+3))) G (by simp)).trans q3;have hgn:E≠w.heap.size+1:=by omega
  have Au:E≠w.heap.size:=by omega
  have ayA:w.heap.size+1≠E:=by omega
  have ayB:w.heap.size≠E:=by omega
  have o:mG l (m+1) f N d=if f[m]=true then mG l m (if l[m].op=0 then f else if l[m].op=2 then (f.set l[m].a true).set l[m].b true else f.set l[m].a true) (N.set m d) (d+1) else mG l m f (N.set m (-1)) d:=by rw[mG,a0a (by omega)];simp[List.getD,J,show m<l.length by omega]
  have H:=W m (by omega);generalize N[m]=nm at *;have q:∀(u:World) (i:Nat) (y:Value),aB [w.heap.size+1] u (u.setCell (zB (w.heap.size+1) i) y):=λu i y=>zK.setCell (p:=(zB (w.heap.size+1) i)) (.inl (by simp)) _
  have r:∀(u:World) (i:Nat) (y:Value),aB [w.heap.size] u (u.setCell (zB w.heap.size i) y):=λu i y=>zK.setCell (p:=(zB w.heap.size i)) (.inl (by simp)) _
  clear q0 q1 q2 q3;cases hb:f[m]
  .rw[hb]at r0 o
   simp only[a0A,a0I]at o;have t:mG l m f (N.set m (-1)) d=numsOf l first:=o.symm.trans s;clear o s H t0 t1 t2 Z hb;go_wp2;go_roundg m;exact⟨m,d,_,f,N.set m (-1),by omega,rfl,rfl,by omega,rfl,by omega,U,by simp[Y],t,F.over (q _ _ _) (by simp),C.aC (q _ _ _) (by simp),I.set m (-1)⟩;omega
  rw[hb]at r0 o;simp only[a0G]at o;have aL:m<l.length:=by omega
  generalize P:l[m]=c at *;obtain⟨op,xn,n,D⟩:=c;simp only at t0 t1 t2 Z o H;clear hb P;have HZ:∀u:World,NB u (w.heap.size+1) ((N.set m (-1)).set m d)->NB u (w.heap.size+1) (N.set m d):=λu hu=>by rw[List.set_set]at hu;exact hu
  have B:(N.set m (d:Int)).length=l.length:=by simp[Y]
  have z:=HZ _ ((I.set m (-1)).set m d);have L:=(C.aC (q wr m (zI (-1))) (by simp)).aC (q _ m (zI (d:Nat))) (by simp);have M:=(F.over (q wr m (zI (-1))) (by simp)).over (q _ m (zI (d:Nat))) (by simp);clear HZ;rcases H with rfl|⟨rfl,ha⟩|⟨rfl,ha,hb⟩
  .have t:mG l m f (N.set m d) (d+1)=numsOf l first:=o.symm.trans s
   clear o s;go_wp2;go_roundg m;exact⟨m,d+1,_,f,N.set m d,by omega,rfl,rfl,by omega,by go_num,by omega,U,B,t,M.alloc _,L.aC zG (by simp),z.aC zG (by simp)⟩;omega
  .have t:mG l m (f.set n true) (N.set m d) (d+1)=numsOf l first:=o.symm.trans s
   have ra:=C.cell n (by omega);have T:decide ((n:Int)<(l.length:Int))=true:=a0g (by omega);generalize f[n]=O at *;clear o s;go_wp2;go_roundg m;exact⟨m,d+1,_,f.set n true,N.set m d,by omega,rfl,rfl,by omega,by go_num,by omega,by simp[J],B,t,(M.over (r _ _ _) (by simp)).alloc _,(L.set n true).aC zG (by simp),(z.aC (r _ _ _) (by simp)).aC zG (by simp)⟩;omega
  have t:mG l m ((f.set n true).set D true) (N.set m d) (d+1)=numsOf l first:=o.symm.trans s;have ra:=C.cell n (by omega);have rb:=C.cell D (by omega);have T:decide ((n:Int)<(l.length:Int))=true:=a0g (by omega);have S:decide ((D:Int)<(l.length:Int))=true:=a0g (by omega);generalize f[n]=O at *;generalize f[D]=rbb at *;clear o s
  by_cases X:n=D
  .subst X
   clear rb S hb;go_wp2;go_roundg m;exact⟨m,d+1,_,(f.set n true).set n true,N.set m d,by omega,rfl,rfl,by omega,by go_num,by omega,by simp[J],B,t,((M.over (r _ _ _) (by simp)).over (r _ _ _) (by simp)).alloc _,((L.set n true).set n true).aC zG (by simp),((z.aC (r _ _ _) (by simp)).aC (r _ _ _) (by simp)).aC zG (by simp)⟩;omega
  have hba:D≠n:=λe=>X e.symm
  go_wp2;go_roundg m;exact⟨m,d+1,_,(f.set n true).set D true,N.set m d,by omega,rfl,rfl,by omega,by go_num,by omega,by simp[J],B,t,((M.over (r _ _ _) (by simp)).over (r _ _ _) (by simp)).alloc _,((L.set n true).set D true).aC zG (by simp),((z.aC (r _ _ _) (by simp)).aC (r _ _ _) (by simp)).aC zG (by simp)⟩;omega
def akK {N:List Int} {m:Nat}(b:m<l.length)(a:m<N.length)(out:List bX):nY l N (m+1) out=if N[m]<0 then nY l N m out else nY l N m (out++[Bq N l[m]]):=by rw[nY,a0a b];simp[List.getD,a]
theorem VT(w:World)(o:Obj)(c:bX)(j:Nat)(u:Value)(a:(jT c).toList[j]?=some u):((w.alloc o).alloc (Obj.cells (jT c) 109)).cell? ⟨w.heap.size+1,j,none⟩=some u:=by have h:=Nf w o (Obj.cells (jT c) 109);unfold World.cell?;simp only[h];simpa[jT] using a
def aiz(w:World)(v:Value)(A:LN)(l:List bX)(h:RW A 4 w v (uj l))(q:GL l)(first:Nat)(hf:first < l.length)(hl:l.length<=900000000) :
 zF 56 #[v,zI first] w λe w'=>∃Z,e=zR Z/\aB [] w w'/\OW 109 4 w.heap.size w' Z (uj (mH l first)):=by
 have N1:=aby w v A l h q first hf hl;obtain⟨a,cap,rfl,R⟩:=h.ins;have X:=q;have uD:=Eh l first
 have W:=IY q first;have HT:mH l first=nY l (numsOf l first) (first + 1) []:=rfl;generalize numsOf l first=N at *
 clear h q;delta zF;go_in
 go_wp2_with fail
 refine N1.mono ?_;clear N1;rintro e w1 ⟨gn,rfl,F1,hgn,Dt⟩;have fM:=F1.size;have ayY:=Dt.lt;go_wp2_with fail
 go_loopg [6,7] (first + 1) (λk v6 v7 wr=>∃(j:Nat) (x:Int) (out:List bX),j<=first + 1/\k=j/\v7=zI x/\x=(j:Int)-1/\out.length+j<=first + 1/\(nY l N j out=mH l first)/\aB [] w1 wr/\OW 109 4 w1.heap.size wr v6 (uj out))
 case atStart=>exact⟨first + 1,_,[],a0b _,rfl,rfl,by omega,by simp,HT.symm,zJ,OW.empty _ _ _ _ (a0b _)⟩
 case round =>
  obtain⟨j,x,out,hj,rfl,rfl,hx,hoj,o,F,O⟩:=hrel;obtain⟨U,co,he⟩:=O.shape;rw[CZ]at he;subst he;have hzr:=F.size;have i:(uj out).length=out.length:=CZ out;rcases gk with _|m
  .obtain rfl:x=-1:=by omega
   have C:out=mH l first:=o;clear hx o;go_wp2;go_ret;refine⟨_,rfl,F1.trans F,?_⟩;rw[<-C];exact O.base fM
  obtain rfl:x=(m:Int):=by omega
  clear hx;have L:m<l.length:=by omega
  have y:=Dt.aC F (by simp);have n0:=y.cell m (by omega);have VG:decide ((m:Int)<(l.length:Int))=true:=a0g (by omega);have g:=akK (N:=N) L (by omega) out;obtain⟨G,ol,rfl,q,q0,q1,q2,q3⟩:=R m L;have I:=F1.trans F;have t0:=(I.cell (p:=(zB G (ol+m*4))) q (by simp)).trans q0;have t1:=(I.cell (p:=(zB G (ol+m*4+1))) q (by simp)).trans q1;have t2:=(I.cell (p:=(zB G (ol+m*4+2))) q (by simp)).trans q2;have P:=(I.cell (p:=(zB G (ol+m*4+3))) q (by simp)).trans q3;have ayZ:gn<wr.heap.size:=by omega
  have ay0:G<wr.heap.size:=by omega
  have t:=X m L;have J:=W m l[m] (a0a L);rw[show N.getD m 0=N[m] by simp[List.getD,show m<N.length by omega]]at J;clear q0 q1 q2 q3 I
  by_cases M:N[m]<0
  .rw[a0m M]at g
   have C:nY l N m out=mH l first:=g.symm.trans o;have Lp:decide (N[m]<0)=true:=a0g M;generalize N[m]=nm at *;clear g o t J t0 t1 t2 P;go_wp2;go_roundg m
   case measure=>omega
   case rel=>exact⟨m,_,out,by omega,rfl,rfl,by omega,by omega,C,F,O⟩
  rw[a0n M]at g;have Lp:decide (N[m]<0)=false:=a0f M;have B:=J (by omega);generalize UA:N[m]=nm at *;have s:∃c,l[m]=c:=⟨_,rfl⟩;obtain⟨c,s⟩:=s;rw[s]at t0 t1 t2 P g t B;obtain⟨op,b,f,d⟩:=c;simp only at t0 t1 t2 P t B;clear J s UA;rcases t with rfl|⟨rfl,ha⟩|⟨rfl,ha,hb⟩
  focus
   have C:nY l N m (out++[⟨0,b,f,d⟩])=mH l first:=g.symm.trans o;clear g o B;go_wp2_with (at_builtin;refine qD _ rfl _ _ 54 109 _ 4 32 TS Tryz.underlying54 rfl (by omega) rfl w1.heap.size (.slice U out.length co) (uj out) (wr.heap.size+1) (jT ⟨0,b,f,d⟩).toList rfl (O.aC (S:=[]) (zG.alloc _) (by simp)) rfl rfl (VT _ _ ⟨0,b,f,d⟩) (by intro u z;simp[jT]at z;rcases z with rfl|rfl|rfl|rfl<;>rfl) (by rw[i];omega) (by rw[i];omega) (by simp;omega) ?_;intro gg aU Y E G4 H AO;rw[i,Nb]at E;rw[i];clear H)
  rotate_left
  focus
   obtain⟨n,D⟩:=a2L (B.1 (by omega));have n1:=y.cell f (by omega);rw[show N[f]'(by omega)=(n:Int) by rw[<-D];simp[List.getD,show f<N.length by omega]]at n1;have T:decide ((f:Int)<(l.length:Int))=true:=a0g (by omega);have C:nY l N m (out++[⟨1,b,n,d⟩])=mH l first:=by
    have e:Bq N ⟨1,b,f,d⟩=⟨1,b,n,d⟩:=by simp only[Bq,D];simp
    rw[e]at g;exact g.symm.trans o
   clear g o B D;go_wp2_with (at_builtin;refine qD _ rfl _ _ 54 109 _ 4 32 TS Tryz.underlying54 rfl (by omega) rfl w1.heap.size (.slice U out.length co) (uj out) (wr.heap.size+1) (jT ⟨1,b,n,d⟩).toList rfl (O.aC (S:=[]) (zG.alloc _) (by simp)) rfl rfl (VT _ _ ⟨1,b,n,d⟩) (by intro u z;simp[jT]at z;rcases z with rfl|rfl|rfl|rfl<;>rfl) (by rw[i];omega) (by rw[i];omega) (by simp;omega) ?_;intro gg aU Y E G4 H AO;rw[i,Nb]at E;rw[i];clear H)
  rotate_left
  obtain⟨n,D⟩:=a2L (B.1 (by omega));obtain⟨nb,V⟩:=a2L (B.2 rfl);have n1:=y.cell f (by omega);rw[show N[f]'(by omega)=(n:Int) by rw[<-D];simp[List.getD,show f<N.length by omega]]at n1;have n2:=y.cell d (by omega);rw[show N[d]'(by omega)=(nb:Int) by rw[<-V];simp[List.getD,show d<N.length by omega]]at n2;have T:decide ((f:Int)<(l.length:Int))=true:=a0g (by omega);have hdb:decide ((d:Int)<(l.length:Int))=true:=a0g (by omega);have C:nY l N m (out++[⟨2,b,n,nb⟩])=mH l first:=by
   have e:Bq N ⟨2,b,f,d⟩=⟨2,b,n,nb⟩:=by simp only[Bq,D,V];simp
   rw[e]at g;exact g.symm.trans o
  clear g o B D V;go_wp2_with (at_builtin;refine qD _ rfl _ _ 54 109 _ 4 32 TS Tryz.underlying54 rfl (by omega) rfl w1.heap.size (.slice U out.length co) (uj out) (wr.heap.size+1) (jT ⟨2,b,n,nb⟩).toList rfl (O.aC (S:=[]) (zG.alloc _) (by simp)) rfl rfl (VT _ _ ⟨2,b,n,nb⟩) (by intro u z;simp[jT]at z;rcases z with rfl|rfl|rfl|rfl<;>rfl) (by rw[i];omega) (by rw[i];omega) (by simp;omega) ?_;intro gg aU Y E G4 H AO;rw[i,Nb]at E;rw[i];clear H)
  all_goals
   go_roundg m
   case measure=>omega
   case rel=>exact⟨m,_,_,by omega,rfl,rfl,by omega,by simp;omega,C,((F.alloc _).alloc _).grown G4 (λr hr=>.inr (O.lt hr).1),E⟩
def asP:GL [⟨0,0,0,0⟩]:=by intro i a;simp at a;subst a;exact .inl rfl
def aiA {q:List (List (Nat × Bool))}:GL (ig C q 6 0 0 [⟨0,0,0,0⟩]).2/\(ig C q 6 0 0 [⟨0,0,0,0⟩]).1<(ig C q 6 0 0 [⟨0,0,0,0⟩]).2.length :=
 let h:=C9 C q 6 0 0 [⟨0,0,0,0⟩] asP (by simp)
 ⟨h.1,h.2.1⟩
def Um(w0:World)(kb:Nat)(w:World)(V:V6)(rt i g:Value)(C:List CR)(q:List (List (Nat × Bool)))(a:LC w0 kb rt g C q)(h:LY w0 kb w V ⟨rt,i,g,zN⟩ [])(l:0<C.length) :
 zF 30 #[zP kb] w λe w'=>∃v A,e=zR v/\KR w' kb V ⟨rt,i,g,A⟩/\aB [kb] w0 w'/\aB [kb] w w'/\OW 109 4 w.heap.size w' v (uj (C8 C q)):=by
 obtain⟨G,M,k,_⟩:=a.zV.co;subst k;have D:=h.row.c 6;simp at D;have N:=a.cl;have R:((C.length:Int)==0)=false:=by rw[a0j];omega
 have F:decide ((C.length:Int)=0)=false:=a0f (by omega);have m:=TW w0 kb w V _ [] h ⟨0,0,0,0⟩ (by simp);simp only[jT]at m;have H:Z_ (C8 C q=mH (ig C q 6 0 0 [⟨0,0,0,0⟩]).2 (ig C q 6 0 0 [⟨0,0,0,0⟩]).1):=by show _=_;unfold C8;rw[a0n (by simp;intro e;rw[e]at l;simp at l)]
 have x:=aiA (C:=C) (q:=q);have p:=Gp a.cl a.qb 6 0 0 [⟨0,0,0,0⟩];clear h;delta zF;go_in
 go_wp2_with fail
 refine m.mono ?_;clear m;rintro e w1 ⟨rfl,z,b,n⟩;have u:=O0 w0 kb V _ i g C q a 6 0 0 w1 z [⟨0,0,0,0⟩] b l (by omega) (by simp[bnd]);clear b;generalize ig C q 6 0 0 [⟨0,0,0,0⟩]=X at *;obtain⟨first,l2⟩:=X;go_wp2_with fail
 refine u.mono ?_;clear u;rintro e w2 ⟨rfl,L,d,r⟩;obtain⟨P,c2,he⟩:=d.o.shape;rw[CZ]at he;simp only at he;subst he;have E:=p;simp[bnd]at E;have t:=aiz w2 _ [] l2 (d.o.rw (by simp)) x.1 first x.2 (by omega);have B:=d.row.c 9;simp at B;have y:Z_ (aB [kb] w w2):=(n.trans r).f;clear r;go_wp2_with fail
 refine t.mono ?_;clear t;rintro e I ⟨J,rfl,F3,s⟩;obtain⟨O,c3,j⟩:=s.shape;subst j;go_wp2;go_ret;rw[H.o];exact⟨_,_,rfl,d.row.aC F3 (by simp),d.fr.over F3 (by simp),y.o.over F3 (by simp),s.base y.o.size⟩
end
end Go.Proofs.YtedmellodofajaaGreatDoor
