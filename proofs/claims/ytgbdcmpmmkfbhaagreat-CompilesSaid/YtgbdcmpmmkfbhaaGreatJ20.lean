import Derived.Test.YtgbdcmpmmkfbhaaGreatJ19
import Derived.Deep.DeepCutAuto
import Derived.Deep.CutBlock
import Derived.Test.YtgbdcmpmmkfbhaaGreatJ1
set_option linter.unusedVariables false
set_option linter.unusedSimpArgs false
set_option linter.unnecessarySimpa false
set_option maxRecDepth 100000
set_option maxHeartbeats 8000000
namespace Go.Proofs.YtgbdcmpmmkfbhaaGreat
variable {L:List LB} {x:LB} {b g gg j kb n:Nat} {l:List gD} {α:Type} {w w' w0 w1 w4:World} {v:Value} {A S Z:LN} {sa:List lS} {V V' V1 V2:V6} {s s':CS}
open Go.RowKit
theorem al2(hj:j<L.length)(h:∀i (hi:i<j),(L[i]==x)=false)(he:(L[j]==x)=true):iZ L x=j:=by
 unfold iZ;rw[List.findIdx_eq hj];exact⟨he,λi hi=>h i hi⟩
theorem ahZ(h:∀i (hi:i<L.length),(L[i]==x)=false):iZ L x=L.length:=by
 unfold iZ;rw[a2V];intro y hy;obtain⟨i,hi,rfl⟩:=a2o.1 hy;exact h i hi
theorem TI(L:List LB)(x:LB):iZ L x<=L.length:=List.findIdx_le_length
theorem al3 {L:List pP} {x:pP}(hj:j<L.length)(h:∀i (hi:i<j),Tn L[i] x=false)(he:Tn L[j] x=true):Qg L x=j:=by
 unfold Qg;rw[List.findIdx_eq hj];exact⟨he,λi hi=>h i hi⟩
theorem ah0 {L:List pP} {x:pP}(h:∀i (hi:i<L.length),Tn L[i] x=false):Qg L x=L.length:=by
 unfold Qg;rw[a2V];intro y hy;obtain⟨i,hi,rfl⟩:=a2o.1 hy;exact h i hi
def GL(l:List gD):Prop:=∀i (h:i<l.length),l[i].op=0\/(l[i].op=1/\l[i].a<i)\/(l[i].op=2/\l[i].a<i/\l[i].b<i)
theorem GL.snoc {x:gD}(h:GL l)(hx:x.op=0\/(x.op=1/\x.a<l.length)\/(x.op=2/\x.a<l.length/\x.b<l.length)):GL (l++[x]):=by
 intro i hi;simp at hi
 by_cases hl:i<l.length
 ·rw[List.getElem_append_left hl];exact h i hl
 obtain rfl:i=l.length:=by omega
 simpa using hx
theorem Ej(h:GL l){y:Nat}(hy:y<l.length)(hn:n<l.length):∀q:List (Nat × Bool),GL (dX q y n l).2/\(dX q y n l).1<(dX q y n l).2.length/\(dX q y n l).2.length=l.length+q.length
 | []=>⟨h,hy,rfl⟩
 | c::r=>by
   obtain⟨h1,h2,h3⟩:=Ej h hy hn r;refine⟨?_,by simp[dX],by simp[dX];omega⟩;rw[dX];refine h1.snoc ?_
   split
   ·exact .inr (.inr ⟨rfl,h2,by show n<_;omega⟩)
   exact .inr (.inr ⟨rfl,by show n<_;omega,h2⟩)
def RG(rec:Nat->Nat->List gD->Nat × List gD):Prop:=∀c d l,GL l->d<l.length->GL (rec c d l).2/\(rec c d l).1<(rec c d l).2.length/\l.length<=(rec c d l).2.length
theorem XG {rec:Nat->Nat->List gD->Nat × List gD}(hr:RG rec)(C:List CR)(q:List (List (Nat × Bool))) {d:Nat}(h:GL l)(hd:d<l.length):∀K:LN,
 GL (mM rec C q d l K).2.2/\(mM rec C q d l K).1<(mM rec C q d l K).2.2.length/\l.length<=(mM rec C q d l K).2.2.length/\(∀b∈(mM rec C q d l K).2.1,b<(mM rec C q d l K).2.2.length)/\(mM rec C q d l K).2.1.length=K.length
 | []=>⟨h,hd,a0a _,by simp[mM],rfl⟩
 | c::r=>by
   obtain⟨h1,h2,h3,h4,h5⟩:=XG hr C q h hd r;rw[mM];generalize mM rec C q d l r=x at *;obtain⟨g1,g2,g3⟩:=hr c (if (C[c]?.map (·.co))=some true then x.1 else d) x.2.2 h1 (by split<;>omega);generalize rec c (if (C[c]?.map (·.co))=some true then x.1 else d) x.2.2=b at *;obtain⟨k1,k2,k3⟩:=Ej g1 g2 (by omega:x.1<b.2.length) (q.getD c []);refine⟨k1,k2,by show l.length<=(dX _ _ _ _).2.length;omega,?_,by simp[h5]⟩;intro y hy;show y<(dX _ _ _ _).2.length;rcases a0l.1 hy with rfl|hy
   ·omega
   have:=h4 y hy;omega
theorem XI(q:List (List (Nat × Bool))) {first:Nat}(h:GL l)(hf:first < l.length):∀Z:List (Nat × Nat),(∀z∈Z,z.2<l.length)->GL (tu q first l Z).2/\(tu q first l Z).1<(tu q first l Z).2.length/\l.length<=(tu q first l Z).2.length
 | [],_=>⟨h,hf,a0a _⟩
 | z::r,hz=>by
   obtain⟨h1,h2,h3⟩:=XI q h hf r (λy hy=>hz y (by simp[hy]));have:=hz z (by simp);rw[tu];generalize tu q first l r=x at *
   obtain⟨k1,k2,k3⟩:=Ej h1 (by omega:z.2<x.2.length) h2 (q.getD z.1 []);exact⟨k1,k2,by omega⟩
theorem XJ(C:List CR)(q:List (List (Nat × Bool))):∀f,RG (lD C q f)
 | 0=>λc d l h hd=>⟨h,hd,a0a _⟩
 | f+1=>λr d l h hd=>by
   obtain⟨h1,h2,h3,h4,h5⟩:=XG (XJ C q f) C q h hd (kids C r);rw[lD];generalize mM (lD C q f) C q d l (kids C r)=x at *;obtain⟨k1,k2,k3⟩:=XI q (first:=x.2.2.length) (l:=x.2.2++[⟨1,r,d,0⟩]) (h1.snoc (.inr (.inl ⟨rfl,by show d<_;omega⟩))) (by simp) ((kids C r).zip x.2.1) (by
    intro z hz;have:=h4 z.2 (List.of_mem_zip hz).2;simp;omega)
   exact⟨k1,k2,by simp at k3;omega⟩
theorem LM(l:List gD):∀i R N c,(qU l i R N c).length=N.length
 | 0,_,_,_=>rfl
 | i+1,R,N,c=>by
   rw[qU]
   split
   ·split
    ·rw[LM];simp
    rfl
   rw[LM];simp
def JY(i:Nat)(R:List Bool)(N:List Int)(t:Nat):Prop:=if t<i then R.getD t false=true else 0<=N.getD t 0
def aam(l:List gD)(i:Nat)(R:List Bool)(N:List Int):Prop:=∀j x,i<=j->l[j]?=some x->0<=N.getD j 0->(x.op≠0->JY i R N x.a)/\(x.op=2->JY i R N x.b)
theorem getD_set_ne(L:List α)(i j:Nat)(x d:α)(h:i≠j):(L.set i x).getD j d=L.getD j d:=by simp[List.getD,a2G h]
theorem rJ(L:List α)(i:Nat)(x d:α)(h:i<L.length):(L.set i x).getD i d=x:=by simp[List.getD,h]
theorem getD_set_true(R:List Bool)(i j:Nat)(h:R.getD j false=true):(R.set i true).getD j false=true:=by
 by_cases e:i=j
 ·subst e
  have:i<R.length:=by
   rcases a3n i R.length with h1|h1
   ·exact h1
   simp[List.getD,h1]at h
  exact rJ R i true false this
 rw[getD_set_ne _ _ _ _ _ e];exact h
theorem GZ(hl:GL l):∀i (R:List Bool) (N:List Int) (c:Nat),i<=l.length->R.length=l.length->N.length=l.length->aam l i R N->aam l 0 R (qU l i R N c)
 | 0,R,N,c,_,_,_,h=>h
 | i+1,R,N,c,hi,hR,hN,h=>by
   rw[qU];obtain⟨x,hx⟩:∃x,l[i]?=some x:=⟨l[i],a0c (by omega)⟩;have iD:=hl i (by omega);have U0:l[i]'(by omega)=x:=by rw[a0c (by omega)]at hx;exact Option.some.inj hx
   rw[U0]at iD;have step:∀(R':List Bool) (v:Int),R'.length=l.length->(∀t,R.getD t false=true->R'.getD t false=true)->(R.getD i false=true->0<=v)->∀t,JY (i+1) R N t->JY i R' (N.set i v) t:=by
    intro R' v hR' hm hv t ht;unfold JY at ht |-
    by_cases h1:t<i
    ·rw[a0j h1];rw[a0j (by omega)]at ht;exact hm t ht
    rw[a0g h1]
    by_cases h2:t=i
    ·subst h2
     rw[a0j (by omega)]at ht;rw[rJ _ _ _ _ (by omega)];exact hv ht
    rw[a0g (by omega)]at ht;rw[getD_set_ne _ _ _ _ _ (by omega)];exact ht
   split
   ·rename_i hRi
    simp only[hx];have fin:∀R':List Bool,R'.length=l.length->(∀t,R.getD t false=true->R'.getD t false=true)->(x.op≠0->R'.getD x.a false=true)->(x.op=2->R'.getD x.b false=true)->aam l 0 R (qU l i R' (N.set i (c:Int)) (c+1)):=by
     intro R' hR' hm ha hb;have hP:aam l i R' (N.set i (c:Int)):=by
      intro j y hij hy hN0
      by_cases hj:j=i
      ·subst hj
       rw[hx]at hy;cases hy
       constructor
       ·intro ho
        unfold JY;rw[a0j (by rcases iD with h1|h1|h1;exact absurd h1 ho;exact h1.2;exact h1.2.1)];exact ha ho
       intro ho;unfold JY;rw[a0j (by rcases iD with h1|h1|h1;omega;omega;exact h1.2.2)];exact hb ho
      rw[getD_set_ne _ _ _ _ _ (by omega)]at hN0;obtain⟨k1,k2⟩:=h j y (by omega) hy hN0;exact⟨λho=>step R' c hR' hm (λ_=>by omega) _ (k1 ho),λho=>step R' c hR' hm (λ_=>by omega) _ (k2 ho)⟩
     have:=GZ hl i R' (N.set i (c:Int)) (c+1) (by omega) hR' (by simp[hN]) hP;intro j y h0 hy hN0;obtain⟨k1,k2⟩:=this j y h0 hy hN0;exact⟨λho=>by simpa[JY] using k1 ho,λho=>by simpa[JY] using k2 ho⟩
    by_cases h0:x.op=0
    ·rw[a0j h0]
     exact fin R hR (λt ht=>ht) (λho=>absurd h0 ho) (λho=>by omega)
    rw[a0g h0];have ja:x.a<l.length:=by rcases iD with h1|h1|h1;exact absurd h1 h0;omega;omega
    by_cases h2:x.op=2
    ·rw[a0j h2]
     have jO:x.b<l.length:=by rcases iD with h1|h1|h1<;>omega
     refine fin _ (by simp[hR]) (λt ht=>getD_set_true _ _ _ (getD_set_true _ _ _ ht)) (λ_=>getD_set_true _ _ _ (rJ _ _ _ _ (by omega))) (λ_=>rJ _ _ _ _ (by simp;omega))
    rw[a0g h2];exact fin _ (by simp[hR]) (λt ht=>getD_set_true _ _ _ ht) (λ_=>rJ _ _ _ _ (by omega)) (λho=>absurd ho h2)
   rename_i hRi
   have hP:aam l i R (N.set i (-1)):=by
    intro j y hij hy hN0
    by_cases hj:j=i
    ·subst hj
     rw[rJ _ _ _ _ (by omega)]at hN0;omega
    rw[getD_set_ne _ _ _ _ _ (by omega)]at hN0;obtain⟨k1,k2⟩:=h j y (by omega) hy hN0;exact⟨λho=>step R (-1) hR (λt ht=>ht) (λhc=>absurd hc hRi) _ (k1 ho),λho=>step R (-1) hR (λt ht=>ht) (λhc=>absurd hc hRi) _ (k2 ho)⟩
   exact GZ hl i R (N.set i (-1)) c (by omega) hR (by simp[hN]) hP
theorem adN(l:List gD)(first:Nat):(numsOf l first).length=l.length:=by unfold numsOf;rw[LM];simp
theorem abC(hl:GL l)(first:Nat)(j:Nat)(x:gD)(hj:l[j]?=some x)(h0:0<=(numsOf l first).getD j 0):(x.op≠0->0<=(numsOf l first).getD x.a 0)/\(x.op=2->0<=(numsOf l first).getD x.b 0):=by
 have hP:aam l l.length ((List.replicate l.length false).set first true) (List.replicate l.length 0):=by
  intro j y h1 h2;have:=(a0i.1 h2).1;omega
 have:=GZ hl l.length ((List.replicate l.length false).set first true) (List.replicate l.length 0) 0 (a0a _) (by simp) (by simp) hP j x (by omega) hj h0;unfold numsOf;simpa[JY] using this
structure RD where
 ty:TypeId
 k:Nat
 v:Value
 vs:List (List Value)
structure RWS(base:Nat)(w:World)(rs:List RD):Prop where
 o:∀(i:Nat) (r:RD),rs[i]?=some r->OW r.ty r.k base w r.v r.vs
 d:∀(i j:Nat) (r s:RD),i≠j->rs[i]?=some r->rs[j]?=some s->∀g,r.v.ownBlock=some g->s.v.ownBlock≠some g
def owns(rs:List RD):LN:=rs.flatMap λr=>r.v.ownBlock.toList
theorem mh {rs:List RD}:g∈owns rs↔∃(i:Nat) (r:RD),rs[i]?=some r/\r.v.ownBlock=some g:=by
 unfold owns;rw[a0U]
 constructor
 ·rintro⟨r,hr,hg⟩
  obtain⟨i,hi,rfl⟩:=a2o.1 hr;exact⟨i,rs[i],a0c hi,by simpa using hg⟩
 rintro⟨i,r,hi,hg⟩;exact⟨r,a0M hi,by simp[hg]⟩
theorem OW.apM {e:TypeId} {k base:Nat} {vs:List (List Value)} {row:Option Nat}(h:OW e k base w v vs)(hg:w.grownBy w' row)(hb:∀g,row=some g->v.ownBlock≠some g):OW e k base w' v vs:=by
 refine⟨⟨h.1.1,?_⟩,h.2⟩;rcases h.1.2 with hn|⟨g,cap,cur,rfl,zS,mP,rest⟩
 ·exact .inl hn
 refine .inr ⟨g,cap,cur,rfl,zS,?_,rest⟩;rw[hg.block g (a0d.1 mP).1 (λe=>hb g e.symm rfl)];exact mP
theorem RWS.aB {base:Nat} {rs:List RD}(h:RWS base w rs)(f:aA S w w')(hS:∀g∈S,g<base):RWS base w' rs:=⟨λi r hr=>(h.o i r hr).aB f hS,h.d⟩
theorem RWS.grow{base:Nat} {rs:List RD}(h:RWS base w rs)(i:Nat) {r r':RD}(hi:rs[i]?=some r)(hg:w.grownBy w' r.v.ownBlock)(ho:OW r'.ty r'.k base w' r'.v r'.vs)(hb:r'.v.ownBlock=some gg)(ha:r.v.ownBlock=some gg\/gg=w.heap.size):RWS base w' (rs.set i r'):=by
 have jf:i<rs.length:=(a0i.1 hi).1;have get:∀(j:Nat) (s:RD),(rs.set i r')[j]?=some s->(j=i/\s=r')\/(j≠i/\rs[j]?=some s):=by
  intro j s hs
  by_cases e:j=i
  ·subst e
   rw[a2W jf]at hs;exact .inl ⟨rfl,(Option.some.inj hs).symm⟩
  rw[a2G (λh=>e h.symm)]at hs;exact .inr ⟨e,hs⟩
 have nw:∀(j:Nat) (s:RD),j≠i->rs[j]?=some s->s.v.ownBlock≠some gg:=by
  intro j s hj hs e;rcases ha with ha|ha
  ·exact h.d i j r s (λk=>hj k.symm) hi hs gg ha e
  have:=(h.o j s hs).lt e;omega
 refine⟨λj s hs=>?_,λj k a b sI hj hk g hga=>?_⟩
 ·rcases get j s hs with⟨_,rfl⟩|⟨hj,hs⟩
  ·exact ho
  exact(h.o j s hs).apM hg (λg hr=>h.d i j r s (λk=>hj k.symm) hi hs g hr)
 rcases get j a hj with⟨rfl,rfl⟩|⟨hj1,Yx⟩<;>rcases get k b hk with⟨rfl,rfl⟩|⟨hk1,ME⟩
 ·exact absurd rfl sI
 ·rw[hb]at hga;cases hga;exact nw k b hk1 ME
 ·intro e;rw[hb]at e;cases e;exact nw j a hj1 Yx hga
 exact h.d j k a b sI Yx ME g hga
theorem iG.turn {I:Qe α}{B:LN} {row:Option Nat} {eu:List (Array Value)} {xs:List α}(h:iG I A w eu xs)(hg:w.grownBy w' row)(hr:∀r,row=some r->r∈A)(ha:row=some gg\/gg=w.heap.size)(hB:∀g∈B,g∈A\/g=gg):iG I B w' eu xs:=by
 have h1:iG I (A++[w.heap.size]) w eu xs:=h.bW (by intro g hm;simp at hm;rcases hm with hm|hm;exact .inl hm;exact .inr (by omega));have h2:iG I (A++[w.heap.size]) w' eu xs:=h1.aB (S:=row.toList) ((aA.refl row.toList w).grown hg (λr hr=>.inl (by simp[hr]))) (by intro g hm;simp at hm;simp[hr g hm]);refine h2.bW (λg hm=>.inl ?_);rcases hB g hm with hm|rfl
 ·simp[hm]
 rcases ha with ha|ha
 ·simp[hr _ ha]
 simp[ha]
def cc(L:List (Nat × Bool)):List (List Value):=L.map λc=>[.int .i64 (c.1:Nat),.bool c.2]
theorem TJ(L:List (Nat × Bool)):(cc L).length=L.length:=by simp[cc]
theorem Oa(L:List (Nat × Bool))(c:Nat × Bool):cc L++[[.int .i64 (c.1:Nat),.bool c.2]]=cc (L++[c]):=by simp[cc]
def akG:Qe (List (Nat × Bool)) where
 rel A w cs x:=∃vb,cs=#[vb]/\RW A 2 w vb (cc x)
 aB:=by
  rintro A S w w' cs x ⟨vb,h1,h2⟩ f hS;exact⟨vb,h1,h2.aB f hS⟩
 bW:=by
  rintro A B w cs x ⟨vb,h1,h2⟩ hB;exact⟨vb,h1,h2.bW hB⟩
structure KG(Z:LN)(w0:World)(kb:Nat)(w:World)(rs:List RD)(ca:List (Array Value))(sa:List lS)(cq:List (Array Value))(sq:List (List (Nat × Bool))):Prop where
 fr:aA [kb] w0 w
 lo:kb<w0.heap.size
 rw:RWS w0.heap.size w rs
 ai:iG adK (Z++kb::owns rs) w ca sa
 qi:iG akG (Z++kb::owns rs) w cq sq
theorem KG.aB {rs:List RD} {ca:List (Array Value)} {cq:List (Array Value)} {sq:List (List (Nat × Bool))}(h:KG Z w0 kb w rs ca sa cq sq)(f:aA S w w')(hS:∀g∈S,g=kb):KG Z w0 kb w' rs ca sa cq sq :=
 ⟨h.fr.over f (λx hx=>.inr (by simp[hS x hx])),h.lo,h.rw.aB f (λg hg=>by rw[hS g hg];exact h.lo),h.ai.aB f (λg hg=>by simp[hS g hg]),h.qi.aB f (λg hg=>by simp[hS g hg])⟩
theorem KG.agu {rs:List RD} {ca:List (Array Value)} {cq:List (Array Value)} {sq:List (List (Nat × Bool))}(h:KG Z w0 kb w rs ca sa cq sq)(hb:w.heap.size<=b):KG (b::Z) w0 kb w rs ca sa cq sq :=
 ⟨h.fr,h.lo,h.rw,h.ai.bW (λg hg=>by simp at hg |-;rcases hg with rfl|hg;exact .inr hb;exact .inl hg),h.qi.bW (λg hg=>by simp at hg |-;rcases hg with rfl|hg;exact .inr hb;exact .inl hg)⟩
theorem KG.abD {rs:List RD} {ca:List (Array Value)} {cq:List (Array Value)} {sq:List (List (Nat × Bool))}(h:KG (b::Z) w0 kb w rs ca sa cq sq):KG Z w0 kb w rs ca sa cq sq :=
 ⟨h.fr,h.lo,h.rw,h.ai.bW (λg hg=>.inl (by simp at hg |-;exact .inr hg)),h.qi.bW (λg hg=>.inl (by simp at hg |-;exact .inr hg))⟩
theorem KG.off {rs:List RD} {ca:List (Array Value)} {cq:List (Array Value)} {sq:List (List (Nat × Bool))}(h:KG Z w0 kb w rs ca sa cq sq)(f:aA S w w')(hZ:∀g∈S,g∈Z)(h0:∀g∈S,w0.heap.size<=g)(ho:∀g∈S,g∉owns rs):KG Z w0 kb w' rs ca sa cq sq:=by
 refine⟨h.fr.over f (λx hx=>.inl (h0 x hx)),h.lo,⟨λi r hr=>?_,h.rw.d⟩,h.ai.aB f (λg hg=>by simp[hZ g hg]),h.qi.aB f (λg hg=>by simp[hZ g hg])⟩;have ow:=h.rw.o i r hr;refine⟨⟨ow.1.1,?_⟩,ow.2⟩;rcases ow.1.2 with hn|⟨g,cap,cur,e,zS,mP,rest⟩
 ·exact .inl hn
 refine .inr ⟨g,cap,cur,e,zS,?_,rest⟩;rw[f.block g (a0d.1 mP).1 (λhm=>ho g hm (mh.2 ⟨i,r,hr,by rw[e];rfl⟩))];exact mP
theorem KG.grow {rs:List RD} {ca:List (Array Value)} {cq:List (Array Value)} {sq:List (List (Nat × Bool))}(h:KG Z w0 kb w rs ca sa cq sq)(i:Nat) {r r':RD}(hi:rs[i]?=some r)(hg:w.grownBy w' r.v.ownBlock)(ho:OW r'.ty r'.k w0.heap.size w' r'.v r'.vs)(hb:r'.v.ownBlock=some gg)(ha:r.v.ownBlock=some gg\/gg=w.heap.size):KG Z w0 kb w' (rs.set i r') ca sa cq sq:=by
 have jf:i<rs.length:=(a0i.1 hi).1;have hr:∀g,r.v.ownBlock=some g->g∈Z++kb::owns rs:=λg e=>a0b.2 (.inr (a0l.2 (.inr (mh.2 ⟨i,r,hi,e⟩))))
 have hB:∀g∈Z++kb::owns (rs.set i r'),g∈Z++kb::owns rs\/g=gg:=by
  intro g hm;rcases a0b.1 hm with hm|hm
  ·exact .inl (a0b.2 (.inl hm))
  rcases a0l.1 hm with rfl|hm
  ·exact .inl (by simp)
  obtain⟨j,s,hj,hs⟩:=mh.1 hm
  by_cases e:j=i
  ·subst e
   rw[a2W jf]at hj;cases hj
   rw[hb]at hs;exact .inr (Option.some.inj hs).symm
  rw[a2G (λh=>e h.symm)]at hj;exact .inl (a0b.2 (.inr (a0l.2 (.inr (mh.2 ⟨j,s,hj,hs⟩)))))
 exact⟨h.fr.grown hg (λg e=>.inr ((h.rw.o i r hi).lt e).1),h.lo,h.rw.grow i hi hg ho hb ha,h.ai.turn hg hr ha hB,h.qi.turn hg hr ha hB⟩
structure V4 where
 rt:Value
 x:Value
 q:Value
 l:Value
abbrev Qj(V:V6)(U:V4):Array Value:=#[V.n,V.c,V.a,V.t,V.r,V.i,U.rt,U.x,U.q,U.l]
def KR(w:World)(b:Nat)(V:V6)(U:V4):Prop:=w.heap[b]?=some (.cells (Qj V U) 59 (0,0))
theorem KR.c {U:V4}(h:KR w b V U)(i:Nat):w.cell? ⟨b,i,none⟩=(Qj V U)[i]?:=by
 unfold KR at h;simp[World.cell?,h]
theorem KR.fz {U:V4}(h:KR w b V U)(o:Nat):w.frozen? ⟨b,o,none⟩=false:=by
 unfold KR at h;simp[World.frozen?,h]
theorem KR.lt {U:V4}(h:KR w b V U):b<w.heap.size:=(a0d.1 h).1
theorem KR.aB {U:V4}(h:KR w b V U)(f:aA S w w')(hS:b∉S):KR w' b V U:=(f.block b h.lt hS).trans h
theorem KR.grown {U:V4} {row:Option Nat}(h:KR w b V U)(hg:w.grownBy w' row)(hr:∀r,row=some r->r≠b):KR w' b V U:=(hg.block b h.lt (λe=>hr b e.symm rfl)).trans h
theorem KR.set {U U':V4}(h:KR w b V U)(i:Nat)(v:Value)(e:(Qj V U).setIfInBounds i v=Qj V' U'):KR (w.setCell ⟨b,i,none⟩ v) b V' U':=by
 unfold KR at h |-;rw[<-e];simp[World.setCell,a0t,h]
abbrev Ac(V:V6)(U:V4)(s:CS)(ca cq:List (Array Value)):List RD :=
 [⟨9,1,V.n,sc s.n⟩,⟨9,1,V.c,sc s.c⟩,⟨9,1,U.x,sc s.x⟩,⟨157,259,V.a,iO ca⟩,⟨94,3,V.t,tc s.t⟩,⟨90,1,U.q,iO cq⟩]
structure KS(Z:LN)(w0:World)(kb:Nat)(w:World)(V:V6)(U:V4)(s:CS):Prop where
 row:KR w kb V U
 g:∃ca cq,KG Z w0 kb w (Ac V U s ca cq) ca s.a cq s.q
theorem KS.aB {U:V4}(h:KS Z w0 kb w V U s)(f:aA [] w w'):KS Z w0 kb w' V U s:=by
 obtain⟨ca,cq,g⟩:=h.g;exact⟨h.row.aB f (by simp),ca,cq,g.aB f (by simp)⟩
theorem KS.agu {U:V4}(h:KS Z w0 kb w V U s)(hb:w.heap.size<=b):KS (b::Z) w0 kb w V U s:=by
 obtain⟨ca,cq,g⟩:=h.g;exact⟨h.row,ca,cq,g.agu hb⟩
theorem KS.abD {U:V4}(h:KS (b::Z) w0 kb w V U s):KS Z w0 kb w V U s:=by
 obtain⟨ca,cq,g⟩:=h.g;exact⟨h.row,ca,cq,g.abD⟩
theorem Qk(w:World)(v:Value)(A:LN)(L:List LB)(x:LB)(h:RW A 1 w v (sc L))(hL:L.length<=1048576) :
 Calls Tryz.prog 44 #[v,.string (bs x)] w λe w'=>e=.returned (.int .i64 (iZ L x:Nat))/\w=w':=by
 obtain⟨a,c,rfl,r⟩:=h.str;have R:=aj r;have hl:=bg;clear h r;go_enter Tryz.func44,Tryz.ntmps44
 go_wp2_with fail
 go_loopg [9] L.length (λk v9 wr=>∃j:Nat,j+k=L.length/\v9=.int .i64 j/\wr=w/\Z_ (∀i (hi:i<j) (hl:i<L.length),(L[i]==x)=false))
 case atStart=>exact⟨0,by omega,rfl,rfl,λi hi=>by omega⟩
 case round =>
  obtain⟨j,sI,rfl,hw,HF⟩:=hrel;subst hw
  by_cases aO:j<L.length
  ·have iH:decide ((j:Int)<(L.length:Int))=true:=a0h (by omega)
   obtain⟨g,off,rfl,hg,k1⟩:=R.o j aO;cases he:(L[j]==x)
   ·have xY:Z_ (∀i (hi:i<j+1) (hl:i<L.length),(L[i]==x)=false):=λi hi jf=>by
     by_cases e:i=j
     ·subst e;exact he
     exact HF.o i (by omega) jf
    generalize L[j]=s at *;clear HF;go_wp2;go_roundg (gk-1)
    case measure=>omega
    case rel=>exact⟨j+1,by omega,by go_num,rfl,xY⟩
   have HV:Z_ (iZ L x=j):=al2 aO (λi hi=>HF.o i hi (by omega)) he;generalize L[j]=s at *;clear HF;go_wp2;go_ret;rw[HV.o];exact⟨rfl,rfl⟩
  have iH:decide ((j:Int)<(L.length:Int))=false:=a0f (by omega);have HV:Z_ (iZ L x=L.length):=ahZ (λi hi=>HF.o i (by omega) hi);clear HF;go_wp2;go_ret;rw[HV.o];exact⟨rfl,rfl⟩
def rcl(c:CR)(dP iB:Value):Array Value:=#[.int .i64 (c.d:Nat),.string (bs c.rc),.bool c.tb,dP,.int .i64 c.wt,.int .i64 c.ev,.int .i64 c.rp,iB,.bool c.co]
def Hq(L:List CM):List (List Value):=L.map yF
def rtI:Qe CR where
 rel A w cs c:=∃dP iB,cs=rcl c dP iB/\RW A 1 w dP (sc c.nU)/\RW A 3 w iB (Hq c.ifs)
 aB:=by
  rintro A S w w' cs x ⟨v1,v2,h1,h2,h3⟩ f hS;exact⟨v1,v2,h1,h2.aB f hS,h3.aB f hS⟩
 bW:=by
  rintro A B w cs x ⟨v1,v2,h1,h2,h3⟩ hB;exact⟨v1,v2,h1,h2.bW hB,h3.bW hB⟩
def LQ(A:LN)(w:World)(v:Value)(C:List CR):Prop:=∃eu,RW A 9 w v (iO eu)/\iG rtI A w eu C
theorem LQ.aB {C:List CR}(h:LQ A w v C)(f:aA S w w')(hS:∀g∈S,g∈A):LQ A w' v C:=by
 obtain⟨eu,h1,h2⟩:=h;exact⟨eu,h1.aB f hS,h2.aB f hS⟩
def C9(C:List CR)(i:Nat):Int:=match par C i with | some p=>(p:Int)|none=>-1
theorem JZ(w:World)(v:Value)(A:LN)(C:List CR)(h:LQ A w v C)(hC:C.length<=1048576)(hd:∀c∈C,c.d<=1048576)(i:Nat)(hi:i<C.length) :
 Calls Tryz.prog 29 #[v,.int .i64 i] w λe w'=>e=.returned (.int .i64 (C9 C i))/\∃q,w'=w.drewN q:=by
 obtain⟨eu,h1,h2⟩:=h;obtain⟨a,cp,rfl,r⟩:=yO h1 h2;obtain⟨g,off,cs,rfl,hg,_,⟨dP,iB,rfl,_⟩,k1⟩:=r i hi;have p0:w.cell? ⟨g,off+i*9,none⟩=some (.int .i64 (C[i].d:Nat)):=k1 0 _ rfl;have HP:Z_ (C9 C i=match rZ C C[i].d i with | some p=>(p:Int)|none=>-1):=by
  show _=_;unfold C9 par;rw[a0c hi]
 have hdi:=hd C[i] (a0z hi);have R:=aj r;have HD:=aj hd;have BF:decide ((i:Int)<0)=false:=a0f (by omega);have apN:decide ((C.length:Int)<=(i:Int))=false:=a0f (by omega);generalize nA:C[i].d=dd at *;clear h1 h2 r k1 nA hd;go_enter Tryz.func29,Tryz.ntmps29
 go_wp2_with fail
 go_loopg [5] i (λk v5 wr=>∃(j q:Nat) (x:Int),j<=i/\k=j/\v5=.int .i64 x/\x=(j:Int)-1/\wr=w.drewN q/\Z_ (rZ C dd j=rZ C dd i))
 case atStart=>exact⟨i,0,_,by omega,rfl,rfl,by omega,rfl,by show _=_;rfl⟩
 case round =>
  obtain⟨j,q,x,hji,rfl,rfl,hx,hw,HF⟩:=hrel;subst hw;rcases gk with _|n
  ·obtain rfl:x=-1:=by omega
   clear hx;have HV:Z_ (C9 C i=-1):=by show _=_;rw[HP.o,<-HF.o];rfl
   clear HF HP;go_wp2;go_ret;rw[HV.o];exact⟨rfl,q,rfl⟩
  obtain rfl:x=(n:Int):=by omega
  clear hx;obtain⟨g',off',cs,e,_,_,⟨dP,iB,rfl,_⟩,k1⟩:=R.o n (by omega);simp only[Option.some.injEq,Addr.mk.injEq,and_true]at e;obtain⟨rfl,rfl⟩:=e;have q0:w.cell? ⟨g,off+n*9,none⟩=some (.int .i64 (C[n].d:Nat)):=k1 0 _ rfl;have GA:=HD.o C[n] (a0z _);have gP:rZ C dd (n+1)=if C[n].d+1=dd then some n else rZ C dd n:=by
   rw[rZ,a0c (by omega)];simp
  generalize C[n].d=dn at *
  by_cases he:dn+1=dd
  ·have HV:Z_ (C9 C i=(n:Int)):=by
    show _=_;rw[HP.o,<-HF.o,gP,a0j he]
   have hb:((dn:Int)==(dd:Int)-1)=true:=by simp;omega
   have Jf:decide ((dn:Int)=(dd:Int)-1)=true:=a0h (by omega);clear HF HP gP k1;go_wp2_with fail
   go_quiet (fail)
   go_wp2;go_ret;rw[HV.o];exact⟨rfl,_,Dk _ _ _⟩
  have xY:Z_ (rZ C dd n=rZ C dd i):=by
   show _=_;rw[<-HF.o,gP,a0g he]
  have hb:((dn:Int)==(dd:Int)-1)=false:=by simp;omega
  have Jf:decide ((dn:Int)=(dd:Int)-1)=false:=a0f (by omega);clear HF gP k1;go_wp2_with fail
  go_quiet (fail)
  go_wp2;go_roundg n
  case measure=>omega
  case rel=>exact⟨n,_,_,by omega,rfl,rfl,by omega,rfl,xY⟩
theorem H9(w:World)(x:Int)(y:Nat)(hx:-1<=x) :
 Calls Tryz.prog 46 #[.int .i64 x,.int .i64 y] w λe w'=>e=.returned (.int .i64 (yP x y:Nat))/\w=w':=by
 by_cases h:x=-1
 ·subst h
  go_enter Tryz.func46,Tryz.ntmps46
  go_wp2;go_ret;exact⟨rfl,rfl⟩
 have HV:Z_ (((yP x y:Nat):Int)=x):=by show _=_;unfold yP;rw[a0g h];omega
 have hb:(x == -1)=false:=by simp[h]
 go_enter Tryz.func46,Tryz.ntmps46
 go_wp2;go_ret;rw[HV.o];exact⟨rfl,rfl⟩
theorem KS.own {U:V4}(h:KS Z w0 kb w V U s)(i:Nat) {r:RD}(hi:∀ca cq,(Ac V U s ca cq)[i]?=some r):OW r.ty r.k w0.heap.size w r.v r.vs:=by
 obtain⟨ca,cq,g⟩:=h.g;exact g.rw.o i r (hi ca cq)
theorem KS.lo {U:V4}(h:KS Z w0 kb w V U s):kb<w0.heap.size/\w0.heap.size<=w.heap.size:=by
 obtain⟨ca,cq,g⟩:=h.g;exact⟨g.lo,g.fr.size⟩
theorem KS.put {U U':V4}(h:KS Z w0 kb w V U s)(f:aA [] w w1)(i:Nat)(r r':RD)(hi:∀ca cq,(Ac V U s ca cq)[i]?=some r)(hs:∀ca cq,(Ac V U s ca cq).set i r'=Ac V' U' s' ca cq)(hsa:s'.a=s.a)(hsq:s'.q=s.q)
 (hg:w1.grownBy w4 r.v.ownBlock) (ho:OW r'.ty r'.k w0.heap.size w4 r'.v r'.vs) (hb:r'.v.ownBlock=some gg) (ha:r.v.ownBlock=some gg\/gg=w1.heap.size) (o:Nat) (v:Value) (hk:(Qj V U).setIfInBounds o v=Qj V' U'):KS Z w0 kb (w4.setCell ⟨kb,o,none⟩ v) V' U' s':=by
 have aQ:=h.own i hi;obtain⟨ca,cq,g⟩:=h.g;have l7:=g.lo;have g1:=g.aB f (by simp);have g2:=g1.grow i (hi ca cq) hg ho hb ha;rw[hs]at g2;have g3:=g2.aB (S:=[kb]) ((aA.refl [kb] _).setCell (p:=⟨kb,o,none⟩) (.inl (by simp)) v) (by simp);refine⟨((h.row.aB f (by simp)).grown hg (λr hr=>by have:=(aQ.lt hr).1;omega)).set o v hk,ca,cq,?_⟩;rw[hsa,hsq];exact g3
def Da(V:V6)(U:V4):LN:=[V.n,V.c,U.x,V.a,V.t,U.q].flatMap λv=>v.ownBlock.toList
theorem Jb(V:V6)(U:V4)(s:CS)(ca cq:List (Array Value)):owns (Ac V U s ca cq)=Da V U:=rfl
structure KF(kb:Nat)(w:World)(V:V6)(U:V4)(w':World)(V':V6)(U':V4):Prop where
 f:aA (kb::Da V U) w w'
 o:∀g∈Da V' U',g∈Da V U\/w.heap.size<=g
theorem KF.refl(kb:Nat)(w:World)(V:V6)(U:V4):KF kb w V U w V U:=⟨aA.refl _ _,λg h=>.inl h⟩
theorem KF.trans{w2:World} {U U1 U2:V4}(h:KF kb w V U w1 V1 U1)(k:KF kb w1 V1 U1 w2 V2 U2):KF kb w V U w2 V2 U2:=by
 refine⟨h.f.over k.f ?_,λg hg=>?_⟩
 ·intro x hx
  rcases a0l.1 hx with rfl|hx
  ·exact .inr (by simp)
  rcases h.o x hx with h1|h1
  ·exact .inr (by simp[h1])
  exact .inl h1
 rcases k.o g hg with h1|h1
 ·exact h.o g h1
 exact .inr (a0e h.f.size h1)
theorem KF.of {U:V4}(h:aA [] w w1):KF kb w V U w1 V U:=⟨(aA.refl _ _).over h (by simp),λg hg=>.inl hg⟩
theorem KF.put {U U':V4} {ca cq ca' cq':List (Array Value)}(f:aA [] w w1)(i:Nat) {r r':RD}(hi:(Ac V U s ca cq)[i]?=some r)(hs:(Ac V U s ca cq).set i r'=Ac V' U' s' ca' cq')(hg:w1.grownBy w4 r.v.ownBlock)(hb:r'.v.ownBlock=some gg)(ha:r.v.ownBlock=some gg\/gg=w1.heap.size)(o:Nat)(v:Value):KF kb w V U (w4.setCell ⟨kb,o,none⟩ v) V' U':=by
 have jf:i<(Ac V U s ca cq).length:=(a0i.1 hi).1;refine⟨((((aA.refl _ w).over f (by simp))).grown hg (λg hr=>.inl ?_)).setCell (p:=⟨kb,o,none⟩) (.inl (by simp)) v,λg hm=>?_⟩
 ·rw[<-Jb V U s ca cq]
  exact a0l.2 (.inr (mh.2 ⟨i,r,hi,hr⟩))
 rw[<-Jb V' U' s' ca' cq',<-hs]at hm;obtain⟨j,t,hj,ht⟩:=mh.1 hm
 by_cases e:j=i
 ·subst e
  rw[a2W jf]at hj;cases hj
  rw[hb]at ht;cases ht
  rcases ha with ha|ha
  ·exact .inl (by rw[<-Jb V U s ca cq];exact mh.2 ⟨j,r,hi,ha⟩)
  exact .inr (by rw[ha];exact f.size)
 rw[a2G (λh=>e h.symm)]at hj;exact .inl (by rw[<-Jb V U s ca cq];exact mh.2 ⟨j,t,hj,ht⟩)
theorem KS.off {U:V4}(h:KS Z w0 kb w V U s)(f:aA S w w')(hZ:∀g∈S,g∈Z)(h0:∀g∈S,w0.heap.size<=g)(ho:∀g∈S,g∉Da V U):KS Z w0 kb w' V U s:=by
 have l7:=h.lo.1;obtain⟨ca,cq,g⟩:=h.g;exact⟨h.row.aB f (λhm=>by have:=h0 kb hm;omega),ca,cq,g.off f hZ h0 ho⟩
theorem akH(a b:pP):Tn a b=(a.n==b.n&&(a.k==b.k&&a.x==b.x)):=rfl
theorem RW.tst {L:List pP}(h:RW A 3 w v (tc L)):∃a cap,v=.slice a L.length cap/\∀(j:Nat) (hj:j<L.length),∃g off,a=some ⟨g,off,none⟩/\g<w.heap.size/\w.cell? ⟨g,off+j*3,none⟩=some (.int .i64 (L[j].n:Nat))/\w.cell? ⟨g,off+j*3+1,none⟩=some (.int .i64 (L[j].k:Nat))/\w.cell? ⟨g,off+j*3+2,none⟩=some (.int .i64 (L[j].x:Nat)):=by
 obtain⟨a,cap,e,h1,h2⟩:=h;rw[TG]at e;refine⟨a,cap,e,λj hj=>?_⟩;obtain⟨g,off,e2,h3,h4,h5⟩:=h2 j (by rw[TG];exact hj);exact⟨g,off,e2,h4,h5 0 _ (by simp[tc,lT]),h5 1 _ (by simp[tc,lT]),h5 2 _ (by simp[tc,lT])⟩
theorem Ob(Z:LN)(w0:World)(kb:Nat)(w:World)(V:V6)(U:V4)(s:CS)(h:KS Z w0 kb w V U s)(x:pP)(dM:s.t.length<=1000) :
 Calls Tryz.prog 28 #[.pointer (some ⟨kb,0,none⟩),.agg (lT x)] w λe w'=>e=.returned (.int .i64 (Qg s.t x:Nat))/\∃V',KS Z w0 kb w' V' U { s with t:=xR s.t x }/\(V'.r=V.r/\V'.i=V.i)/\KF kb w V U w' V' U:=by
 obtain⟨vn,vc,va,vt,vr,vi⟩:=V;have hO:OW 94 3 w0.heap.size w vt (tc s.t):=h.own 4 (r:=⟨94,3,vt,tc s.t⟩) (λca cq=>rfl);obtain⟨a,cap,rfl,r⟩:=(hO.rw (A:=[]) (by simp)).tst;have c3:=h.row.c 3;simp at c3;have R:=aj r;have O:=aj hO;have HK:=aj h;have l7:=h.lo;have LH:=h.row.lt;clear r hO h;obtain⟨xn,xk,xx⟩:=x;simp only[lT];go_enter Tryz.func28,Tryz.ntmps28
 go_wp2_with fail
 go_loopg [13] s.t.length (λk v13 wr=>∃j:Nat,j+k=s.t.length/\v13=.int .i64 j/\aA [] w wr/\Z_ (wr.heap[w.heap.size]?=some (Obj.cells #[.int .i64 (xn:Nat),.int .i64 (xk:Nat),.int .i64 (xx:Nat)] 94))/\Z_ (∀i (hi:i<j) (hl:i<s.t.length),Tn s.t[i] ⟨xn,xk,xx⟩=false))
 case atStart=>exact⟨0,by omega,rfl,(aA.refl _ _).alloc _,bK _ _,λi hi=>by omega⟩
 case round =>
  obtain⟨j,sI,rfl,hF,HB,HF⟩:=hrel;have F:=aj hF;have Jw:=hF.size;have hB:=HB.o;have b0:wr.cell? ⟨w.heap.size,0,none⟩=some (.int .i64 (xn:Nat)):=by simp[World.cell?,hB]
  have b1:wr.cell? ⟨w.heap.size,1,none⟩=some (.int .i64 (xk:Nat)):=by simp[World.cell?,hB]
  have b2:wr.cell? ⟨w.heap.size,2,none⟩=some (.int .i64 (xx:Nat)):=by simp[World.cell?,hB]
  have jO:w.heap.size<wr.heap.size:=(a0d.1 hB).1;have d3:=hF.at (p:=⟨kb,3,none⟩) LH c3;clear hB
  by_cases aO:j<s.t.length
  ·have iH:decide ((j:Int)<(s.t.length:Int))=true:=a0h (by omega)
   obtain⟨g,off,rfl,hg,q0,q1,q2⟩:=R.o j aO;have t0:=hF.at (p:=⟨g,off+j*3,none⟩) hg q0;have t1:=hF.at (p:=⟨g,off+j*3+1,none⟩) hg q1;have t2:=hF.at (p:=⟨g,off+j*3+2,none⟩) hg q2;have Ec:g<wr.heap.size:=by omega
   have Bu:=akH s.t[j] ⟨xn,xk,xx⟩;have HFA:Z_ (Tn s.t[j] ⟨xn,xk,xx⟩=true->Qg s.t ⟨xn,xk,xx⟩=j):=λhe=>al3 aO (λi hi=>HF.o i hi (by omega)) he
   have HFB:Z_ (Tn s.t[j] ⟨xn,xk,xx⟩=false->∀i (hi:i<j+1) (hl:i<s.t.length),Tn s.t[i] ⟨xn,xk,xx⟩=false):=λhe i hi jf=>by
    by_cases e:i=j
    ·subst e;exact he
    exact HF.o i (by omega) jf
   clear q0 q1 q2 hF;generalize htj:s.t[j]=tj at *;obtain⟨an,ak,ax⟩:=tj;clear htj;simp only at t0 t1 t2 Bu
   by_cases e1:an=xn
   ·subst e1
    by_cases e2:ak=xk
    ·subst e2
     by_cases e3:ax=xx
     ·subst e3
      have HV:Z_ (Qg s.t ⟨an,ak,ax⟩=j):=HFA.o (by rw[Bu];simp);have HA:Z_ (xR s.t ⟨an,ak,ax⟩=s.t):=by show _=_;unfold xR;rw[a0g];rw[HV.o];omega
      clear HFA HFB HF Bu;go_wp2;go_ret;rw[HV.o,HA.o];exact⟨rfl,_,HK.o.aB (F.o.alloc _),⟨rfl,rfl⟩,KF.of (F.o.alloc _)⟩
     have xY:Z_ (∀i (hi:i<j+1) (hl:i<s.t.length),Tn s.t[i] ⟨an,ak,xx⟩=false):=HFB.o (by rw[Bu];simp[e3]);clear HFA HFB HF Bu;go_wp2;go_roundg (gk-1)
     case measure=>omega
     case rel=>exact⟨j+1,by omega,by go_num,F.o.alloc _,((aA.refl [] _).alloc _ |>.block w.heap.size jO (by simp)).trans HB,xY⟩
    have xY:Z_ (∀i (hi:i<j+1) (hl:i<s.t.length),Tn s.t[i] ⟨an,xk,xx⟩=false):=HFB.o (by rw[Bu];simp[e2]);clear HFA HFB HF Bu;go_wp2;go_roundg (gk-1)
    case measure=>omega
    case rel=>exact⟨j+1,by omega,by go_num,F.o.alloc _,((aA.refl [] _).alloc _ |>.block w.heap.size jO (by simp)).trans HB,xY⟩
   have xY:Z_ (∀i (hi:i<j+1) (hl:i<s.t.length),Tn s.t[i] ⟨xn,xk,xx⟩=false):=HFB.o (by rw[Bu];simp[e1]);clear HFA HFB HF Bu;go_wp2;go_roundg (gk-1)
   case measure=>omega
   case rel=>exact⟨j+1,by omega,by go_num,F.o.alloc _,((aA.refl [] _).alloc _ |>.block w.heap.size jO (by simp)).trans HB,xY⟩
  have iH:decide ((j:Int)<(s.t.length:Int))=false:=a0f (by omega);have HV:Z_ (Qg s.t ⟨xn,xk,xx⟩=s.t.length):=ah0 (λi hi=>HF.o i (by omega) hi);have HA:Z_ (xR s.t ⟨xn,xk,xx⟩=s.t++[⟨xn,xk,xx⟩]):=by show _=_;unfold xR;rw[a0j HV.o]
  have jv:Z_ ((tc s.t).length=s.t.length):=TG s.t;have Ad:Z_ (∀r,Value.ownBlock (.slice a s.t.length cap)=some r->r≠kb):=λr hr=>by have:=(O.o.lt hr).1;omega
  have OR:=aj (O.o.aB hF (by simp));have KSR:=aj (HK.o.aB hF);have z3:=KSR.o.row.fz 3;have iA:=l7.2;have hkr:kb<wr.heap.size:=by omega
  clear HF hF;go_wp2_with fail
  go_region_law ((refine uo _ (by rfl) _ _ 42 94 _ 3 24 ahX Tryz.underlying42 (by rfl) (by omega) (by rfl) w0.heap.size (.slice a s.t.length cap) (tc s.t) wr.heap.size (lT ⟨xn,xk,xx⟩) (0,0) (by rfl) (OR.o.aB (S:=[]) (((aA.refl [] _).alloc _).drew) (by simp)) (by rfl) (by rfl) (by exact bK _ _) (afn _) (by rw[jv.o];omega) (by rw[jv.o];omega) (by simp;omega) (wr.heap.size+1) (by simp) ?_;intro gg aP w4 bF aG aX zx;rw[jv.o]at bF |-;have R4:=aj ((KSR.o.row.aB (S:=[]) (((aA.refl [] _).alloc _).drew) (by simp)).grown aG Ad);have k3:=R4.o.c 3;have y3:=R4.o.fz 3;simp at k3))
  all_goals
   rw[akC]at bF;have K5:=aj (KSR.o.put (((aA.refl [] _).alloc _).drew) 4 ⟨94,3,.slice a s.t.length cap,tc s.t⟩ ⟨94,3,.slice (some ⟨gg,0,none⟩) (s.t.length+1) aP,tc (s.t++[⟨xn,xk,xx⟩])⟩ (V':=⟨vn,vc,va,.slice (some ⟨gg,0,none⟩) (s.t.length+1) aP,vr,vi⟩) (U':=U) (s':={ s with t:=s.t++[⟨xn,xk,xx⟩] }) (λca cq=>rfl) (λca cq=>rfl) rfl rfl aG bF rfl (by simpa using aX) 3 (.slice (some ⟨gg,0,none⟩) (s.t.length+1) aP) rfl);have KF5:Z_ (KF kb w ⟨vn,vc,va,.slice a s.t.length cap,vr,vi⟩ U (w4.setCell ⟨kb,3,none⟩ (.slice (some ⟨gg,0,none⟩) (s.t.length+1) aP)) ⟨vn,vc,va,.slice (some ⟨gg,0,none⟩) (s.t.length+1) aP,vr,vi⟩ U):=KF.put (s:=s) (s':={ s with t:=s.t++[⟨xn,xk,xx⟩] }) (ca:=[]) (cq:=[]) (ca':=[]) (cq':=[]) ((F.o.alloc _).drew) 4 (r:=⟨94,3,.slice a s.t.length cap,tc s.t⟩) (r':=⟨94,3,.slice (some ⟨gg,0,none⟩) (s.t.length+1) aP,tc (s.t++[⟨xn,xk,xx⟩])⟩) rfl rfl aG rfl (by simpa using aX) 3 _;have m3:=K5.o.row.c 3;simp at m3;clear aG bF aX k3 y3 R4;go_wp2;go_ret;rw[HV.o,HA.o];exact⟨congrArg Ending.returned (by go_num),_,K5,⟨rfl,rfl⟩,KF5⟩
def RCP(re:LB->Nat)(dw:LB->lS)(v:LB):Prop :=
 ∀w:World,Calls Tryz.prog 64 #[.string (bs v)] w λe w'=>aA [] w w'/\∃cs:Array Value,cs.size=259/\cs.all (·.oneCell')=true/\e=.returned (.tuple #[.agg cs,.int .i64 (re v:Nat)])/\(re v=0->∀A:LN,(∀g∈A,g<w.heap.size)->iG adK A w' [cs] [dw v])
def KV(V V':V6)(U U':V4):Prop:=V'.r=V.r/\V'.i=V.i/\U'.rt=U.rt/\U'.l=U.l
theorem KV.refl(V:V6)(U:V4):KV V V U U:=⟨rfl,rfl,rfl,rfl⟩
theorem KV.trans {U U1 U2:V4}(h:KV V V1 U U1)(k:KV V1 V2 U1 U2):KV V V2 U U2:=⟨k.1.trans h.1,k.2.1.trans h.2.1,k.2.2.1.trans h.2.2.1,k.2.2.2.trans h.2.2.2⟩
def NAQ(Z:LN)(re:LB->Nat)(dw:LB->lS)(w0:World)(kb:Nat)(w:World)(V:V6)(U:V4)(s:CS)(v:LB)(e:Ending)(w':World):Prop :=
 (iZ s.x v<s.x.length/\e=.returned (.tuple #[.int .i64 (iZ s.x v:Nat),.int .i64 0])/\KS Z w0 kb w' V U s/\KF kb w V U w' V U) \/
 (iZ s.x v=s.x.length/\re v=0/\e=.returned (.tuple #[.int .i64 (s.x.length:Nat),.int .i64 0])/\∃V' U',KS Z w0 kb w' V' U' { s with x:=s.x++[v],a:=s.a++[dw v] }/\KV V V' U U'/\KF kb w V U w' V' U') \/
 (iZ s.x v=s.x.length/\re v≠0/\e=.returned (.tuple #[.int .i64 0,.int .i64 (re v:Nat)])/\aA [kb] w0 w'/\KF kb w V U w' V U)
theorem KS.fr {U:V4}(h:KS Z w0 kb w V U s):aA [kb] w0 w:=by
 obtain⟨ca,cq,g⟩:=h.g;exact g.fr
theorem KG.adO {rs:List RD} {ca:List (Array Value)} {cq:List (Array Value)} {sq:List (List (Nat × Bool))}(h:KG Z w0 kb w rs ca sa cq sq):∀g∈kb::owns rs,g<w.heap.size:=by
 intro g hg;rcases a0l.1 hg with rfl|hg
 ·exact a0x h.lo h.fr.size
 obtain⟨i,r,hi,ho⟩:=mh.1 hg;exact((h.rw.o i r hi).lt ho).2
theorem Db {rs:List RD}(i:Nat) {r r':RD}(hi:rs[i]?=some r)(hb:r'.v.ownBlock=some gg):∀g∈Z++kb::owns (rs.set i r'),g∈Z++kb::owns rs\/g=gg:=by
 have jf:i<rs.length:=(a0i.1 hi).1;intro g hm;rcases a0b.1 hm with hm|hm
 ·exact .inl (a0b.2 (.inl hm))
 rcases a0l.1 hm with rfl|hm
 ·exact .inl (by simp)
 obtain⟨j,s,hj,hs⟩:=mh.1 hm
 by_cases e:j=i
 ·subst e
  rw[a2W jf]at hj;cases hj
  rw[hb]at hs;exact .inr (Option.some.inj hs).symm
 rw[a2G (λh=>e h.symm)]at hj;exact .inl (a0b.2 (.inr (a0l.2 (.inr (mh.2 ⟨j,s,hj,hs⟩)))))
theorem Dc {rs:List RD}(i:Nat) {r:RD}(hi:rs[i]?=some r)(ho:r.v.ownBlock=some g):g∈Z++kb::owns rs:=a0b.2 (.inr (a0l.2 (.inr (mh.2 ⟨i,r,hi,ho⟩))))
theorem Em(Z:LN)(re:LB->Nat)(dw:LB->lS)(w0:World)(kb:Nat)(w:World)(V:V6)(U:V4)(s:CS)(h:KS Z w0 kb w V U s)(hZ:∀g∈Z,g<w.heap.size)(v:LB)(hv:RCP re dw v)(hx:s.x.length<=1000)(hsa:s.a.length<=1000) :
 Calls Tryz.prog 45 #[.pointer (some ⟨kb,0,none⟩),.string (bs v)] w (NAQ Z re dw w0 kb w V U s v):=by
 obtain⟨vn,vc,va,vt,vr,vi⟩:=V;obtain⟨rt,ux,uq,ul⟩:=U;have hO:OW 9 1 w0.heap.size w ux (sc s.x):=h.own 2 (r:=⟨9,1,ux,sc s.x⟩) (λca cq=>rfl);have N1:=aj (Qk w ux [] s.x v (hO.rw (by simp)) (by omega));obtain⟨ax,cx,he⟩:=hO.shape;rw[jq]at he;subst he;have c7:=h.row.c 7;simp at c7;have hfl:=TI s.x v;have HK:=aj h;have l7:=h.lo;have LH:=h.row.lt;have HV:=aj hv;clear h hO hv
 by_cases hfd:iZ s.x v<s.x.length
 ·have iH:decide ((iZ s.x v:Int)<(s.x.length:Int))=true:=a0h (by omega)
  have HFD:=aj hfd;clear hfd hfl;generalize hf:iZ s.x v=fx at *;have HF:=aj hf;clear hf;go_enter Tryz.func45,Tryz.ntmps45
  go_wp2_with fail
  refine(N1.o).mono ?_;rintro e w1 ⟨rfl,rfl⟩;go_wp2;go_ret2;exact .inl ⟨by rw[HF.o];exact HFD,by rw[HF.o];rfl,HK,KF.refl _ _ _ _⟩
 have Gv:iZ s.x v=s.x.length:=by omega
 rw[Gv]at N1;have HFE:=aj Gv;clear hfd hfl Gv;have N2:=aj (HV.o w);go_enter Tryz.func45,Tryz.ntmps45
 go_wp2_with fail
 refine(N1.o).mono ?_;rintro e w1' ⟨rfl,rfl⟩;clear N1;go_wp2_with fail
 refine(N2.o).mono ?_;clear N2;rintro e w1 ⟨rC,cs,za,fJ,rfl,iN⟩;obtain⟨W3,dM,agv,hh3,uP⟩:∃W3,(storeCells ⟨w1.heap.size,0,none⟩ cs.toList).run Tryz.prog (w1.alloc (Obj.cells Tryz.zeroCells157 157))=.ok () W3/\Z_ (aA [] w1 W3)/\Z_ (W3.heap[w1.heap.size]?=some (.cells cs 157 (0,0)))/\W3.heap.size=w1.heap.size+1:=by
  have hh:(w1.alloc (Obj.cells Tryz.zeroCells157 157)).heap[w1.heap.size]?=some (.cells Tryz.zeroCells157 157 (0,0)):=bK _ _;exact⟨_,uf hh (by rw[za,iC]) fJ,((aA.refl [] w1).alloc _).over (aA.setRow _ _ _) (by simp),tZ hh,by simp[World.setRow]⟩
 have HZ3:=aj uP;clear uP;have F13:=aj (rC.trans agv);have aq7:=F13.o.size;have K3:=aj (HK.o.aB F13);have k7:=K3.o.row.c 7;simp at k7;have kz7:=K3.o.row.fz 7
 by_cases Tc:re v=0
 ·have bL:((re v:Int)==0)=true:=by rw[Tc];rfl
  have apO:Z_ (∀A:LN,(∀g∈A,g<w.heap.size)->iG adK A W3 [cs] [dw v]):=λA hA=>(iN Tc A hA).aB agv.o (by simp)
  have XK:=aj Tc;rw[Tc];have Tj:=aj za;have Ri:=aj fJ;have fT:=rC.size;clear iN rC fJ agv bL c7 Tc;have OX:=aj (K3.o.own 2 (r:=⟨9,1,.slice ax s.x.length cx,sc s.x⟩) (λca cq=>rfl));have HOB:Z_ (∀r,Value.ownBlock (.slice ax s.x.length cx)=some r->w0.heap.size<=r/\r<w.heap.size):=λr hr=>⟨(OX.o.lt hr).1,((HK.o.own 2 (r:=⟨9,1,.slice ax s.x.length cx,sc s.x⟩) (λca cq=>rfl)).lt hr).2⟩
  have iA:=l7.2;have hk0:=l7.1;go_upto_region 7 with fail
  go_cut [6] (λv6 wc=>True/\v6=.int .i64 (s.x.length:Nat)/\∃ux ca cq,KR wc kb ⟨vn,vc,va,vt,vr,vi⟩ ⟨rt,ux,uq,ul⟩/\KG Z w0 kb wc (Ac ⟨vn,vc,va,vt,vr,vi⟩ ⟨rt,ux,uq,ul⟩ { s with x:=s.x++[v] } ca cq) ca s.a cq s.q/\wc.heap[w1.heap.size]?=some (.cells cs 157 (0,0))/\iG adK (Z++kb::owns (Ac ⟨vn,vc,va,vt,vr,vi⟩ ⟨rt,ux,uq,ul⟩ { s with x:=s.x++[v] } ca cq)) wc [cs] [dw v]/\KF kb w ⟨vn,vc,va,vt,vr,vi⟩ ⟨rt,.slice ax s.x.length cx,uq,ul⟩ wc ⟨vn,vc,va,vt,vr,vi⟩ ⟨rt,ux,uq,ul⟩)
  case first =>
   go_wp2_with (at_builtin;refine ahV _ rfl _ _ rfl w0.heap.size (.slice ax s.x.length cx) s.x W3.heap.size v rfl (OX.o.aB (S:=[]) ((aA.refl [] _).alloc _) (by simp)) rfl (by simp) (by omega) (by simp;omega) ?_;intro g2 aP w4 Vg MN am1 zx;have O4:=aj Vg;have G4:=aj MN;have R4:=aj ((K3.o.row.aB (S:=[]) ((aA.refl [] _).alloc _) (by simp)).grown G4.o (λr hr=>by have:=(HOB.o r hr).1;omega));have j7:=R4.o.c 7;have jz:=R4.o.fz 7;simp at j7;have HOR:=aj am1;clear Vg MN am1)
   go_meet;have K4:=K3.o.put ((aA.refl [] _).alloc _) 2 ⟨9,1,.slice ax s.x.length cx,sc s.x⟩ ⟨9,1,.slice (some ⟨g2,0,none⟩) (s.x.length+1) aP,sc (s.x++[v])⟩ (V':=⟨vn,vc,va,vt,vr,vi⟩) (U':=⟨rt,.slice (some ⟨g2,0,none⟩) (s.x.length+1) aP,uq,ul⟩) (s':={ s with x:=s.x++[v] }) (λca cq=>rfl) (λca cq=>rfl) rfl rfl G4.o O4.o rfl HOR.o 7 (.slice (some ⟨g2,0,none⟩) (s.x.length+1) aP) rfl;obtain⟨ca,cq,g4⟩:=K4.g;obtain⟨ca0,cq0,g0⟩:=HK.o.g;have RA:=(apO.o (Z++kb::owns (Ac ⟨vn,vc,va,vt,vr,vi⟩ ⟨rt,.slice ax s.x.length cx,uq,ul⟩ s ca0 cq0)) (λg hg=>by rcases a0b.1 hg with hg|hg;exact hZ g hg;exact g0.adO g hg)).aB (S:=[]) ((aA.refl [] _).alloc (Obj.cells #[.string (bs v)] 9)) (by simp);have RA2:=RA.turn (B:=Z++kb::owns (Ac ⟨vn,vc,va,vt,vr,vi⟩ ⟨rt,.slice (some ⟨g2,0,none⟩) (s.x.length+1) aP,uq,ul⟩ { s with x:=s.x++[v] } ca cq)) G4.o (λr hr=>Dc 2 (r:=⟨9,1,.slice ax s.x.length cx,sc s.x⟩) rfl hr) HOR.o (Db (rs:=Ac ⟨vn,vc,va,vt,vr,vi⟩ ⟨rt,.slice ax s.x.length cx,uq,ul⟩ s ca0 cq0) 2 (r:=⟨9,1,.slice ax s.x.length cx,sc s.x⟩) (r':=⟨9,1,.slice (some ⟨g2,0,none⟩) (s.x.length+1) aP,sc (s.x++[v])⟩) rfl rfl);have FB:aA [kb] w4 (w4.setCell ⟨kb,7,none⟩ (.slice (some ⟨g2,0,none⟩) (s.x.length+1) aP)):=(aA.refl [kb] _).setCell (p:=⟨kb,7,none⟩) (.inl (by simp)) _;refine⟨trivial,rfl,_,ca,cq,K4.row,g4,?_,RA2.aB FB (by simp),KF.put (s:=s) (s':={ s with x:=s.x++[v] }) (ca:=[]) (cq:=[]) (ca':=[]) (cq':=[]) (F13.o.alloc _) 2 (r:=⟨9,1,.slice ax s.x.length cx,sc s.x⟩) (r':=⟨9,1,.slice (some ⟨g2,0,none⟩) (s.x.length+1) aP,sc (s.x++[v])⟩) rfl rfl G4.o rfl HOR.o 7 _⟩;have h3:=HZ3.o;have e1:(W3.alloc (Obj.cells #[.string (bs v)] 9)).heap[w1.heap.size]?=some (.cells cs 157 (0,0)):=(((aA.refl [] W3).alloc _).block w1.heap.size (by omega) (by simp)).trans hh3;have e2:w4.heap[w1.heap.size]?=some (.cells cs 157 (0,0)):=(G4.o.block w1.heap.size (by simp;omega) (λe=>by have:=(HOB.o _ e.symm).2;omega)).trans e1;exact(FB.block w1.heap.size (a0d.1 e2).1 (by simp;omega)).trans e2
  case rest =>
   obtain⟨_,rfl,ux,ca,cq,hKR,hKG,hH,hRA,am2⟩:=hcut;have KFC:=aj am2;clear am2;have hOA:OW 157 259 w0.heap.size wc va (iO ca):=hKG.rw.o 3 ⟨157,259,va,iO ca⟩ rfl;have aq8:ca.length<=1000:=by rw[hKG.ai.1];exact hsa
   obtain⟨aa,De,heA⟩:=hOA.shape;rw[sZ]at heA;subst heA;have OA:=aj hOA;have jv:=aj (sZ ca);have HKR:=aj hKR;have HKG:=aj hKG;have HH:=aj hH;have HRA:=aj hRA;have hkc:=hKR.lt;have EK:=hKG.fr.size;have c2:=hKR.c 2;have z2:=hKR.fz 2;simp at c2;have ag:Value.ownBlock (.slice aa ca.length De)≠some kb:=λe=>by have:=(OA.o.lt e).1;omega
   have g2z:∀o:Obj,(wc.drew.alloc o).frozen? ⟨kb,2,none⟩=false:=λo=>((((aA.refl [] wc).drew).alloc o).frozen (p:=⟨kb,2,none⟩) hkc (by simp)).trans z2
   clear hOA hKR hKG hH hRA K3 k7 kz7 OX HOB;go_wp2_with fail
   refine wp_region_any (by kernel_rfl) ?_
   change wpAny _ _ _ _ _ _ _ (World.drew _)
   refine wpAny_take (i:=0) (v:=?v0) rfl (by kernel_rfl) (by kernel_rfl) (by kernel_rfl) (λ_ _ _ h=>h) (Or.inl ⟨by rfl,?h0⟩) ?_
   case h0=>intro w;go_simp;with_reducible rfl
   refine wpAny_take (i:=1) (v:=?v1) rfl (by kernel_rfl) (by kernel_rfl) (by kernel_rfl) (λ_ _ _ h=>h) (Or.inl ⟨by rfl,?h1⟩) ?_
   case h1=>intro w;go_simp;with_reducible rfl
   refine wpAny_take (i:=2) (v:=?v2) rfl (by kernel_rfl) (by kernel_rfl) (by kernel_rfl) (λ_ _ _ h=>h) (Or.inl ⟨by rfl,?h2⟩) ?_
   case h2=>intro w;go_simp;with_reducible rfl
   refine wpAny_take (i:=3) (v:=?v3) rfl (by kernel_rfl) (by kernel_rfl) (by kernel_rfl) (λ_ _ _ h=>h) (Or.inl ⟨by rfl,?h3⟩) ?_
   case h3=>intro w;go_simp;with_reducible rfl
   refine wpAny_take (i:=4) (v:=?v4) rfl (by kernel_rfl) (by kernel_rfl) (by kernel_rfl) (λ_ _ _ h=>h) (Or.inl ⟨by rfl,?h4⟩) ?_
   case h4=>intro w;go_simp;with_reducible rfl
   refine wpAny_ready (rs:=[5,6]) (by kernel_rfl) (by simp) ?_;refine AllReady.cons rfl (λK hK=>?_) (AllReady.cons rfl (λK hK=>?_) AllReady.nil)
   ·go_simp
    refine hK _ _ ?_;clear hK K;refine wpAny_ready (rs:=[6]) (by kernel_rfl) (by simp) ?_;refine AllReady.cons rfl (λK hK=>?_) AllReady.nil;refine GY _ (by rfl) _ (by rfl) w1.heap.size (by rfl) cs (pU HH.o Tj) ?_;refine hK _ _ ?_;clear hK K;refine wpAny_ready (rs:=[7]) (by kernel_rfl) (by simp) ?_;refine AllReady.cons rfl (λK hK=>?_) AllReady.nil;refine yj _ (by rfl) _ (by rfl) cs (by rfl) Tj.o ?_;refine hK _ _ ?_;clear hK K;refine wpAny_ready (rs:=[8]) (by kernel_rfl) (by simp) ?_;refine AllReady.cons rfl (λK hK=>?_) AllReady.nil
    (refine uo _ (by rfl) _ _ 41 157 _ 259 312 NV Tryz.underlying41 iC (by omega) (by rfl) w0.heap.size (.slice aa ca.length De) (iO ca) wc.heap.size cs (0,0) (by rfl) (OA.o.aB (S:=[]) (((aA.refl [] _).drew).alloc _) (by simp)) (by rfl) Tj.o (by exact bK _ _) Ri.o (by rw[jv.o];omega) (by rw[jv.o];omega) (by simp;omega) (wc.heap.size+1) (by simp) ?_;intro gg aP w4 bF aG aX zx;have c4:=(aG.cell_far ⟨kb,2,none⟩ (by simp;omega) (Ne.symm ag));have f4:=(aG.frozen_far ⟨kb,2,none⟩ (by simp;omega) (Ne.symm ag));have f5:=f4.trans (g2z _);rw[jv.o]at bF |-)
    refine hK _ _ ?_;clear hK K;refine wpAny_take (i:=9) (v:=?v9) rfl (by kernel_rfl) (by kernel_rfl) (by kernel_rfl) (λ_ _ _ h=>h) (Or.inl ⟨by rfl,?h9⟩) ?_
    case h9=>intro w;go_simp;try with_reducible rfl
    refine wpAny_take (i:=10) (v:=?v10) rfl (by kernel_rfl) (by kernel_rfl) (by kernel_rfl) (λ_ _ _ h=>h) (Or.inl ⟨by rfl,?h10⟩) ?_
    case h10=>intro w;go_simp;try with_reducible rfl
    refine wpAny_take (i:=11) (v:=?v11) rfl (by kernel_rfl) (by kernel_rfl) (by kernel_rfl) (λ_ _ _ h=>h) (Or.inl ⟨by rfl,?h11⟩) ?_
    case h11=>intro w;go_simp;try with_reducible rfl
    refine wpAny_ready (rs:=[12]) (by kernel_rfl) (by simp) ?_;refine AllReady.cons rfl (λK hK=>?_) AllReady.nil;go_simp
    refine hK _ _ ?_;clear hK K;refine wpAny_done (by kernel_rfl) ?_ _;have G5:=aj aG;have O5:=aj bF;have xS:Z_ (Value.ownBlock (.slice aa ca.length De)=some gg\/gg=(wc.drew.alloc (Obj.cells cs 157)).heap.size):=aX.imp id (λh=>by rw[h];simp);clear aG bF aX;go_wp2;go_ret2;have F3:aA [] wc (wc.drew.alloc (Obj.cells cs 157)):=((aA.refl [] wc).drew).alloc _;have O6:=O5.o;rw[y7]at O6;have g5:=(HKG.o.aB F3 (by simp)).grow 3 (r:=⟨157,259,.slice aa ca.length De,iO ca⟩) (r':=⟨157,259,.slice (some ⟨gg,0,none⟩) (ca.length+1) aP,iO (ca++[cs])⟩) rfl G5.o O6 rfl xS;have r5:=(HRA.o.aB F3 (by simp)).turn G5.o (λr hr=>Dc 3 (r:=⟨157,259,.slice aa ca.length De,iO ca⟩) rfl hr) xS.o (Db 3 (r:=⟨157,259,.slice aa ca.length De,iO ca⟩) (r':=⟨157,259,.slice (some ⟨gg,0,none⟩) (ca.length+1) aP,iO (ca++[cs])⟩) rfl rfl);have g6:KG Z w0 kb w4 (Ac ⟨vn,vc,.slice (some ⟨gg,0,none⟩) (ca.length+1) aP,vt,vr,vi⟩ ⟨rt,ux,uq,ul⟩ { s with x:=s.x++[v],a:=s.a++[dw v] } (ca++[cs]) cq) (ca++[cs]) (s.a++[dw v]) cq s.q:=⟨g5.fr,g5.lo,g5.rw,g5.ai.snoc (r5.2 0 cs (dw v) rfl rfl),g5.qi⟩;have R6:=((HKR.o.aB F3 (by simp)).grown G5.o (λr hr e=>ag (by rw[hr,e]))).set (V':=⟨vn,vc,.slice (some ⟨gg,0,none⟩) (ca.length+1) aP,vt,vr,vi⟩) (U':=⟨rt,ux,uq,ul⟩) 2 (.slice (some ⟨gg,0,none⟩) (ca.length+1) aP) rfl;exact .inr (.inl ⟨HFE,XK,rfl,_,_,⟨R6,ca++[cs],cq,g6.aB (S:=[kb]) ((aA.refl [kb] _).setCell (p:=⟨kb,2,none⟩) (.inl (by simp)) _) (by simp)⟩,⟨rfl,rfl,rfl,rfl⟩,KFC.o.trans (KF.put (s:=s) (s':=s) (ca:=ca) (cq:=cq) (ca':=ca++[cs]) (cq':=cq) F3 3 (r:=⟨157,259,.slice aa ca.length De,iO ca⟩) (r':=⟨157,259,.slice (some ⟨gg,0,none⟩) (ca.length+1) aP,iO (ca++[cs])⟩) rfl rfl G5.o rfl xS.o 2 _)⟩)
   refine GY _ (by rfl) _ (by rfl) w1.heap.size (by rfl) cs (pU HH.o Tj) ?_;refine hK _ _ ?_;clear hK K;refine wpAny_ready (rs:=[5,7]) (by kernel_rfl) (by simp) ?_;refine AllReady.cons rfl (λK hK=>?_) (AllReady.cons rfl (λK hK=>?_) AllReady.nil)
   ·go_simp
    refine hK _ _ ?_;clear hK K;refine wpAny_ready (rs:=[7]) (by kernel_rfl) (by simp) ?_;refine AllReady.cons rfl (λK hK=>?_) AllReady.nil;refine yj _ (by rfl) _ (by rfl) cs (by rfl) Tj.o ?_;refine hK _ _ ?_;clear hK K;refine wpAny_ready (rs:=[8]) (by kernel_rfl) (by simp) ?_;refine AllReady.cons rfl (λK hK=>?_) AllReady.nil
    (refine uo _ (by rfl) _ _ 41 157 _ 259 312 NV Tryz.underlying41 iC (by omega) (by rfl) w0.heap.size (.slice aa ca.length De) (iO ca) wc.heap.size cs (0,0) (by rfl) (OA.o.aB (S:=[]) (((aA.refl [] _).drew).alloc _) (by simp)) (by rfl) Tj.o (by exact bK _ _) Ri.o (by rw[jv.o];omega) (by rw[jv.o];omega) (by simp;omega) (wc.heap.size+1) (by simp) ?_;intro gg aP w4 bF aG aX zx;have c4:=(aG.cell_far ⟨kb,2,none⟩ (by simp;omega) (Ne.symm ag));have f4:=(aG.frozen_far ⟨kb,2,none⟩ (by simp;omega) (Ne.symm ag));have f5:=f4.trans (g2z _);rw[jv.o]at bF |-)
    refine hK _ _ ?_;clear hK K;refine wpAny_take (i:=9) (v:=?v9) rfl (by kernel_rfl) (by kernel_rfl) (by kernel_rfl) (λ_ _ _ h=>h) (Or.inl ⟨by rfl,?h9⟩) ?_
    case h9=>intro w;go_simp;try with_reducible rfl
    refine wpAny_take (i:=10) (v:=?v10) rfl (by kernel_rfl) (by kernel_rfl) (by kernel_rfl) (λ_ _ _ h=>h) (Or.inl ⟨by rfl,?h10⟩) ?_
    case h10=>intro w;go_simp;try with_reducible rfl
    refine wpAny_take (i:=11) (v:=?v11) rfl (by kernel_rfl) (by kernel_rfl) (by kernel_rfl) (λ_ _ _ h=>h) (Or.inl ⟨by rfl,?h11⟩) ?_
    case h11=>intro w;go_simp;try with_reducible rfl
    refine wpAny_ready (rs:=[12]) (by kernel_rfl) (by simp) ?_;refine AllReady.cons rfl (λK hK=>?_) AllReady.nil;go_simp
    refine hK _ _ ?_;clear hK K;refine wpAny_done (by kernel_rfl) ?_ _;have G5:=aj aG;have O5:=aj bF;have xS:Z_ (Value.ownBlock (.slice aa ca.length De)=some gg\/gg=(wc.drew.alloc (Obj.cells cs 157)).heap.size):=aX.imp id (λh=>by rw[h];simp);clear aG bF aX;go_wp2;go_ret2;have F3:aA [] wc (wc.drew.alloc (Obj.cells cs 157)):=((aA.refl [] wc).drew).alloc _;have O6:=O5.o;rw[y7]at O6;have g5:=(HKG.o.aB F3 (by simp)).grow 3 (r:=⟨157,259,.slice aa ca.length De,iO ca⟩) (r':=⟨157,259,.slice (some ⟨gg,0,none⟩) (ca.length+1) aP,iO (ca++[cs])⟩) rfl G5.o O6 rfl xS;have r5:=(HRA.o.aB F3 (by simp)).turn G5.o (λr hr=>Dc 3 (r:=⟨157,259,.slice aa ca.length De,iO ca⟩) rfl hr) xS.o (Db 3 (r:=⟨157,259,.slice aa ca.length De,iO ca⟩) (r':=⟨157,259,.slice (some ⟨gg,0,none⟩) (ca.length+1) aP,iO (ca++[cs])⟩) rfl rfl);have g6:KG Z w0 kb w4 (Ac ⟨vn,vc,.slice (some ⟨gg,0,none⟩) (ca.length+1) aP,vt,vr,vi⟩ ⟨rt,ux,uq,ul⟩ { s with x:=s.x++[v],a:=s.a++[dw v] } (ca++[cs]) cq) (ca++[cs]) (s.a++[dw v]) cq s.q:=⟨g5.fr,g5.lo,g5.rw,g5.ai.snoc (r5.2 0 cs (dw v) rfl rfl),g5.qi⟩;have R6:=((HKR.o.aB F3 (by simp)).grown G5.o (λr hr e=>ag (by rw[hr,e]))).set (V':=⟨vn,vc,.slice (some ⟨gg,0,none⟩) (ca.length+1) aP,vt,vr,vi⟩) (U':=⟨rt,ux,uq,ul⟩) 2 (.slice (some ⟨gg,0,none⟩) (ca.length+1) aP) rfl;exact .inr (.inl ⟨HFE,XK,rfl,_,_,⟨R6,ca++[cs],cq,g6.aB (S:=[kb]) ((aA.refl [kb] _).setCell (p:=⟨kb,2,none⟩) (.inl (by simp)) _) (by simp)⟩,⟨rfl,rfl,rfl,rfl⟩,KFC.o.trans (KF.put (s:=s) (s':=s) (ca:=ca) (cq:=cq) (ca':=ca++[cs]) (cq':=cq) F3 3 (r:=⟨157,259,.slice aa ca.length De,iO ca⟩) (r':=⟨157,259,.slice (some ⟨gg,0,none⟩) (ca.length+1) aP,iO (ca++[cs])⟩) rfl rfl G5.o rfl xS.o 2 _)⟩)
   refine yj _ (by rfl) _ (by rfl) cs (by rfl) Tj.o ?_;refine hK _ _ ?_;clear hK K;refine wpAny_ready (rs:=[5]) (by kernel_rfl) (by simp) ?_;refine AllReady.cons rfl (λK hK=>?_) AllReady.nil;have c2a:(wc.drew.alloc (Obj.cells cs 157)).cell? ⟨kb,2,none⟩=some (.slice aa ca.length De):=((((aA.refl [] wc).drew).alloc _).cell (p:=⟨kb,2,none⟩) hkc (by simp)).trans c2;go_simp
   refine hK _ _ ?_;clear hK K;refine wpAny_ready (rs:=[8]) (by kernel_rfl) (by simp) ?_;refine AllReady.cons rfl (λK hK=>?_) AllReady.nil
   (refine uo _ (by rfl) _ _ 41 157 _ 259 312 NV Tryz.underlying41 iC (by omega) (by rfl) w0.heap.size (.slice aa ca.length De) (iO ca) wc.heap.size cs (0,0) (by rfl) (OA.o.aB (S:=[]) (((aA.refl [] _).drew).alloc _) (by simp)) (by rfl) Tj.o (by exact bK _ _) Ri.o (by rw[jv.o];omega) (by rw[jv.o];omega) (by simp;omega) (wc.heap.size+1) (by simp) ?_;intro gg aP w4 bF aG aX zx;have c4:=(aG.cell_far ⟨kb,2,none⟩ (by simp;omega) (Ne.symm ag));have f4:=(aG.frozen_far ⟨kb,2,none⟩ (by simp;omega) (Ne.symm ag));have f5:=f4.trans (g2z _);rw[jv.o]at bF |-)
   refine hK _ _ ?_;clear hK K;refine wpAny_take (i:=9) (v:=?v9) rfl (by kernel_rfl) (by kernel_rfl) (by kernel_rfl) (λ_ _ _ h=>h) (Or.inl ⟨by rfl,?h9⟩) ?_
   case h9=>intro w;go_simp;try with_reducible rfl
   refine wpAny_take (i:=10) (v:=?v10) rfl (by kernel_rfl) (by kernel_rfl) (by kernel_rfl) (λ_ _ _ h=>h) (Or.inl ⟨by rfl,?h10⟩) ?_
   case h10=>intro w;go_simp;try with_reducible rfl
   refine wpAny_take (i:=11) (v:=?v11) rfl (by kernel_rfl) (by kernel_rfl) (by kernel_rfl) (λ_ _ _ h=>h) (Or.inl ⟨by rfl,?h11⟩) ?_
   case h11=>intro w;go_simp;try with_reducible rfl
   refine wpAny_ready (rs:=[12]) (by kernel_rfl) (by simp) ?_;refine AllReady.cons rfl (λK hK=>?_) AllReady.nil;go_simp
   refine hK _ _ ?_;clear hK K;refine wpAny_done (by kernel_rfl) ?_ _;have G5:=aj aG;have O5:=aj bF;have xS:Z_ (Value.ownBlock (.slice aa ca.length De)=some gg\/gg=(wc.drew.alloc (Obj.cells cs 157)).heap.size):=aX.imp id (λh=>by rw[h];simp);clear aG bF aX;go_wp2;go_ret2;have F3:aA [] wc (wc.drew.alloc (Obj.cells cs 157)):=((aA.refl [] wc).drew).alloc _;have O6:=O5.o;rw[y7]at O6;have g5:=(HKG.o.aB F3 (by simp)).grow 3 (r:=⟨157,259,.slice aa ca.length De,iO ca⟩) (r':=⟨157,259,.slice (some ⟨gg,0,none⟩) (ca.length+1) aP,iO (ca++[cs])⟩) rfl G5.o O6 rfl xS;have r5:=(HRA.o.aB F3 (by simp)).turn G5.o (λr hr=>Dc 3 (r:=⟨157,259,.slice aa ca.length De,iO ca⟩) rfl hr) xS.o (Db 3 (r:=⟨157,259,.slice aa ca.length De,iO ca⟩) (r':=⟨157,259,.slice (some ⟨gg,0,none⟩) (ca.length+1) aP,iO (ca++[cs])⟩) rfl rfl);have g6:KG Z w0 kb w4 (Ac ⟨vn,vc,.slice (some ⟨gg,0,none⟩) (ca.length+1) aP,vt,vr,vi⟩ ⟨rt,ux,uq,ul⟩ { s with x:=s.x++[v],a:=s.a++[dw v] } (ca++[cs]) cq) (ca++[cs]) (s.a++[dw v]) cq s.q:=⟨g5.fr,g5.lo,g5.rw,g5.ai.snoc (r5.2 0 cs (dw v) rfl rfl),g5.qi⟩;have R6:=((HKR.o.aB F3 (by simp)).grown G5.o (λr hr e=>ag (by rw[hr,e]))).set (V':=⟨vn,vc,.slice (some ⟨gg,0,none⟩) (ca.length+1) aP,vt,vr,vi⟩) (U':=⟨rt,ux,uq,ul⟩) 2 (.slice (some ⟨gg,0,none⟩) (ca.length+1) aP) rfl;exact .inr (.inl ⟨HFE,XK,rfl,_,_,⟨R6,ca++[cs],cq,g6.aB (S:=[kb]) ((aA.refl [kb] _).setCell (p:=⟨kb,2,none⟩) (.inl (by simp)) _) (by simp)⟩,⟨rfl,rfl,rfl,rfl⟩,KFC.o.trans (KF.put (s:=s) (s':=s) (ca:=ca) (cq:=cq) (ca':=ca++[cs]) (cq':=cq) F3 3 (r:=⟨157,259,.slice aa ca.length De,iO ca⟩) (r':=⟨157,259,.slice (some ⟨gg,0,none⟩) (ca.length+1) aP,iO (ca++[cs])⟩) rfl rfl G5.o rfl xS.o 2 _)⟩)
 have XK:=aj Tc;have bL:((re v:Int) != 0)=true:=by rw[a1O];omega
 have hne':decide ((re v:Int)=0)=false:=a0f (by omega);clear iN rC fJ agv;go_wp2;go_ret2;exact .inr (.inr ⟨HFE,XK,rfl,K3.o.fr,KF.of F13⟩)
theorem KS.xh {U:V4}(h:KS Z w0 kb w V U s):∀g∈kb::Da V U,g<w.heap.size:=by
 obtain⟨ca,cq,g⟩:=h.g;exact g.adO
theorem KF.aW {wa wb:World} {U U1:V4}(h:KF kb wa V U wb V1 U1) {o:Obj}(hn:∀g∈kb::Da V U,g<n)(hb:n<=b)(ho:wa.heap[b]?=some o):wb.heap[b]?=some o :=
 (h.f.block b (a0d.1 ho).1 (λhm=>by have:=hn b hm;omega)).trans ho
theorem aan(h:iZ L x=L.length):tq L x=L++[x]:=by unfold tq;rw[a0j h]
theorem aao(h:¬ iZ L x=L.length):tq L x=L:=by unfold tq;rw[a0g h]
def TOQ(Z:LN)(re:LB->Nat)(dw:LB->lS)(w0:World)(kb:Nat)(w:World)(V:V6)(U:V4)(s:CS)(m:CM)(e:Ending)(w':World):Prop :=
 (pZ re dw s m=none/\re m.2.2≠0/\aA [kb] w0 w'/\∃t,e=.returned (.tuple #[.agg (lT t),.int .i64 (re m.2.2:Nat)])) \/
 (∃t s1 V' U',pZ re dw s m=some (t,s1)/\e=.returned (.tuple #[.agg (lT t),.int .i64 0])/\KS Z w0 kb w' V' U' s1/\KV V V' U U'/\KF kb w V U w' V' U')
theorem aoc:(Tryz.prog.info? 94).map (·.size)=some 3:=by kernel_rfl
theorem uK {cs:Array Value}(h:w.heap[g]?=some (.cells cs 94 (0,0)))(hs:cs.size=3):(loadVar 94 ⟨g,0,none⟩).run Tryz.prog w=.ok (.agg cs) w :=
 run_loadVar_row w g 94 94 cs (0,0) _ h Tryz.underlying94 rfl (by rw[hs];exact aoc)
theorem uL {t:TypeId} {o0 o1 o2:Value}(v0 v1 v2:Value)(h:w.heap[g]?=some (.cells #[o0,o1,o2] t (0,0))):(((w.setCell ⟨g,0,none⟩ v0).setCell ⟨g,1,none⟩ v1).setCell ⟨g,2,none⟩ v2).heap[g]?=some (.cells #[v0,v1,v2] t (0,0)):=by
 simp[World.setCell,a0t,h]
theorem Ql(w:World)(g:Nat)(v0 v1 v2:Value):aA [g] w (((w.setCell ⟨g,0,none⟩ v0).setCell ⟨g,1,none⟩ v1).setCell ⟨g,2,none⟩ v2) :=
 (((aA.refl [g] _).setCell (p:=⟨g,0,none⟩) (.inl (by simp)) _).setCell (p:=⟨g,1,none⟩) (.inl (by simp)) _).setCell (p:=⟨g,2,none⟩) (.inl (by simp)) _
theorem adP(Z:LN)(re:LB->Nat)(dw:LB->lS)(w0:World)(kb:Nat)(w:World)(V:V6)(U:V4)(s:CS)(h:KS Z w0 kb w V U s)(hZ:∀g∈Z,g<w.heap.size)(nm:LB)(kd:Nat)(vl:LB)(hv:(kd=2\/kd=3)->RCP re dw vl)(hkd:kd<=3)(hbn:s.n.length<=1000)(Je:s.c.length<=1000)(Jn:s.x.length<=1000)(hba:s.a.length<=1000) :
 Calls Tryz.prog 27 #[.pointer (some ⟨kb,0,none⟩),.agg #[.string (bs nm),.int .i64 (kd:Nat),.string (bs vl)]] w (TOQ Z re dw w0 kb w V U s (nm,kd,vl)):=by
 obtain⟨vn,vc,va,vt,vr,vi⟩:=V;have hO:OW 9 1 w0.heap.size w vn (sc s.n):=h.own 0 (r:=⟨9,1,vn,sc s.n⟩) (λca cq=>rfl);obtain⟨an,cn,he⟩:=hO.shape;rw[jq]at he;subst he;have HOL:=aj h.xh;have HK:=aj h;have l7:=h.lo;have LH:=h.row.lt;have hfl:=TI s.n nm;have c0:=h.row.c 0;simp at c0;have N1:Z_ (∀W,aA [] w W->Calls Tryz.prog 44 #[.slice an s.n.length cn,.string (bs nm)] W λe w'=>e=.returned (.int .i64 (iZ s.n nm:Nat))/\w'=W):=λW hW=>(Qk W _ [] s.n nm ((hO.rw (by simp)).aB hW (by simp)) (by omega)).mono (λe w' h=>⟨h.1,h.2.symm⟩)
 have FW:Z_ (∀n,aA [] w (((w.alloc (Obj.cells #[.string (bs nm),.int .i64 (kd:Nat),.string (bs vl)] 92)).alloc (Obj.cells #[.int .i64 0,.int .i64 0,.int .i64 0] 94)).drewN n)):=λn=>(((aA.refl [] w).alloc _).alloc _).drewN n
 clear h hO;go_enter Tryz.func27,Tryz.ntmps27
 go_upto_region 1 with fail
 go_cut [6] (λv6 wc=>True/\v6=.int .i64 (iZ s.n nm:Nat)/\aA [] w wc/\wc.heap[w.heap.size]?=some (.cells #[.string (bs nm),.int .i64 (kd:Nat),.string (bs vl)] 92 (0,0))/\wc.heap[w.heap.size+1]?=some (.cells #[.int .i64 0,.int .i64 0,.int .i64 0] 94 (0,0)))
 case first =>
  go_quiet ((go_at_call 44;exact Calls.quiet_of_same (N1.o _ (FW.o _))))
  go_wp2;go_meet;exact⟨trivial,rfl,FW.o _,(((aA.refl [] _).alloc _).block w.heap.size (by simp) (by simp)).trans (bK _ _),NZ _ _ _⟩
 case rest =>
  obtain⟨_,rfl,hFa,hm,ht⟩:=hcut;obtain⟨wa,hwa⟩:∃wa,wa=wc:=⟨_,rfl⟩;subst hwa;have KA:Z_ (KS ((w.heap.size+1)::w.heap.size::Z) w0 kb wa ⟨.slice an s.n.length cn,vc,va,vt,vr,vi⟩ U s):=((HK.o.agu (a0a _)).agu (Nat.le_succ _)).aB hFa;have HM:=aj hm;have HT:=aj ht;have HFA:=aj hFa;have KH:=hFa.size;have Uy:w.heap.size+1<wa.heap.size:=(a0d.1 ht).1;have m0:wa.cell? ⟨w.heap.size,0,none⟩=some (.string (bs nm)):=by simp[World.cell?,hm]
  have d0:=hFa.at (p:=⟨kb,0,none⟩) LH c0;have z0:=KA.o.row.fz 0;have hka:=KA.o.row.lt;have OA:=aj (KA.o.own 0 (r:=⟨9,1,.slice an s.n.length cn,sc s.n⟩) (λca cq=>rfl));have jv:Z_ ((sc s.n).length=s.n.length):=jq s.n;have Ad:Z_ (∀r,Value.ownBlock (.slice an s.n.length cn)=some r->r≠kb):=λr hr=>by have:=(OA.o.lt hr).1;omega
  have iA:=l7.2;clear hFa hm ht N1 FW c0;go_upto_if 25 with fail
  go_cut [6] (λv6 wc=>True/\v6=.int .i64 (iZ s.n nm:Nat)/\∃vn1,KS ((w.heap.size+1)::w.heap.size::Z) w0 kb wc ⟨vn1,vc,va,vt,vr,vi⟩ U { s with n:=tq s.n nm }/\KF kb wa ⟨.slice an s.n.length cn,vc,va,vt,vr,vi⟩ U wc ⟨vn1,vc,va,vt,vr,vi⟩ U)
  case first =>
   by_cases Gv:iZ s.n nm=s.n.length
   ·have HAX:=aj (aan Gv)
    have mV:((iZ s.n nm:Int)==(s.n.length:Int))=true:=by rw[Gv];simp
    have HFE:=aj Gv;clear hfl;generalize iZ s.n nm=fx at *;subst Gv;go_wp2_with fail
    go_region_law ((refine uo _ (by rfl) _ _ 35 9 _ 1 16 uS Tryz.underlying35 (by rfl) (by omega) (by rfl) w0.heap.size (.slice an s.n.length cn) (sc s.n) wa.heap.size #[.string (bs nm)] (0,0) (by rfl) (OA.o.aB (S:=[]) (((aA.refl [] _).alloc _).drew) (by simp)) (by rfl) (by rfl) (by exact bK _ _) (by simp[Value.oneCell']) (by rw[jv.o];omega) (by rw[jv.o];omega) (by simp;omega) (wa.heap.size+1) (by simp) ?_;intro gg aP w4 bF aG aX zx;rw[jv.o]at bF |-;have R4:=aj ((KA.o.row.aB (S:=[]) (((aA.refl [] _).alloc _).drew) (by simp)).grown aG Ad);have k0:=R4.o.c 0;have y0:=R4.o.fz 0;simp at k0))
    all_goals
     have O4:OW 9 1 w0.heap.size w4 (.slice (some ⟨gg,0,none⟩) (s.n.length+1) aP) (sc (s.n++[nm])):=by rw[<-XF];exact bF
     have K5:=aj (KA.o.put (((aA.refl [] _).alloc _).drew) 0 ⟨9,1,.slice an s.n.length cn,sc s.n⟩ ⟨9,1,.slice (some ⟨gg,0,none⟩) (s.n.length+1) aP,sc (s.n++[nm])⟩ (V':=⟨.slice (some ⟨gg,0,none⟩) (s.n.length+1) aP,vc,va,vt,vr,vi⟩) (U':=U) (s':={ s with n:=s.n++[nm] }) (λca cq=>rfl) (λca cq=>rfl) rfl rfl aG O4 rfl (by simpa using aX) 0 (.slice (some ⟨gg,0,none⟩) (s.n.length+1) aP) rfl);have KF5:Z_ (KF kb wa ⟨.slice an s.n.length cn,vc,va,vt,vr,vi⟩ U (w4.setCell ⟨kb,0,none⟩ (.slice (some ⟨gg,0,none⟩) (s.n.length+1) aP)) ⟨.slice (some ⟨gg,0,none⟩) (s.n.length+1) aP,vc,va,vt,vr,vi⟩ U):=KF.put (s:=s) (s':={ s with n:=s.n++[nm] }) (ca:=[]) (cq:=[]) (ca':=[]) (cq':=[]) (((aA.refl [] _).alloc _).drew) 0 (r:=⟨9,1,.slice an s.n.length cn,sc s.n⟩) (r':=⟨9,1,.slice (some ⟨gg,0,none⟩) (s.n.length+1) aP,sc (s.n++[nm])⟩) rfl rfl aG rfl (by simpa using aX) 0 _;clear aG bF aX k0 y0 R4 O4;go_wp2;go_meet;exact⟨trivial,rfl,_,by rw[HAX.o];exact K5,KF5⟩
   have HAX:=aj (aao Gv);have mV:((iZ s.n nm:Int)==(s.n.length:Int))=false:=by rw[a0k];omega
   have rD:decide ((iZ s.n nm:Int)=(s.n.length:Int))=false:=a0f (by omega);generalize iZ s.n nm=fx at *;go_wp2;go_meet;exact⟨trivial,rfl,_,by rw[HAX.o];exact KA,KF.refl _ _ _ _⟩
  case rest =>
   obtain⟨_,rfl,vn1,hKB,agw⟩:=hcut;obtain⟨wb,Gm⟩:∃wb,wb=wc:=⟨_,rfl⟩;subst Gm;have KB:=aj hKB;have KFB:=aj agw;have hmb:=agw.aW HOL.o (a0a _) HM;have m1:wb.cell? ⟨w.heap.size,1,none⟩=some (.int .i64 (kd:Nat)):=by simp[World.cell?,hmb]
   have m2:wb.cell? ⟨w.heap.size,2,none⟩=some (.string (bs vl)):=by simp[World.cell?,hmb]
   have Sv:=agw.f.size;have hkb:=hKB.row.lt;have HZ2:Z_ (∀g∈(w.heap.size+1)::w.heap.size::Z,g<wb.heap.size):=λg hg=>by
    simp at hg;rcases hg with rfl|rfl|hg
    ·omega
    ·omega
    have:=hZ g hg;omega
   have aaq:Z_ (∀(w3:World) (V3:V6) (U3:V4) (s3:CS) (a b c:Value),KS ((w.heap.size+1)::w.heap.size::Z) w0 kb w3 V3 U3 s3->KF kb wb ⟨vn1,vc,va,vt,vr,vi⟩ U w3 V3 U3->KS Z w0 kb (((w3.setCell ⟨w.heap.size+1,0,none⟩ a).setCell ⟨w.heap.size+1,1,none⟩ b).setCell ⟨w.heap.size+1,2,none⟩ c) V3 U3 s3/\KF kb w ⟨.slice an s.n.length cn,vc,va,vt,vr,vi⟩ U (((w3.setCell ⟨w.heap.size+1,0,none⟩ a).setCell ⟨w.heap.size+1,1,none⟩ b).setCell ⟨w.heap.size+1,2,none⟩ c) V3 U3):=by
    intro w3 V3 U3 s3 a b c hk hf;have fJ:=KFB.o.trans hf;have FS:=Ql w3 (w.heap.size+1) a b c;have h1:=hk.off FS (by simp) (by simp;omega) (by
     intro g hg hm;simp at hg;subst hg;rcases fJ.o _ hm with h2|h2
     ·have:=HOL.o (w.heap.size+1) (by simp[h2]);omega
     omega)
    have K:=(KF.of (kb:=kb) (V:=⟨.slice an s.n.length cn,vc,va,vt,vr,vi⟩) (U:=U) HFA).trans fJ;exact⟨h1.abD.abD,K.f.over FS (by simp),K.o⟩
   have Ia:Z_ (∀(w3:World) (V3:V6) (U3:V4),KF kb wb ⟨vn1,vc,va,vt,vr,vi⟩ U w3 V3 U3->w3.heap[w.heap.size+1]?=some (.cells #[.int .i64 0,.int .i64 0,.int .i64 0] 94 (0,0))):=λw3 V3 U3 hf=>(KFB.o.trans hf).aW HOL.o (Nat.le_succ _) HT
   clear hKB agw hmb m0 d0 z0 OA jv Ad
   by_cases hk:kd=2\/kd=3
   ·have N2:=aj (Em ((w.heap.size+1)::w.heap.size::Z) re dw w0 kb wb ⟨vn1,vc,va,vt,vr,vi⟩ U { s with n:=tq s.n nm } KB.o HZ2.o vl (hv hk) Jn hba)
    have JC:Z_ (pZ re dw s (nm,kd,vl)=if iZ s.x vl<s.x.length then some (⟨iZ s.n nm,1,iZ s.x vl⟩,{ s with n:=tq s.n nm }) else if re vl=0 then some (⟨iZ s.n nm,1,iZ s.x vl⟩,{ s with n:=tq s.n nm,x:=s.x++[vl],a:=s.a++[dw vl] }) else none):=by
     show _=_;unfold pZ;rw[a0j hk]
    have hfx:=TI s.x vl;generalize iZ s.n nm=fn at *;rcases hk with rfl|rfl
    ·go_wp2_with fail
     refine(N2.o).mono ?_;clear N2;rintro e w3 hN;rcases hN with⟨h1,rfl,XL,tC⟩|⟨h1,h2,rfl,V3,U3,XL,adQ,tC⟩|⟨h1,h2,rfl,Df,tC⟩
     ·have hE:=aaq.o w3 _ _ _ (.int .i64 (fn:Nat)) (.int .i64 1) (.int .i64 (iZ s.x vl:Nat)) XL tC
      have iJ:=Ia.o w3 _ _ tC;have HE:=aj hE;have LU:=aj iJ;have HP:Z_ (pZ re dw s (nm,2,vl)=some (⟨fn,1,iZ s.x vl⟩,{ s with n:=tq s.n nm })):=by
       show _=_;rw[JC.o,a0j h1]
      have t0:w3.cell? ⟨w.heap.size+1,0,none⟩=some (.int .i64 0):=by simp[World.cell?,iJ]
      have t1:w3.cell? ⟨w.heap.size+1,1,none⟩=some (.int .i64 0):=by simp[World.cell?,iJ]
      have t2:w3.cell? ⟨w.heap.size+1,2,none⟩=some (.int .i64 0):=by simp[World.cell?,iJ]
      have tz:∀o,w3.frozen? ⟨w.heap.size+1,o,none⟩=false:=λo=>by simp[World.frozen?,iJ]
      clear hE iJ h1 XL tC JC;generalize iZ s.x vl=fv at *;go_wp2_with fail
      refine bodyPost_ret (bH rfl _ _ (w.heap.size+1) (lT ⟨fn,1,fv⟩) rfl (uK (uL _ _ _ LU) rfl)) rfl ?_;exact .inr ⟨_,_,_,_,HP,rfl,HE.o.1,KV.refl _ _,HE.o.2⟩
     ·have hE:=aaq.o w3 _ _ _ (.int .i64 (fn:Nat)) (.int .i64 1) (.int .i64 (s.x.length:Nat)) XL tC
      have iJ:=Ia.o w3 _ _ tC;have HE:=aj hE;have LU:=aj iJ;have HP:Z_ (pZ re dw s (nm,2,vl)=some (⟨fn,1,s.x.length⟩,{ s with n:=tq s.n nm,x:=s.x++[vl],a:=s.a++[dw vl] })):=by
       show _=_;rw[JC.o,a0g (by simp only at h1;omega),a0j h2];simp only at h1;rw[h1]
      have Dh:=aj adQ;have t0:w3.cell? ⟨w.heap.size+1,0,none⟩=some (.int .i64 0):=by simp[World.cell?,iJ]
      have t1:w3.cell? ⟨w.heap.size+1,1,none⟩=some (.int .i64 0):=by simp[World.cell?,iJ]
      have t2:w3.cell? ⟨w.heap.size+1,2,none⟩=some (.int .i64 0):=by simp[World.cell?,iJ]
      have tz:∀o,w3.frozen? ⟨w.heap.size+1,o,none⟩=false:=λo=>by simp[World.frozen?,iJ]
      clear hE iJ h1 h2 XL adQ tC JC;go_wp2_with fail
      refine bodyPost_ret (bH rfl _ _ (w.heap.size+1) (lT ⟨fn,1,s.x.length⟩) rfl (uK (uL _ _ _ LU) rfl)) rfl ?_;exact .inr ⟨_,_,_,_,HP,rfl,HE.o.1,⟨Dh.o.1,Dh.o.2.1,Dh.o.2.2.1,Dh.o.2.2.2⟩,HE.o.2⟩
     have iJ:=Ia.o w3 _ _ tC;have LU:=aj iJ;have HP:Z_ (pZ re dw s (nm,2,vl)=none):=by
      show _=_;rw[JC.o,a0g (by simp only at h1;omega),a0g h2]
     have XK:=aj h2;have F3:=aj Df;have t0:w3.cell? ⟨w.heap.size+1,0,none⟩=some (.int .i64 0):=by simp[World.cell?,iJ]
     have t1:w3.cell? ⟨w.heap.size+1,1,none⟩=some (.int .i64 0):=by simp[World.cell?,iJ]
     have t2:w3.cell? ⟨w.heap.size+1,2,none⟩=some (.int .i64 0):=by simp[World.cell?,iJ]
     have tz:∀o,w3.frozen? ⟨w.heap.size+1,o,none⟩=false:=λo=>by simp[World.frozen?,iJ]
     clear iJ h1 h2 Df tC JC;go_wp2_with fail
     refine bodyPost_ret (bH rfl _ _ (w.heap.size+1) (lT ⟨fn,1,0⟩) rfl (uK (uL _ _ _ LU) rfl)) rfl ?_;exact .inl ⟨HP,XK,F3.o.over (Ql _ _ _ _ _) (by simp;omega),_,rfl⟩
    go_wp2_with fail
    refine(N2.o).mono ?_;clear N2;rintro e w3 hN;rcases hN with⟨h1,rfl,XL,tC⟩|⟨h1,h2,rfl,V3,U3,XL,adQ,tC⟩|⟨h1,h2,rfl,Df,tC⟩
    ·have hE:=aaq.o w3 _ _ _ (.int .i64 (fn:Nat)) (.int .i64 1) (.int .i64 (iZ s.x vl:Nat)) XL tC
     have iJ:=Ia.o w3 _ _ tC;have HE:=aj hE;have LU:=aj iJ;have HP:Z_ (pZ re dw s (nm,3,vl)=some (⟨fn,1,iZ s.x vl⟩,{ s with n:=tq s.n nm })):=by
      show _=_;rw[JC.o,a0j h1]
     have t0:w3.cell? ⟨w.heap.size+1,0,none⟩=some (.int .i64 0):=by simp[World.cell?,iJ]
     have t1:w3.cell? ⟨w.heap.size+1,1,none⟩=some (.int .i64 0):=by simp[World.cell?,iJ]
     have t2:w3.cell? ⟨w.heap.size+1,2,none⟩=some (.int .i64 0):=by simp[World.cell?,iJ]
     have tz:∀o,w3.frozen? ⟨w.heap.size+1,o,none⟩=false:=λo=>by simp[World.frozen?,iJ]
     clear hE iJ h1 XL tC JC;generalize iZ s.x vl=fv at *;go_wp2_with fail
     refine bodyPost_ret (bH rfl _ _ (w.heap.size+1) (lT ⟨fn,1,fv⟩) rfl (uK (uL _ _ _ LU) rfl)) rfl ?_;exact .inr ⟨_,_,_,_,HP,rfl,HE.o.1,KV.refl _ _,HE.o.2⟩
    ·have hE:=aaq.o w3 _ _ _ (.int .i64 (fn:Nat)) (.int .i64 1) (.int .i64 (s.x.length:Nat)) XL tC
     have iJ:=Ia.o w3 _ _ tC;have HE:=aj hE;have LU:=aj iJ;have HP:Z_ (pZ re dw s (nm,3,vl)=some (⟨fn,1,s.x.length⟩,{ s with n:=tq s.n nm,x:=s.x++[vl],a:=s.a++[dw vl] })):=by
      show _=_;rw[JC.o,a0g (by simp only at h1;omega),a0j h2];simp only at h1;rw[h1]
     have Dh:=aj adQ;have t0:w3.cell? ⟨w.heap.size+1,0,none⟩=some (.int .i64 0):=by simp[World.cell?,iJ]
     have t1:w3.cell? ⟨w.heap.size+1,1,none⟩=some (.int .i64 0):=by simp[World.cell?,iJ]
     have t2:w3.cell? ⟨w.heap.size+1,2,none⟩=some (.int .i64 0):=by simp[World.cell?,iJ]
     have tz:∀o,w3.frozen? ⟨w.heap.size+1,o,none⟩=false:=λo=>by simp[World.frozen?,iJ]
     clear hE iJ h1 h2 XL adQ tC JC;go_wp2_with fail
     refine bodyPost_ret (bH rfl _ _ (w.heap.size+1) (lT ⟨fn,1,s.x.length⟩) rfl (uK (uL _ _ _ LU) rfl)) rfl ?_;exact .inr ⟨_,_,_,_,HP,rfl,HE.o.1,⟨Dh.o.1,Dh.o.2.1,Dh.o.2.2.1,Dh.o.2.2.2⟩,HE.o.2⟩
    have iJ:=Ia.o w3 _ _ tC;have LU:=aj iJ;have HP:Z_ (pZ re dw s (nm,3,vl)=none):=by
     show _=_;rw[JC.o,a0g (by simp only at h1;omega),a0g h2]
    have XK:=aj h2;have F3:=aj Df;have t0:w3.cell? ⟨w.heap.size+1,0,none⟩=some (.int .i64 0):=by simp[World.cell?,iJ]
    have t1:w3.cell? ⟨w.heap.size+1,1,none⟩=some (.int .i64 0):=by simp[World.cell?,iJ]
    have t2:w3.cell? ⟨w.heap.size+1,2,none⟩=some (.int .i64 0):=by simp[World.cell?,iJ]
    have tz:∀o,w3.frozen? ⟨w.heap.size+1,o,none⟩=false:=λo=>by simp[World.frozen?,iJ]
    clear iJ h1 h2 Df tC JC;go_wp2_with fail
    refine bodyPost_ret (bH rfl _ _ (w.heap.size+1) (lT ⟨fn,1,0⟩) rfl (uK (uL _ _ _ LU) rfl)) rfl ?_;exact .inl ⟨HP,XK,F3.o.over (Ql _ _ _ _ _) (by simp;omega),_,rfl⟩
   have JC:Z_ (pZ re dw s (nm,kd,vl)=some (⟨iZ s.n nm,0,iZ s.c vl⟩,{ s with n:=tq s.n nm,c:=tq s.c vl })):=by
    show _=_;unfold pZ;rw[a0g hk]
   have ME:((kd:Int)==2)=false:=by rw[a0k];omega
   have Py:((kd:Int)==3)=false:=by rw[a0k];omega
   have aq9:decide ((kd:Int)=2)=false:=a0f (by omega);have ara:decide ((kd:Int)=3)=false:=a0f (by omega);have hO:OW 9 1 w0.heap.size wb vc (sc s.c):=KB.o.own 1 (r:=⟨9,1,vc,sc s.c⟩) (λca cq=>rfl);obtain⟨ac,Qm,he⟩:=hO.shape;rw[jq]at he;subst he;have c1:=KB.o.row.c 1;simp at c1;have z1:=KB.o.row.fz 1;have N3:Z_ (∀W,aA [] wb W->Calls Tryz.prog 44 #[.slice ac s.c.length Qm,.string (bs vl)] W λe w'=>e=.returned (.int .i64 (iZ s.c vl:Nat))/\w'=W):=λW hW=>(Qk W _ [] s.c vl ((hO.rw (by simp)).aB hW (by simp)) (by omega)).mono (λe w' h=>⟨h.1,h.2.symm⟩)
   have FB:Z_ (∀n,aA [] wb (wb.drewN n)):=λn=>(aA.refl [] _).drewN n
   have OB:=aj hO;have hfc:=TI s.c vl;have jv:Z_ ((sc s.c).length=s.c.length):=jq s.c;have Ad:Z_ (∀r,Value.ownBlock (.slice ac s.c.length Qm)=some r->r≠kb):=λr hr=>by have:=(OB.o.lt hr).1;omega
   have hmw:w.heap.size<wb.heap.size:=by omega
   have arb:∀n,kb<(wb.drewN n).heap.size:=λn=>hkb
   have arc:∀n,w.heap.size<(wb.drewN n).heap.size:=λn=>hmw
   have c1d:∀n o,((wb.drewN n).alloc o).cell? ⟨kb,1,none⟩=some (.slice ac s.c.length Qm):=λn o=>((((aA.refl [] wb).drewN n).alloc o).cell (p:=⟨kb,1,none⟩) hkb (by simp)).trans c1
   clear hO;generalize iZ s.n nm=fn at *
   by_cases Gv:iZ s.c vl=s.c.length
   ·have HAX:=aj (aan Gv)
    rw[Gv]at N3 JC;clear hfc Gv;go_wp2_with fail
    go_quiet ((go_at_call 44;exact Calls.quiet_of_same (N3.o _ (FB.o _))))
    go_wp2_with fail
    go_region_law ((refine uo _ (by rfl) _ _ 35 9 _ 1 16 uS Tryz.underlying35 (by rfl) (by omega) (by rfl) w0.heap.size (.slice ac s.c.length Qm) (sc s.c) wb.heap.size #[.string (bs vl)] (0,0) (by rfl) (OB.o.aB (S:=[]) (((aA.refl [] _).drewN _).alloc _) (by simp)) (by rfl) (by rfl) (by exact bK (wb.drewN _) _) (by simp[Value.oneCell']) (by rw[jv.o];omega) (by rw[jv.o];omega) (by simp;omega) (wb.heap.size+1) (by simp) ?_;intro gg aP w4 bF aG aX zx;rw[jv.o]at bF |-;have R4:=aj ((KB.o.row.aB (S:=[]) (((aA.refl [] _).drewN _).alloc _) (by simp)).grown aG Ad);have k1:=R4.o.c 1;have y1:=R4.o.fz 1;simp at k1))
    all_goals
     have O4:OW 9 1 w0.heap.size w4 (.slice (some ⟨gg,0,none⟩) (s.c.length+1) aP) (sc (s.c++[vl])):=by rw[<-XF];exact bF
     have K5:=aj (KB.o.put (((aA.refl [] _).drewN _).alloc _) 1 ⟨9,1,.slice ac s.c.length Qm,sc s.c⟩ ⟨9,1,.slice (some ⟨gg,0,none⟩) (s.c.length+1) aP,sc (s.c++[vl])⟩ (V':=⟨vn1,.slice (some ⟨gg,0,none⟩) (s.c.length+1) aP,va,vt,vr,vi⟩) (U':=U) (s':={ s with n:=tq s.n nm,c:=s.c++[vl] }) (λca cq=>rfl) (λca cq=>rfl) rfl rfl aG O4 rfl (by simpa using aX) 1 (.slice (some ⟨gg,0,none⟩) (s.c.length+1) aP) rfl);have KF5:Z_ (KF kb wb ⟨vn1,.slice ac s.c.length Qm,va,vt,vr,vi⟩ U (w4.setCell ⟨kb,1,none⟩ (.slice (some ⟨gg,0,none⟩) (s.c.length+1) aP)) ⟨vn1,.slice (some ⟨gg,0,none⟩) (s.c.length+1) aP,va,vt,vr,vi⟩ U):=KF.put (s:=s) (s':={ s with c:=s.c++[vl] }) (ca:=[]) (cq:=[]) (ca':=[]) (cq':=[]) (((aA.refl [] _).drewN _).alloc _) 1 (r:=⟨9,1,.slice ac s.c.length Qm,sc s.c⟩) (r':=⟨9,1,.slice (some ⟨gg,0,none⟩) (s.c.length+1) aP,sc (s.c++[vl])⟩) rfl rfl aG rfl (by simpa using aX) 1 _;have iJ:=Ia.o _ _ _ KF5;have HE:=aj (aaq.o _ _ _ _ (.int .i64 (fn:Nat)) (.int .i64 0) (.int .i64 (s.c.length:Nat)) K5.o KF5);have LU:=aj iJ;have t0:(w4.setCell ⟨kb,1,none⟩ (.slice (some ⟨gg,0,none⟩) (s.c.length+1) aP)).cell? ⟨w.heap.size+1,0,none⟩=some (.int .i64 0):=by simp[World.cell?,iJ]
     have t1:(w4.setCell ⟨kb,1,none⟩ (.slice (some ⟨gg,0,none⟩) (s.c.length+1) aP)).cell? ⟨w.heap.size+1,1,none⟩=some (.int .i64 0):=by simp[World.cell?,iJ]
     have t2:(w4.setCell ⟨kb,1,none⟩ (.slice (some ⟨gg,0,none⟩) (s.c.length+1) aP)).cell? ⟨w.heap.size+1,2,none⟩=some (.int .i64 0):=by simp[World.cell?,iJ]
     have tz:∀o,(w4.setCell ⟨kb,1,none⟩ (.slice (some ⟨gg,0,none⟩) (s.c.length+1) aP)).frozen? ⟨w.heap.size+1,o,none⟩=false:=λo=>by simp[World.frozen?,iJ]
     clear aG bF aX k1 y1 R4 O4 iJ;generalize w4.setCell ⟨kb,1,none⟩ (.slice (some ⟨gg,0,none⟩) (s.c.length+1) aP)=w5 at *;go_wp2_with fail
     refine bodyPost_ret (bH rfl _ _ (w.heap.size+1) (lT ⟨fn,0,s.c.length⟩) rfl (uK (uL _ _ _ LU) rfl)) rfl ?_;exact .inr ⟨_,_,_,_,by rw[JC.o,HAX.o],rfl,HE.o.1,⟨rfl,rfl,rfl,rfl⟩,HE.o.2⟩
   have HAX:=aj (aao Gv);have mV:((iZ s.c vl:Int)==(s.c.length:Int))=false:=by rw[a0k];omega
   have rD:decide ((iZ s.c vl:Int)=(s.c.length:Int))=false:=a0f (by omega);generalize iZ s.c vl=fc at *;have iJ:=Ia.o wb _ _ (KF.refl _ _ _ _);have LU:=aj iJ;have t0:wb.cell? ⟨w.heap.size+1,0,none⟩=some (.int .i64 0):=by simp[World.cell?,iJ]
   have t1:wb.cell? ⟨w.heap.size+1,1,none⟩=some (.int .i64 0):=by simp[World.cell?,iJ]
   have t2:wb.cell? ⟨w.heap.size+1,2,none⟩=some (.int .i64 0):=by simp[World.cell?,iJ]
   have tz:∀o,wb.frozen? ⟨w.heap.size+1,o,none⟩=false:=λo=>by simp[World.frozen?,iJ]
   clear iJ;go_wp2_with fail
   go_quiet ((go_at_call 44;exact Calls.quiet_of_same (N3.o _ (FB.o _))))
   go_wp2_with fail
   refine bodyPost_ret (bH rfl _ _ (w.heap.size+1) (lT ⟨fn,0,fc⟩) rfl (uK (uL _ _ _ (LU.o:(wb.drewN nq).heap[w.heap.size+1]?=_)) rfl)) rfl ?_;have HE:=aaq.o (wb.drewN nq) _ _ _ (.int .i64 (fn:Nat)) (.int .i64 0) (.int .i64 (fc:Nat)) (KB.o.aB (FB.o nq)) (KF.of (FB.o nq));exact .inr ⟨_,_,_,_,by rw[JC.o,HAX.o],rfl,HE.1,KV.refl _ _,HE.2⟩
end Go.Proofs.YtgbdcmpmmkfbhaaGreat
