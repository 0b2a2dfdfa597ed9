import Derived.Test.YtaokcijfoopcoaaGreatJ4
import Derived.Laws.MakeOwn
import Derived.Test.YtaokcijfoopcoaaGreatJ3
import Derived.Test.YtaokcijfoopcoaaGreatJ1
import Derived.Laws.CopyOwn
import Derived.Test.YtaokcijfoopcoaaGreatJ2
import Derived.Deep.DeepCutAuto
import Derived.Deep.CutBlock
set_option linter.unusedVariables false
set_option linter.unusedSimpArgs false
set_option linter.unnecessarySimpa false
set_option linter.defProp false
set_option maxRecDepth 100000
set_option maxHeartbeats 8000000
namespace Go.Proofs.YtaokcijfoopcoaaGreat
open Go.RowKit
section
variable {b d g gb gg k kb:Nat} {e:TypeId} {w w' w0 w1 w2:World} {v:Value} {vs:List (List Value)} {A L S Z:LN} {sa:List gz} {V:V6} {s:CS} {C:List CR} {X a p x:NF} {l1:List bX} {ls:List NF} {n:Nat}
structure RD where
 ty:TypeId
 k:Nat
 v:Value
 vs:List (List Value)
structure RWS(base:Nat)(w:World)(rs:List RD):Prop where
 asz:∀(i:Nat) (r:RD),rs[i]?=some r->OW r.ty r.k base w r.v r.vs
 d:∀(i j:Nat) (r s:RD),i≠j->rs[i]?=some r->rs[j]?=some s->∀g,r.v.ownBlock=some g->s.v.ownBlock≠some g
def owns(rs:List RD):LN:=rs.flatMap λr=>r.v.ownBlock.toList
theorem oK {rs:List RD}:g∈owns rs↔∃(i:Nat) (r:RD),rs[i]?=some r/\r.v.ownBlock=some g:=by
 unfold owns;rw[a1l]
 constructor
 .rintro⟨r,a,c⟩
  obtain⟨i,b,rfl⟩:=a3f.1 a;exact⟨i,rs[i],a0a b,by simpa using c⟩
 grind
def OW.awU{base:Nat} {row:Option Nat}(h:OW e k base w v vs)(d:w.grownBy w' row)(hb:∀g,row=some g->v.ownBlock≠some g):OW e k base w' v vs:=by
 refine⟨⟨h.1.1,?_⟩,h.2⟩;rcases h.1.2 with c|⟨g,cap,cur,rfl,b,a,rest⟩
 .exact .inl c
 refine .inr ⟨g,cap,cur,rfl,b,?_,rest⟩;rw[d.block g (a0c.1 a).1 (λe=>hb g e.symm rfl)];exact a
theorem RWS.aC {base:Nat} {rs:List RD}(h:RWS base w rs)(f:aB S w w')(b:∀g∈S,g<base):RWS base w' rs:=⟨λi r a=>(h.asz i r a).aC f b,h.d⟩
theorem RWS.grow{base:Nat} {rs:List RD}(h:RWS base w rs)(i:Nat) {r r':RD}(n:rs[i]?=some r)(y:w.grownBy w' r.v.ownBlock)(ho:OW r'.ty r'.k base w' r'.v r'.vs)(hb:r'.v.ownBlock=some gg)(l:r.v.ownBlock=some gg\/gg=w.heap.size):RWS base w' (rs.set i r'):=by
 have B:i<rs.length:=(a0d.1 n).1;have get:∀(j:Nat) (s:RD),(rs.set i r')[j]?=some s->(j=i/\s=r')\/(j≠i/\rs[j]?=some s):=by grind
 have A:∀(j:Nat) (s:RD),j≠i->rs[j]?=some s->s.v.ownBlock≠some gg:=by
  intro j s f c e;rcases l with l|l
  .exact h.d i j r s (λk=>f k.symm) n c gg l e
  have:=(h.asz j s c).lt e;omega
 refine⟨λj s c=>?_,λj k a b p f u g o=>?_⟩
 .rcases get j s c with⟨_,rfl⟩|⟨f,c⟩
  .exact ho
  exact(h.asz j s c).awU y (λg q=>h.d i j r s (λk=>f k.symm) n c g q)
 rcases get j a f with⟨rfl,rfl⟩|⟨x,m⟩<;>rcases get k b u with⟨rfl,rfl⟩|⟨t,z⟩
 .exact absurd rfl p
 .grind
 .grind
 exact h.d j k a b p m z g o
theorem dV.turn {α:Type} {I:TQ α}{B:LN} {row:Option Nat} {b:List (Array Value)} {xs:List α}(h:dV I A w b xs)(d:w.grownBy w' row)(c:∀r,row=some r->r∈A)(j:row=some gg\/gg=w.heap.size)(e:∀g∈B,g∈A\/g=gg):dV I B w' b xs:=by
 have i:dV I (A++[w.heap.size]) w b xs:=h.cO (by intro g a;simp at a;rcases a with a|a;exact .inl a;exact .inr (by omega));have f:dV I (A++[w.heap.size]) w' b xs:=i.aC (S:=row.toList) ((aB.refl row.toList w).grown d (λr c=>.inl (by simp[c]))) (by intro g a;simp at a;simp[c g a]);refine f.cO (λg a=>.inl ?_);rcases e g a with a|rfl
 .simp[a]
 grind
def cc(L:List (Nat × Bool)):List (List Value):=L.map λc=>[zI c.1,.bool c.2]
theorem YY{L:List (Nat × Bool)}:(cc L).length=L.length:=by simp[cc]
theorem ahV(L:List (Nat × Bool))(c:Nat × Bool):cc L++[[zI c.1,.bool c.2]]=cc (L++[c]):=by simp[cc]
def aqu:TQ (List (Nat × Bool)) where
 rel A w cs x:=∃a,cs=#[a]/\RW A 2 w a (cc x)
 aC:=by rintro A S w w' cs x ⟨a,c,b⟩ f d;exact⟨a,c,b.aC f d⟩
 cO:=by rintro A B w cs x ⟨a,c,b⟩ e;exact⟨a,c,b.cO e⟩
structure KG(Z:LN)(w0:World)(kb:Nat)(w:World)(rs:List RD)(ca:List (Array Value))(sa:List gz)(cq:List (Array Value))(sq:List (List (Nat × Bool))):Prop where
 fr:aB [kb] w0 w
 lo:kb<w0.heap.size
 rw:RWS w0.heap.size w rs
 ai:dV adY (Z++kb::owns rs) w ca sa
 qi:dV aqu (Z++kb::owns rs) w cq sq
theorem KG.aC {rs:List RD} {ca:List (Array Value)} {cq:List (Array Value)} {c:List (List (Nat × Bool))}(h:KG Z w0 kb w rs ca sa cq c)(f:aB S w w')(b:∀g∈S,g=kb):KG Z w0 kb w' rs ca sa cq c :=
 ⟨h.fr.over f (λx d=>.inr (by simp[b x d])),h.lo,h.rw.aC f (λg a=>by rw[b g a];exact h.lo),h.ai.aC f (λg a=>by simp[b g a]),h.qi.aC f (λg a=>by simp[b g a])⟩
def KG.alU {rs:List RD} {ca:List (Array Value)} {cq:List (Array Value)} {c:List (List (Nat × Bool))}(h:KG Z w0 kb w rs ca sa cq c)(hb:w.heap.size<=b):KG (b::Z) w0 kb w rs ca sa cq c :=
 ⟨h.fr,h.lo,h.rw,h.ai.cO (λg a=>by simp at a |-;rcases a with rfl|a;exact .inr hb;exact .inl a),h.qi.cO (λg a=>by simp at a |-;rcases a with rfl|a;exact .inr hb;exact .inl a)⟩
def KG.afK {rs:List RD} {ca:List (Array Value)} {cq:List (Array Value)} {c:List (List (Nat × Bool))}(h:KG (b::Z) w0 kb w rs ca sa cq c):KG Z w0 kb w rs ca sa cq c :=
 ⟨h.fr,h.lo,h.rw,h.ai.cO (λg a=>.inl (by simp at a |-;exact .inr a)),h.qi.cO (λg a=>.inl (by simp at a |-;exact .inr a))⟩
theorem KG.off {rs:List RD} {ca:List (Array Value)} {cq:List (Array Value)} {c:List (List (Nat × Bool))}(h:KG Z w0 kb w rs ca sa cq c)(f:aB S w w')(l:∀g∈S,g∈Z)(q:∀g∈S,w0.heap.size<=g)(ho:∀g∈S,g∉owns rs):KG Z w0 kb w' rs ca sa cq c:=by
 refine⟨h.fr.over f (λx n=>.inl (q x n)),h.lo,⟨λi r k=>?_,h.rw.d⟩,h.ai.aC f (λg b=>by simp[l g b]),h.qi.aC f (λg b=>by simp[l g b])⟩;have a:=h.rw.asz i r k;refine⟨⟨a.1.1,?_⟩,a.2⟩;rcases a.1.2 with o|⟨g,cap,cur,e,m,j,rest⟩
 .exact .inl o
 refine .inr ⟨g,cap,cur,e,m,?_,rest⟩;rw[f.block g (a0c.1 j).1 (λp=>ho g p (oK.2 ⟨i,r,k,by rw[e];rfl⟩))];exact j
theorem KG.grow {rs:List RD} {ca:List (Array Value)} {cq:List (Array Value)} {f:List (List (Nat × Bool))}(h:KG Z w0 kb w rs ca sa cq f)(i:Nat) {r r':RD}(b:rs[i]?=some r)(c:w.grownBy w' r.v.ownBlock)(ho:OW r'.ty r'.k w0.heap.size w' r'.v r'.vs)(hb:r'.v.ownBlock=some gg)(d:r.v.ownBlock=some gg\/gg=w.heap.size):KG Z w0 kb w' (rs.set i r') ca sa cq f:=by
 have n:i<rs.length:=(a0d.1 b).1;have l:∀g,r.v.ownBlock=some g->g∈Z++kb::owns rs:=λg e=>a0e.2 (.inr (a0l.2 (.inr (oK.2 ⟨i,r,b,e⟩))))
 have m:∀g∈Z++kb::owns (rs.set i r'),g∈Z++kb::owns rs\/g=gg:=by
  intro g a;rcases a0e.1 a with a|a
  .grind
  rcases a0l.1 a with rfl|a
  .exact .inl (by simp)
  obtain⟨j,s,p,o⟩:=oK.1 a
  by_cases e:j=i
  .grind
  grind [oK]
 exact⟨h.fr.grown c (λg e=>.inr ((h.rw.asz i r b).lt e).1),h.lo,h.rw.grow i b c ho hb d,h.ai.turn c l d m,h.qi.turn c l d m⟩
structure V4 where
 rt:Value
 x:Value
 q:Value
 l:Value
abbrev VD(V:V6)(U:V4):Array Value:=#[V.n,V.c,V.a,V.t,V.r,V.i,U.rt,U.x,U.q,U.l]
def KR(w:World)(b:Nat)(V:V6)(U:V4):Prop:=w.heap[b]?=some (.cells (VD V U) 93 (0,0))
theorem KR.c {U:V4}(h:KR w b V U)(i:Nat):w.cell? (zB b i)=(VD V U)[i]?:=by unfold KR at h;simp[World.cell?,h]
theorem KR.fz {U:V4}(h:KR w b V U)(o:Nat):w.frozen? (zB b o)=false:=by unfold KR at h;simp[World.frozen?,h]
theorem KR.lt {U:V4}(h:KR w b V U):b<w.heap.size:=(a0c.1 h).1
theorem KR.aC {U:V4}(h:KR w b V U)(f:aB S w w')(a:b∉S):KR w' b V U:=(f.block b h.lt a).trans h
def KR.grown {U:V4} {row:Option Nat}(h:KR w b V U)(c:w.grownBy w' row)(a:∀r,row=some r->r≠b):KR w' b V U:=(c.block b h.lt (λe=>a b e.symm rfl)).trans h
theorem KR.set{V':V6} {U U':V4}(h:KR w b V U)(i:Nat)(v:Value)(e:(VD V U).setIfInBounds i v=VD V' U'):KR (w.setCell (zB b i) v) b V' U':=by unfold KR at h |-;rw[<-e];simp[World.setCell,a0v,h]
abbrev Gm(V:V6)(U:V4)(s:CS)(ca cq:List (Array Value)):List RD :=
 [⟨9,1,V.n,sc s.n⟩,⟨9,1,V.c,sc s.c⟩,⟨9,1,U.x,sc s.x⟩,⟨119,259,V.a,fZ ca⟩,⟨113,3,V.t,tc s.t⟩,⟨125,1,U.q,fZ cq⟩]
structure KS(Z:LN)(w0:World)(kb:Nat)(w:World)(V:V6)(U:V4)(s:CS):Prop where
 row:KR w kb V U
 g:∃ca cq,KG Z w0 kb w (Gm V U s ca cq) ca s.a cq s.q
theorem KS.aC {U:V4}(h:KS Z w0 kb w V U s)(f:aB [] w w'):KS Z w0 kb w' V U s:=by obtain⟨ca,cq,g⟩:=h.g;exact⟨h.row.aC f (by simp),ca,cq,g.aC f (by simp)⟩
def KS.alU {U:V4}(h:KS Z w0 kb w V U s)(hb:w.heap.size<=b):KS (b::Z) w0 kb w V U s:=by obtain⟨ca,cq,g⟩:=h.g;exact⟨h.row,ca,cq,g.alU hb⟩
def KS.afK {U:V4}(h:KS (b::Z) w0 kb w V U s):KS Z w0 kb w V U s:=by obtain⟨ca,cq,g⟩:=h.g;exact⟨h.row,ca,cq,g.afK⟩
def VE(w:World)(v:Value)(A:LN)(L:List LB)(x:LB)(h:RW A 1 w v (sc L))(y:L.length<=1048576) :
 zF 72 #[v,zT x] w λe w'=>e=zR (zI (iL L x:Nat))/\w=w':=by
 obtain⟨a,c,rfl,R⟩:=h.str;have l:=aT;clear h;delta zF;go_in
 go_wp2_with fail
 go_loopg [9] L.length (λk n wr=>∃j:Nat,j+k=L.length/\n=zI j/\wr=w/\(∀i (b:i<j) (l:i<L.length),(L[i]==x)=false))
 exact⟨0,by omega,rfl,rfl,λi b=>by omega⟩
 .obtain⟨j,t,rfl,q,d⟩:=hrel;subst q
  by_cases m:j<L.length
  .have r:decide ((j:Int)<(L.length:Int))=true:=a0g (by omega)
   obtain⟨g,off,rfl,u,k1⟩:=R j m;cases he:(L[j]==x)
   .have o:∀i (b:i<j+1) (l:i<L.length),(L[i]==x)=false:=λi b p=>by
     by_cases e:i=j
     .subst e;exact he
     exact d i (by omega) p
    generalize L[j]=s at *;clear d;go_wp2;go_roundg (gk-1);exact⟨j+1,by omega,by go_num,rfl,o⟩;omega
   have f:iL L x=j:=asA m (λi b=>d i b (by omega)) he;generalize L[j]=s at *;clear d;go_wp2;go_ret;rw[f];exact⟨rfl,rfl⟩
  have r:decide ((j:Int)<(L.length:Int))=false:=a0f (by omega);have f:iL L x=L.length:=anx (λi b=>d i (by omega) b);clear d;go_wp2;go_ret;rw[f];exact⟨rfl,rfl⟩
def rcl(c:CR)(ek iJ:Value):Array Value:=#[zI c.d,zT c.rc,.bool c.tb,ek,zI c.wt,zI c.ev,zI c.rp,iJ,.bool c.co]
def LH(L:List CM):List (List Value):=L.map Bb
def rtI:TQ CR where
 rel A w cs c:=∃ek iJ,cs=rcl c ek iJ/\RW A 1 w ek (sc c.jM)/\RW A 3 w iJ (LH c.ifs)
 aC:=by rintro A S w w' cs x ⟨b,a,g,e,d⟩ f h;exact⟨b,a,g,e.aC f h,d.aC f h⟩
 cO:=by rintro A B w cs x ⟨b,a,g,e,d⟩ i;exact⟨b,a,g,e.cO i,d.cO i⟩
def QH(A:LN)(w:World)(v:Value)(C:List CR):Prop:=∃a,RW A 9 w v (fZ a)/\dV rtI A w a C
theorem QH.aC(h:QH A w v C)(f:aB S w w')(a:∀g∈S,g∈A):QH A w' v C:=by obtain⟨d,c,b⟩:=h;exact⟨d,c.aC f a,b.aC f a⟩
def Gn(C:List CR)(i:Nat):Int:=match par C i with | some p=>(p:Int)|none=>-1
def OT(w:World)(A:LN)(C:List CR)(h:QH A w v C)(hC:C.length<=1048576)(hd:∀c∈C,c.d<=1048576)(i:Nat)(r:i<C.length) :
 zF 55 #[v,zI i] w λe w'=>e=zR (zI (Gn C i))/\∃q,w'=w.drewN q:=by
 obtain⟨P,z,y⟩:=h;obtain⟨a,cp,rfl,R⟩:=sP z y;obtain⟨g,off,cs,rfl,N,_,⟨ek,iJ,rfl,_⟩,k1⟩:=R i r;have M:zC w g (off+i*9) (zI (C[i].d:Nat)):=k1 0 _ rfl;have o:Gn C i=match nQ C C[i].d i with | some p=>(p:Int)|none=>-1:=by unfold Gn par;rw[a0a r]
 have H:=hd C[i] (a0u r);have T:decide ((i:Int)<0)=false:=a0f (by omega);have I:decide ((C.length:Int)<=(i:Int))=false:=a0f (by omega);generalize E:C[i].d=b at *;clear z y k1 E;delta zF;go_in
 go_wp2_with fail
 go_loopg [5] i (λk B wr=>∃(j q:Nat) (x:Int),j<=i/\k=j/\B=zI x/\x=(j:Int)-1/\wr=w.drewN q/\(nQ C b j=nQ C b i))
 exact⟨i,0,_,by omega,rfl,rfl,by omega,rfl,by rfl⟩
 .obtain⟨j,q,x,G,rfl,rfl,u,F,f⟩:=hrel;subst F;rcases gk with _|n
  .obtain rfl:x=-1:=by omega
   clear u;have s:Gn C i=-1:=by rw[o,<-f];rfl
   clear f o;go_wp2;go_ret;rw[s];exact⟨rfl,q,rfl⟩
  obtain rfl:x=(n:Int):=by omega
  clear u;obtain⟨O,t,cs,e,_,_,⟨ek,iJ,rfl,_⟩,k1⟩:=R n (by omega);simp only[Option.some.injEq,Addr.mk.injEq,a2u]at e;obtain⟨rfl,rfl⟩:=e;have L:zC w g (off+n*9) (zI (C[n].d:Nat)):=k1 0 _ rfl;have S:=hd C[n] (a0u _);have m:nQ C b (n+1)=if C[n].d+1=b then some n else nQ C b n:=by rw[nQ,a0a (by omega)];simp
  generalize C[n].d=l at *
  by_cases he:l+1=b
  .have s:Gn C i=(n:Int):=by rw[o,<-f,m,a0m he]
   have hb:((l:Int)==(b:Int)-1)=true:=by simp;omega
   have J:decide ((l:Int)=(b:Int)-1)=true:=a0g (by omega);clear f o m k1;go_wp2_with fail
   go_quiet (fail)
   go_wp2;go_ret;rw[s];exact⟨rfl,_,yD⟩
  have D:nQ C b n=nQ C b i:=by rw[<-f,m,a0n he]
  have hb:((l:Int)==(b:Int)-1)=false:=by simp;omega
  have J:decide ((l:Int)=(b:Int)-1)=false:=a0f (by omega);clear f m k1;go_wp2_with fail
  go_quiet (fail)
  go_wp2;go_roundg n;exact⟨n,_,_,by omega,rfl,rfl,by omega,rfl,D⟩;omega
def LM(w:World)(x:Int)(y:Nat)(b:-1<=x) :
 zF 74 #[zI x,zI y] w λe w'=>e=zR (zI (uk x y:Nat))/\w=w':=by
 by_cases h:x=-1
 .subst h
  delta zF;go_in
  go_wp2;go_ret;exact⟨rfl,rfl⟩
 have a:((uk x y:Nat):Int)=x:=by unfold uk;rw[a0n h];omega
 have hb:(x == -1)=false:=by simp[h]
 delta zF;go_in
 go_wp2;go_ret;rw[a];exact⟨rfl,rfl⟩
structure LY(w0:World)(kb:Nat)(w:World)(V:V6)(U:V4)(l:List bX):Prop where
 row:KR w kb V U
 fr:aB [kb] w0 w
 lo:kb<w0.heap.size
 asz:OW 78 4 w0.heap.size w U.l (uj l)
theorem LY.aC {U:V4} {l:List bX}(h:LY w0 kb w V U l)(f:aB [] w w'):LY w0 kb w' V U l :=
 ⟨h.row.aC f (by simp),h.fr.over f (by simp),h.lo,h.asz.aC f (by simp)⟩
structure LF(kb:Nat)(w:World)(a:Value)(w':World)(b:Value):Prop where
 f:aB (kb::a.ownBlock.toList) w w'
 asz:∀g,b.ownBlock=some g->a.ownBlock=some g\/w.heap.size<=g
theorem LF.refl(kb:Nat)(w:World)(a:Value):LF kb w a w a:=⟨zK,λg h=>.inl h⟩
theorem LF.trans {a b c:Value}(h:LF kb w a w1 b)(k:LF kb w1 b w2 c):LF kb w a w2 c:=by
 refine⟨h.f.over k.f ?_,λg i=>?_⟩
 .intro x e
  rcases a0l.1 e with rfl|e
  .exact .inr (by simp)
  rcases h.asz x (by simpa using e) with d|d
  .exact .inr (by simp[d])
  exact .inl d
 rcases k.asz g i with d|d
 .exact h.asz g d
 exact .inr (a0h h.f.size d)
theorem LF.pre {a b:Value}(h:aB [] w w1)(k:LF kb w1 a w2 b):LF kb w a w2 b:=by have d:LF kb w a w1 a:=⟨zK.over h (by simp),λg c=>.inl c⟩;exact d.trans k
theorem OW.off{base:Nat}(h:OW e k base w v vs)(f:aB S w w')(d:∀g,v.ownBlock=some g->g∉S):OW e k base w' v vs:=by
 refine⟨⟨h.1.1,?_⟩,h.2⟩;rcases h.1.2 with c|⟨g,cap,cur,rfl,b,a,rest⟩
 .exact .inl c
 refine .inr ⟨g,cap,cur,rfl,b,?_,rest⟩;rw[f.block g (a0c.1 a).1 (d g rfl)];exact a
abbrev V4.lay(U:V4)(v:Value):V4:=⟨U.rt,U.x,U.q,v⟩
def TW(w0:World)(kb:Nat)(w:World)(V:V6)(U:V4)(l:List bX)(h:LY w0 kb w V U l)(x:bX)(M:l.length<=1000000000) :
 zF 57 #[zP kb,.agg (jT x)] w λe w'=>e=zR (zI l.length)/\∃v,LY w0 kb w' V (U.lay v) (l++[x])/\LF kb w U.l w' v:=by
 obtain⟨rt,D,q,L⟩:=U;obtain⟨n,co,he⟩:=h.asz.shape;rw[CZ]at he;subst he;have O:=h.asz;have HR:=h.row;have I:=h.fr;have F:=h.lo;have N:=h.row.lt;have P:=h.fr.size;have J:∀r,Value.ownBlock (.slice n l.length co)=some r->r≠kb:=λr f=>by have:=(O.lt f).1;omega
 have y:=h.row.c 9;have B:=h.row.fz 9;simp at y;have m:(uj l).length=l.length:=CZ l;obtain⟨op,s,a,b⟩:=x;clear h;simp only[jT];delta zF;go_in
 go_wp2_with fail
 go_region_law ((refine CU (by rfl) 51 78 4 32 TS Tryz.underlying51 (by rfl) (by omega) (by rfl) w0.heap.size (.slice n l.length co) (uj l) (w.heap.size+1) (jT ⟨op,s,a,b⟩) (0,0) (by rfl) (O.aC (S:=[]) ((zG.alloc _).drew) (by simp)) (by rfl) (by rfl) (by exact Nf _ _ _) (akk _) (by rw[m];omega) (by rw[m];omega) (by simp;omega) (w.heap.size+2) (by simp) ?_;intro gg d k i j z R;rw[m]at i |-;have R4:=(HR.aC (S:=[]) ((zG.alloc _).drew) (by simp)).grown j J;have t:=R4.c 9;have C:=R4.fz 9;simp at t))
 all_goals
  have A:=R4.set (U':=⟨rt,D,q,zS gg (l.length+1) d⟩) (V':=V) 9 (zS gg (l.length+1) d) rfl;have E:=A.c 9;simp at E;rw[Nb]at i;have H:OW 78 4 w0.heap.size (k.setCell (zB kb 9) (zS gg (l.length+1) d)) (zS gg (l.length+1) d) (uj (l++[⟨op,s,a,b⟩])):=i.aC (S:=[kb]) ((aB.refl [kb] _).setCell (p:=(zB kb 9)) (.inl (by simp)) _) (by simp;omega);have F5:aB [kb] w0 (k.setCell (zB kb 9) (zS gg (l.length+1) d)):=((((I.alloc _).alloc _).drew).grown j (λr f=>.inr (O.lt f).1)).setCell (p:=(zB kb 9)) (.inl (by simp)) _;have o:LF kb w (.slice n l.length co) (k.setCell (zB kb 9) (zS gg (l.length+1) d)) (zS gg (l.length+1) d):=by
   refine⟨(((((aB.refl _ w).alloc _).alloc _).drew).grown j (λr f=>.inl (by simp[f]))).setCell (p:=(zB kb 9)) (.inl (by simp)) _,λg G=>?_⟩;cases G
   rcases z with u|u
   .exact .inl u
   exact .inr (by show w.heap.size<=gg;omega)
  clear j i z t C y B;go_wp2;go_ret;exact⟨congrArg Ending.returned (by go_num),_,⟨A,F5,F,H⟩,o⟩
def QR(A:LN)(w:World)(v:Value)(q:List (List (Nat × Bool))):Prop:=∃cq,RW A 1 w v (fZ cq)/\dV aqu A w cq q
theorem QR.aC {q:List (List (Nat × Bool))}(h:QR A w v q)(f:aB S w w')(a:∀g∈S,g∈A):QR A w' v q:=by obtain⟨d,c,b⟩:=h;exact⟨d,c.aC f a,b.aC f a⟩
def RW.con {L:List (Nat × Bool)}(h:RW A 2 w v (cc L)):∃a cap,v=.slice a L.length cap/\∀(j:Nat) (b:j<L.length),∃g off,a=some (zB g off)/\g∉A/\g<w.heap.size/\zC w g (off+j*2) (zI (L[j].1:Nat))/\zC w g (off+j*2+1) (.bool L[j].2):=by obtain⟨a,cap,e,l,i⟩:=h;rw[YY]at e;refine⟨a,cap,e,λj b=>?_⟩;obtain⟨g,off,k,f,d,c⟩:=i j (by rw[YY];exact b);exact⟨g,off,k,f,d,c 0 _ (by simp[cc]),c 1 _ (by simp[cc])⟩
def LU(w0:World)(kb:Nat)(w:World)(V:V6)(U:V4)(l:List bX)(h:LY w0 kb w V U l)(q:List (List (Nat × Bool)))(hq:QR [kb] w0 U.q q)(t:∀x∈q,x.length<=1000)(r y n:Nat)(N:r<q.length)(Kv:q.length<=1000)(hl:l.length<=900000000) :
 zF 76 #[zP kb,zI r,zI y,zI n] w λe w'=>e=zR (zI ((bR q[r] y n l).1:Nat))/\∃v,LY w0 kb w' V (U.lay v) (bR q[r] y n l).2/\LF kb w U.l w' v:=by
 obtain⟨rt,T,_,A⟩:=U;obtain⟨_,P,O⟩:=hq;obtain⟨_,D,e,rq⟩:=sP P O;simp only at e;subst e;obtain⟨gq,J,_,rfl,C,RU,⟨_,rfl,S⟩,k1⟩:=rq r N;obtain⟨_,Js,rfl,RB⟩:=S.con;have X:=(h.fr.cell (p:=(zB gq (J+r*1+0))) C RU).trans (k1 0 _ rfl);rw[a1H,a1Q]at X;have c8:=h.row.c 8;simp at c8;have hQ:=t q[r] (a0u N);clear P O rq k1 S t;generalize q[r]=Q at *;delta zF;go_in
 go_wp2_with fail
 go_loopg [2,10] Q.length (λk f B wr=>∃(j a:Nat) (x:Int) (l1:List bX) (v:Value),j<=Q.length/\k=j/\B=zI x/\x=(j:Int)-1/\f=zI a/\Z_ (l1.length=l.length+(Q.length-j))/\Z_ (bR (Q.drop j) y n l=(a,l1))/\Z_ (LY w0 kb wr V ⟨rt,T,.slice (some (zB gq J)) q.length D,v⟩ l1)/\Z_ (LF kb w A wr v))
 exact⟨Q.length,y,_,l,A,a0b _,rfl,rfl,by omega,rfl,by show _=_;omega,by show _=_;simp[bR],h,LF.refl _ _ _⟩
 .obtain⟨j,a,x,l1,v,hj,rfl,rfl,M,rfl,d,F,L1,b⟩:=hrel;rcases gk with _|m
  .obtain rfl:x=-1:=by omega
   clear M;go_wp2;go_ret;have:=F.o;rw[a2j]at this;rw[this];exact⟨rfl,v,L1,b⟩
  obtain rfl:x=(m:Int):=by omega
  clear M;obtain⟨gc,L,rfl,R,g,I,H⟩:=RB m (by omega);have W:=(L1.o.fr.cell (p:=(zB gc (L+m*2))) g R).trans I;have s1:=(L1.o.fr.cell (p:=(zB gc (L+m*2+1))) g R).trans H;have Z:=a0t g L1.o.fr.size;have z:bR (Q.drop m) y n l=(l1.length,l1++[if Q[m].2 then ⟨2,Q[m].1,a,n⟩ else ⟨2,Q[m].1,n,a⟩]):=by rw[a0k (by omega),bR,F.o]
  generalize Q[m]=c at *;obtain⟨ct,Y⟩:=c;simp only at W s1 z;clear I H F;cases Y with
  | true =>
    have G:Z_ (bR (Q.drop m) y n l=(l1.length,l1++[⟨2,ct,a,n⟩])):=z;have i:=(TW w0 kb (wr.alloc (Obj.cells #[zI 2,zI ct,zI a,zI n] 78)) V _ l1 (L1.o.aC zG) ⟨2,ct,a,n⟩ (by rw[d.o];omega));simp only[jT]at i;clear z;go_wp2_with fail
    refine i.mono ?_;rintro e w2 ⟨rfl,f,E,u⟩;have s:Z_ (LF kb w A w2 f):=b.o.trans (u.pre zG);clear i u b;go_wp2;go_roundg m;exact⟨m,l1.length,_,_,f,by omega,rfl,rfl,by omega,rfl,by show _=_;simp[d.o];omega,G,E,s⟩;omega
  | false =>
    have G:Z_ (bR (Q.drop m) y n l=(l1.length,l1++[⟨2,ct,n,a⟩])):=z;have i:=(TW w0 kb (wr.alloc (Obj.cells #[zI 2,zI ct,zI n,zI a] 78)) V _ l1 (L1.o.aC zG) ⟨2,ct,n,a⟩ (by rw[d.o];omega));simp only[jT]at i;clear z;go_wp2_with fail
    refine i.mono ?_;rintro e w2 ⟨rfl,f,E,u⟩;have s:Z_ (LF kb w A w2 f):=b.o.trans (u.pre zG);go_wp2;go_roundg m;exact⟨m,l1.length,_,_,f,by omega,rfl,rfl,by omega,rfl,by show _=_;simp[d.o];omega,G,E,s⟩;omega
theorem ahW{wr:World}{q:Nat}{t:TypeId}:((wr.drewN q).alloc (Obj.cells #[v] t)).cell? ⟨wr.heap.size,0,none⟩=some v:=by
 have h:((wr.drewN q).alloc (Obj.cells #[v] t)).heap[wr.heap.size]?=some (Obj.cells #[v] t):=bD (wr.drewN q) _;unfold World.cell?;simp only[h]
 rfl
def OU(C:List CR)(r j:Nat):Bool:=decide (r<j)&&(par C j==some r)
theorem abu{r:Nat}:kids C r=(List.range C.length).filter (OU C r):=rfl
def ahX(C:List CR)(r:Nat):(List.range (r+1)).filter (OU C r)=[]:=by rw[List.filter_eq_nil_iff];intro j a;rw[a2b]at a;simp[OU];omega
def akl(C:List CR)(r j:Nat)(h:r<j):(List.range (j+1)).filter (OU C r)=(List.range j).filter (OU C r)++(if (par C j==some r)=true then [j] else []):=by
 rw[List.range_succ,a3v]
 congr 1
 cases a:(par C j==some r)<;>simp[OU,h,a]
def aqx(C:List CR)(j r:Nat):(Gn C j==(r:Int))=(par C j==some r):=by
 unfold Gn;cases par C j with
 | none=>simp
 | some p=>rw[a0T];simp;omega
def YH(kb:Nat)(w:World)(V:V6)(U:V4)(s:KR w kb V U)(C:List CR)(zV:QH [kb] w U.rt C)(hC:C.length<=1000)(hd:∀c∈C,c.d<=1048576)(r:Nat)(q:r<C.length) :
 zF 75 #[zP kb,zI r] w λe w'=>∃v,e=zR v/\aB [] w w'/\OW 3 1 w.heap.size w' v (ic (kids C r)):=by
 obtain⟨rt,L,N,P⟩:=U;obtain⟨D,R,l⟩:∃a cap,rt=.slice a C.length cap:=by obtain⟨Z,A,z⟩:=zV;obtain⟨a,cap,e,_⟩:=sP A z;exact⟨a,cap,e⟩
 subst l;delta zF;go_in
 go_wp2_with fail
 go_loopg [5,6] (C.length-(r+1)) (λk u t wr=>∃(j:Nat) (acc:LN),r<j/\j+k=C.length/\t=zI j/\Z_ (acc=(List.range j).filter (OU C r))/\acc.length<=j/\aB [] w wr/\OW 3 1 w.heap.size wr u (ic acc))
 exact⟨r+1,[],by omega,by omega,by go_num,by show _=_;exact(ahX C r).symm,by simp,zJ,OW.empty _ _ _ _ (a0b _)⟩
 .obtain⟨j,acc,i,W,rfl,b,X,F,O⟩:=hrel;obtain⟨E,co,he⟩:=O.shape;rw[TM]at he;subst he;have:=F.size;have c6:=(s.aC F (by simp)).c 6;simp at c6
  by_cases G:j<C.length
  .have h:=OT wr [kb] C (zV.aC F (by simp)) (by omega) hd j G;have f:=aqx C j r;have g:=akl C r j i;generalize Gn C j=T at *;cases hb:(par C j==some r)
   .have n:Z_ (acc=(List.range (j+1)).filter (OU C r)):=by show _=_;rw[g,hb,b.o];simp
    rw[hb]at f;go_wp2_with fail
    refine h.mono ?_;rintro e w2 ⟨rfl,p,rfl⟩;go_wp2;go_roundg (gk-1);exact⟨j+1,acc,by omega,by omega,by go_num,n,by omega,F.drewN _,O.aC ((aB.refl [] _).drewN _) (by simp)⟩;omega
   have n:Z_ (acc++[j]=(List.range (j+1)).filter (OU C r)):=by show _=_;rw[g,hb,b.o];simp
   rw[hb]at f;go_wp2_with fail
   refine h.mono ?_;rintro e _ ⟨rfl,p,rfl⟩;go_wp2_with (at_builtin;refine anu rfl rfl w.heap.size (.slice E acc.length co) acc wr.heap.size j rfl (O.aC (S:=[]) (((aB.refl [] _).drewN p).alloc _) (by simp)) rfl (ahW) (by omega) (by simp;omega) ?_;intro Y _ M H J m _)
   go_roundg (gk-1);exact⟨j+1,acc++[j],by omega,by omega,by go_num,n,by simp;omega,((F.drewN _).alloc _).grown J (λr q=>.inr (O.lt q).1),H⟩;omega
  have y:j=C.length:=by omega
  have I:Z_ (acc=kids C r):=by show _=_;rw[b.o,y,abu]
  go_wp2;go_ret;rw[<-I.o];exact⟨_,rfl,F,O⟩
theorem Ei(y n:Nat)(l:List bX):∀q:List (Nat × Bool),(bR q y n l).2.length=l.length+q.length
 | []=>rfl
 | c::r=>by simp[bR,Ei y n l r];omega
def bnd:Nat->Nat
 | 0=>0
 | f+1=>16*(bnd f+8)+1
theorem Xl {q:List (List (Nat × Bool))}(hq:∀x∈q,x.length<=4)(c:Nat):(q.getD c []).length<=4:=by grind
def Ng {rec:Nat->Nat->List bX->Nat × List bX} {R:Nat}(a:∀c d l,(rec c d l).2.length<=l.length+R)(C:List CR) {q:List (List (Nat × Bool))}(hq:∀x∈q,x.length<=4)(d:Nat)(l:List bX):∀K:LN,(ji rec C q d l K).2.2.length<=l.length+K.length*(R+4)
 | []=>by simp[ji]
 | c::r=>by have h:=Ng a C hq d l r;rw[ji];generalize ji rec C q d l r=x at *;have g:=a c (if (C[c]?.map (·.co))=some true then x.1 else d) x.2.2;generalize rec c (if (C[c]?.map (·.co))=some true then x.1 else d) x.2.2=b at *;have f:=Ei b.1 x.1 b.2 (q.getD c []);have e:=Xl hq c;show(bR _ _ _ _).2.length<=_;rw[a0r,a0J];omega
def VF {q:List (List (Nat × Bool))}(hq:∀x∈q,x.length<=4)(first:Nat)(l:List bX):∀Z:List (Nat × Nat),(lS q first l Z).2.length<=l.length+Z.length*4
 | []=>by simp[lS]
 | z::r=>by
   have c:=VF hq first l r
   rw[lS];have b:=Ei z.2 (lS q first l r).1 (lS q first l r).2 (q.getD z.1 []);have a:=Xl hq z.1;rw[a0r,a0J];omega
theorem ad4(C:List CR)(r:Nat):(kids C r).length<=C.length:=by grind [abu]
def Gp(hC:C.length<=16) {q:List (List (Nat × Bool))}(hq:∀x∈q,x.length<=4):∀f r d l,(ig C q f r d l).2.length<=l.length+bnd f
 | 0,_,_,l=>by simp[ig]
 | f+1,r,d,l=>by
   have g:=Ng (Gp hC hq f) C hq d l (kids C r);rw[ig];generalize ji (ig C q f) C q d l (kids C r)=x at *;have a:=VF hq x.2.2.length (x.2.2++[⟨1,r,d,0⟩]) ((kids C r).zip x.2.1);have e:=ad4 C r;have c:((kids C r).zip x.2.1).length<=(kids C r).length:=by rw[List.length_zip];exact Nat.min_le_left _ _
   have b:(kids C r).length*(bnd f+4)<=16*(bnd f+4):=a0z _ (by omega);simp at a;rw[bnd];show(lS _ _ _ _).2.length<=_;omega
theorem Xm:∀{i p:Nat},nQ C d i=some p->p<i/\∃c,C[p]?=some c/\c.d+1=d
 | 0,p,h=>by simp[nQ]at h
 | j+1,p,h=>by
   rw[nQ]at h
   split at h
   .grind
   obtain⟨b,a⟩:=Xm h;exact⟨by omega,a⟩
theorem anA {r c:Nat}(h:c∈kids C r)(a:r<C.length):∃b:c<C.length,r<c/\C[r].d+1=C[c].d:=by grind [abu,OU,par,Xm]
structure LC(w0:World)(kb:Nat)(rt vq:Value)(C:List CR)(q:List (List (Nat × Bool))):Prop where
 zV:QH [kb] w0 rt C
 hq:QR [kb] w0 vq q
 ql:q.length=C.length
 qb:∀x∈q,x.length<=4
 cl:C.length<=16
 d:∀c∈C,c.d<=5
def BG(w:World)(gb:Nat)(L:LN):Prop:=w.heap[gb]?=some (.cells (nv .i64 L).toArray 3 (0,0))
theorem BG.cell(h:BG w gb L)(i:Nat)(a:i<L.length):zC w gb i (zI (L[i]:Nat)):=by unfold BG at h;simp[World.cell?,h,nv,a]
theorem BG.fz(h:BG w gb L)(i:Nat):w.frozen? (zB gb i)=false:=by unfold BG at h;simp[World.frozen?,h]
theorem BG.lt(h:BG w gb L):gb<w.heap.size:=(a0c.1 h).1
theorem BG.aC(h:BG w gb L)(f:aB S w w')(a:gb∉S):BG w' gb L:=(f.block gb h.lt a).trans h
theorem BG.set(h:BG w gb L)(i y:Nat):BG (w.setCell (zB gb i) (zI y)) gb (L.set i y):=by unfold BG at h |-;simp[World.setCell,a0v,h,nv,a2d]
def ad5:(Tryz.prog.info? 3).map (λi=>(i.zero,i.size,i.bytes))=some (some (zI 0),1,8):=by kernel_rfl
theorem akm:madeCells #[zI 0] n=(nv .i64 (List.replicate n 0)).toArray:=by
 apply Array.ext
 .simp[size_madeCells,nv]
 intro i b a;simp[madeCells,nv,Nat.mod_one]
def anB(n:Nat)(f:n<=1000000)(u:World):(Instr.makeSlice 117 (zI n) (zI n)).run Tryz.prog u=.ok (zS u.heap.size n n) (u.alloc (.cells (nv .i64 (List.replicate n 0)).toArray 3)):=by obtain⟨a,b,gT,d,c⟩:=kg ad5;have:=run_make (P:=Tryz.prog) u 117 3 a _ Tryz.underlying117 b gT .i64 .i64 (n:Int) (n:Int) (by omega) (a3n _) (by rw[c];omega) (by omega);rw[d,a2A,a1H]at this;rw[this];have e:(Value.int .i64 0).cells=#[zI 0]:=rfl;rw[e,akm]
theorem QH.co(h:QH A w v C):∃a cap,v=.slice a C.length cap/\∀(j:Nat) (b:j<C.length),∃g off,a=some (zB g off)/\g∉A/\g<w.heap.size/\zC w g (off+j*9+8) (.bool C[j].co):=by obtain⟨l,i,f⟩:=h;obtain⟨a,cap,e,r⟩:=sP i f;refine⟨a,cap,e,λj b=>?_⟩;obtain⟨g,off,cs,k,d,c,⟨ek,iJ,rfl,_⟩,k1⟩:=r j b;exact⟨g,off,k,c,d,k1 8 _ rfl⟩
theorem OW.awY {base:Nat}(h:OW 3 1 base w v (ic L)):∃a cap,v=.slice a L.length cap/\∀(j:Nat) (d:j<L.length),∃g,a=some (zA g)/\v.ownBlock=some g/\g<w.heap.size/\zC w g j (zI (L[j]:Nat)):=by
 obtain⟨a,cap,e⟩:=h.shape;rw[TM]at e;subst e;refine⟨a,cap,rfl,λj d=>?_⟩;obtain⟨o,i,b,k⟩:=(h.rw (A:=[]) (by simp)).num;simp only[Value.slice.injEq,a1W]at b;obtain⟨rfl,rfl⟩:=b;obtain⟨g,off,rfl,l,f⟩:=k j d;have c:=h.1.2;rcases c with m|⟨n,i,cur,b,_⟩
 .grind
 simp only[Value.slice.injEq,Option.some.injEq,Addr.mk.injEq]at b;obtain⟨⟨rfl,rfl,_⟩,_⟩:=b;rw[a1n]at f;exact⟨_,rfl,rfl,l,f⟩
theorem LY.off {U:V4} {l:List bX}(h:LY w0 kb w V U l)(f:aB S w w')(b:kb∉S)(c:∀g∈S,w0.heap.size<=g)(ho:∀g,U.l.ownBlock=some g->g∉S):LY w0 kb w' V U l :=
 ⟨h.row.aC f b,h.fr.over f (λx a=>.inl (c x a)),h.lo,h.asz.off f ho⟩
def TX {b wr e:World}{c i:Value}(F:aB S b wr)(k:kb∈S)(j:∀g,c.ownBlock=some g->g∈S)(OV:∀g,v.ownBlock=some g->c.ownBlock=some g\/b.heap.size<=g)(h:LF kb wr v e i) :
 aB S b e/\∀g,i.ownBlock=some g->c.ownBlock=some g\/b.heap.size<=g:=by
 refine⟨F.over h.f ?_,λg l=>?_⟩
 .intro x d
  rcases a0l.1 d with rfl|d
  .exact .inr k
  rcases OV x (by simpa using d) with a|a
  .exact .inr (j x a)
  exact .inl a
 rcases h.asz g l with a|a
 .exact OV g a
 exact .inr (a0h F.size a)
theorem anC{m:Nat}:(List.replicate (m+1) 0++L).set m b=List.replicate m 0++(b::L):=by rw[List.replicate_succ',a0M,a1v _ _ (by simp)];simp
def aqy(rec:Nat->Nat->List bX->Nat × List bX)(C:List CR)(q:List (List (Nat × Bool)))(d:Nat)(l:List bX)(K:LN)(m c:Nat)(f:m<K.length)(g:K[m]=c)(i:c<C.length)(hq:c<q.length) {sec:Nat} {a:LN}(h:ji rec C q d l (K.drop (m+1))=(sec,a,l1)) {l2:List bX}(hb:rec c (if C[c].co then sec else d) l1=(b,l2)) :
 ji rec C q d l (K.drop m)=((bR q[c] b sec l2).1,b::a,(bR q[c] b sec l2).2):=by
 subst g;have e:(if (C[K[m]]?.map (·.co))=some true then sec else d)=(if C[K[m]].co then sec else d):=by rw[a0a i];simp
 rw[a0k f,ji,h];simp only[e,hb];rw[a0x,a0a hq]
 rfl
def aqz(q:List (List (Nat × Bool)))(first:Nat)(l:List bX)(K a:LN)(m c:Nat)(f:m<K.length)(d:K[m]=c)(hq:c<q.length)(e:m<a.length) {b:Nat}(h:lS q first l ((K.zip a).drop (m+1))=(b,l1)) :
 lS q first l ((K.zip a).drop m)=bR q[c] a[m] b l1:=by
 subst d;rw[a0k (by rw[List.length_zip];omega),lS,h];simp only[List.getElem_zip];rw[a0x,a0a hq]
 rfl
def LRQ(w0:World)(kb:Nat)(V:V6)(rt a b:Value)(C:List CR)(q:List (List (Nat × Bool)))(f:Nat):Prop :=
 ∀(r d:Nat) (w:World) (c:Value) (l:List bX),LY w0 kb w V ⟨rt,a,b,c⟩ l->(g:r<C.length)->6<=C[r].d+f->l.length+bnd f<=800000000 ->
  zF 58 #[zP kb,zI r,zI d] w λe w'=>e=zR (zI ((ig C q f r d l).1:Nat))/\∃v,LY w0 kb w' V ⟨rt,a,b,v⟩ (ig C q f r d l).2/\LF kb w c w' v
def abv(w0:World)(kb:Nat)(V:V6)(rt J I:Value)(C:List CR)(q:List (List (Nat × Bool)))(s:LC w0 kb rt I C q)(f:Nat)(ih:LRQ w0 kb V rt J I C q f):LRQ w0 kb V rt J I C q (f+1):=by
 intro r d w S l L0 hr hf hl;have uA:=s.cl;have Kv:=s.ql;have hKl:=ad4 C r;have N1:=(YH kb w V ⟨rt,J,I,S⟩ L0.row C (s.zV.aC L0.fr (by simp)) (by omega) (λc h=>by have:=s.d c h;omega) r hr);have HKM:∀c∈kids C r,∃s:c<C.length,r<c/\C[r].d+1=C[c].d:=λc h=>anA h hr
 have HR:ig C q (f+1) r d l=lS q (ji (ig C q f) C q d l (kids C r)).2.2.length ((ji (ig C q f) C q d l (kids C r)).2.2++[⟨1,r,d,0⟩]) ((kids C r).zip (ji (ig C q f) C q d l (kids C r)).2.1):=rfl;have jU:=L0.lo;have gT:=L0.fr.size;have D:∀g,S.ownBlock=some g->g<w.heap.size:=λg i=>(L0.asz.lt i).2
 obtain⟨art,uR,ert,HCO⟩:=s.zV.co;subst ert;have uh:∀y,ji (ig C q f) C q d l (kids C r)=y->y.2.2.length<=l.length+16*(bnd f+4):=by intro y U;have a:=Ng (Gp s.cl s.qb f) C s.qb d l (kids C r);have h2:(kids C r).length*(bnd f+4)<=16*(bnd f+4):=a0z _ (by omega);rw[<-U];omega
 have HB1:∀n,n+1<=(kids C r).length->∀y,ji (ig C q f) C q d l ((kids C r).drop (n+1))=y->y.2.2.length<=l.length+15*(bnd f+4):=by intro n hn y U;have a:=Ng (Gp s.cl s.qb f) C s.qb d l ((kids C r).drop (n+1));have h2:((kids C r).drop (n+1)).length*(bnd f+4)<=15*(bnd f+4):=a0z _ (by rw[a2F];omega);rw[<-U];omega
 have Y:bnd (f+1)=16*(bnd f+8)+1:=rfl;have jE:l.length+16*(bnd f+8)+1<=800000000:=by have:=Y;omega
 have Yz:C[r].d+(f+1)≥6:=hf;clear hf hl Y;generalize C[r].d=dr at *;generalize kids C r=K at *;have Oh:=anB K.length (by omega);delta zF;go_in
 go_wp2_with fail
 refine N1.mono ?_;clear N1;rintro e w1 ⟨vk,rfl,sZ,hO1⟩;obtain⟨ak,ck,rfl,HK⟩:=hO1.awY;have HKB:∀g,Value.ownBlock (.slice ak K.length ck)=some g->w.heap.size<=g:=λg i=>(hO1.lt i).1
 obtain⟨P,B⟩:∃P,P=w1.alloc (.cells (nv .i64 (List.replicate K.length 0)).toArray 3):=⟨_,rfl⟩;have z:aB [] w1 P:=by rw[B];exact zG
 have fM:=sZ.size;have G:P.heap.size=w1.heap.size+1:=by rw[B];simp[Z_]
 have HBG:BG P w1.heap.size (List.replicate K.length 0):=by rw[B];exact bD _ _
 clear hO1;go_wp2_with fail
 go_loopg [9,10] K.length (λk v9 v10 wr=>∃(j sec:Nat) (x:Int) (o:LN) (l1:List bX) (v:Value),j<=K.length/\k=j/\v10=zI x/\x=(j:Int)-1/\v9=zI sec/\(ji (ig C q f) C q d l (K.drop j)=(sec,o,l1))/\(o.length=K.length-j)/\(LY w0 kb wr V ⟨.slice art C.length uR,J,I,v⟩ l1)/\(BG wr w1.heap.size (List.replicate j 0++o))/\(aB (kb::w1.heap.size::S.ownBlock.toList) P wr)/\(∀g,v.ownBlock=some g->S.ownBlock=some g\/P.heap.size<=g))
 case atStart =>
  refine⟨K.length,d,_,[],l,S,a0b _,rfl,rfl,by omega,rfl,?_,?_,?_,?_,?_,?_⟩
  .show _=_;simp[ji]
  .show _=_;simp
  .show LY _ _ _ _ _ _;rw[<-B];exact L0.aC (sZ.trans z)
  .show BG _ _ _;rw[<-B,a0R];exact HBG
  .show aB _ _ _;rw[<-B];exact zK
  exact λg i=>.inl i
 case round =>
  obtain⟨j,sec,x,o,l1,v,hj,rfl,rfl,F,rfl,HV,Y,L1,B1,FO,OV⟩:=hrel;have Dt:∀g,v.ownBlock=some g->g≠w1.heap.size:=λg i e=>by
   have h2:=G;rcases OV g i with a|a
   .have:=D g a;omega
   omega
  have r6:=L1.row.c 6;simp at r6;rcases gk with _|m
  .obtain rfl:x=-1:=by omega
   clear F;have L:=HV;rw[a2j]at L;have kM:=uh _ L;simp only at kM;have hbs:=Y;have tV:ig C q (f+1) r d l=lS q l1.length (l1++[⟨1,r,d,0⟩]) (K.zip o):=by have:=HR;rw[L]at this;exact this
   have B0:BG wr w1.heap.size o:=by show BG _ _ _;have:=B1;simpa using this
   have TA:kb≠w1.heap.size:=by omega
   have N4:=TW w0 kb wr V _ l1 L1 ⟨1,r,d,0⟩ (by omega);simp only[jT]at N4;have QJ:(l1++[(⟨1,r,d,0⟩:bX)]).length=l1.length+1:=by show _=_;simp
   clear L HV Y HR uh HB1 ih;go_wp2_with fail
   refine N4.mono ?_;clear N4;rintro e w3 ⟨rfl,v3,L3,t⟩;obtain⟨FO3,A⟩:=TX FO (by simp) (λg i=>by simp[i]) OV t;have B3:=(B0.aC t.f (by intro h;simp at h;rcases h with a|a;exact TA a.symm;exact Dt _ a rfl));clear t;generalize oP:l1++[(⟨1,r,d,0⟩:bX)]=l2 at *;clear oP;go_wp2_with fail
   go_loopg [14,15] K.length (λk v14 v15 wr=>∃(j X:Nat) (x:Int) (T:List bX) (v:Value),j<=K.length/\k=j/\v15=zI x/\x=(j:Int)-1/\v14=zI X/\(lS q l1.length l2 ((K.zip o).drop j)=(X,T))/\(LY w0 kb wr V ⟨.slice art C.length uR,J,I,v⟩ T)/\(BG wr w1.heap.size o)/\(aB (kb::w1.heap.size::S.ownBlock.toList) P wr)/\(∀g,v.ownBlock=some g->S.ownBlock=some g\/P.heap.size<=g))
   case atStart =>
    refine⟨K.length,l1.length,_,l2,v3,a0b _,rfl,rfl,by omega,rfl,?_,L3,B3,FO3,A⟩;show _=_;rw[a0i (by rw[List.length_zip];omega)]
    rfl
   case round =>
    obtain⟨j,X,x,T,v4,hj2,rfl,rfl,F,rfl,H,L4,B4,E,OV4⟩:=hrel;rcases gk with _|m
    .obtain rfl:x=-1:=by omega
     clear F;have Z:=H;rw[a2j]at Z;have PZ:ig C q (f+1) r d l=(X,T):=tV.trans Z;have HLF:LF kb w S wr v4:=by
      refine⟨(zK.over (sZ.trans z) (by simp)).over E ?_,λg i=>?_⟩
      .intro y U
       simp at U;rcases U with rfl|rfl|U
       .exact .inr (by simp)
       .exact .inl (by omega)
       exact .inr (by simp[U])
      rcases OV4 g i with a|a
      .exact .inl a
      exact .inr (by have:=G;omega)
     clear Z H;go_wp2;go_ret;rw[PZ];exact⟨rfl,v4,L4,HLF⟩
    obtain rfl:x=(m:Int):=by omega
    clear F;obtain⟨gk,rfl,iD,RU,p0⟩:=HK m (by omega);have hgw:=HKB gk iD;have s0:zC wr gk m (zI (K[m]:Nat)):=by
     refine(E.cell (p:=(zB gk m)) (a0t RU z.size) ?_).trans ((z.cell (p:=(zB gk m)) RU (by simp)).trans p0);intro h;simp at h;rcases h with a|a|a
     .omega
     .omega
     have:=D gk a;omega
    obtain⟨c,M⟩:∃c,K[m]=c:=⟨_,rfl⟩;rw[M]at s0;obtain⟨N,rP,hdc⟩:=HKM c (by rw[<-M];exact a0u _);have hqc:c<q.length:=by omega
    have hbm:m<o.length:=by omega
    have t0:=B4.cell m hbm;have hl3:T.length<=900000000:=by have a:=VF s.qb l1.length l2 ((K.zip o).drop (m+1));rw[H]at a;simp only[a2F,List.length_zip]at a;have:=QJ;omega
    have R:=aqz q l1.length l2 K o m c (by omega) M hqc hbm H;have N5:∀W,aB [] wr W->zF 76 #[zP kb,zI c,zI (o[m]:Nat),zI X] W λe w'=>e=zR (zI ((bR q[c] o[m] X T).1:Nat))/\∃v,LY w0 kb w' V ⟨.slice art C.length uR,J,I,v⟩ (bR q[c] o[m] X T).2/\LF kb W v4 w' v:=λW hW=>LU w0 kb W V _ T (L4.aC hW) q s.hq (λx F=>by have:=s.qb x F;omega) c o[m] X hqc (by omega) hl3
    have VG:decide ((m:Int)<(K.length:Int))=true:=a0g (by omega);generalize o[m]=bm at *;have FN:aB [] wr wr.drew:=(aB.refl [] _).drew;clear H M p0 iD;go_wp2_with fail
    go_region_with (go_at_call 76;refine(N5 _ FN).mono ?_;rintro e w6 ⟨rfl,v6,L6,aqA⟩)
    all_goals
     obtain⟨FO6,OV6⟩:=TX E (by simp) (λg i=>by simp[i]) OV4 (aqA.pre FN);have B6:BG w6 w1.heap.size o:=by
      refine(B4.aC FN (by simp)).aC aqA.f ?_;intro h;simp at h;rcases h with a|a
      .exact TA a.symm
      have h2:=G;rcases OV4 _ a with h3|h3
      .have:=D _ h3;omega
      omega
     clear aqA;go_wp2;go_roundg m;exact⟨m,_,_,_,v6,by omega,rfl,rfl,by omega,rfl,R,L6,B6,FO6,OV6⟩;omega
  obtain rfl:x=(m:Int):=by omega
  clear F;obtain⟨gk,rfl,iD,RU,p0⟩:=HK m (by omega);have hgw:=HKB gk iD;have s0:zC wr gk m (zI (K[m]:Nat)):=by
   refine(FO.cell (p:=(zB gk m)) (a0t RU z.size) ?_).trans ((z.cell (p:=(zB gk m)) RU (by simp)).trans p0);intro h;simp at h;rcases h with a|a|a
   .omega
   .omega
   have:=D gk a;omega
  obtain⟨c,HKE⟩:∃c,K[m]=c:=⟨_,rfl⟩;rw[HKE]at s0;obtain⟨N,rP,hdc⟩:=HKM c (by rw[<-HKE];exact a0u _);have hqc:c<q.length:=by omega
  obtain⟨gr,or,rfl,awZ,atQ,t0⟩:=HCO c N;have s8:=(L1.fr.cell (p:=(zB gr (or+c*9+8))) atQ awZ).trans t0;have kv:=HB1 m (by omega) _ HV;simp only at kv;have xZ:∀O:Nat,(ig C q f c O l1).2.length<=l1.length+bnd f:=λO=>Gp s.cl s.qb f c O l1
  have HN3:∀(u:World) (vu:Value) (lu:List bX) (yy nn:Nat),LY w0 kb u V ⟨.slice (some (zB gr or)) C.length uR,J,I,vu⟩ lu->lu.length<=900000000->zF 76 #[zP kb,zI c,zI yy,zI nn] u λe w'=>e=zR (zI ((bR q[c] yy nn lu).1:Nat))/\∃v,LY w0 kb w' V ⟨.slice (some (zB gr or)) C.length uR,J,I,v⟩ (bR q[c] yy nn lu).2/\LF kb u vu w' v:=λu vu lu yy nn hu hlu=>LU w0 kb u V _ lu hu q s.hq (λx F=>by have:=s.qb x F;omega) c yy nn (by omega) (by omega) hlu
  have sU:6<=C[c].d+f:=by omega
  have ZX:l1.length+bnd f<=800000000:=by omega
  have HN2:∀O:Nat,zF 58 #[zP kb,zI c,zI O] wr λe w'=>e=zR (zI ((ig C q f c O l1).1:Nat))/\∃v',LY w0 kb w' V ⟨.slice (some (zB gr or)) C.length uR,J,I,v'⟩ (ig C q f c O l1).2/\LF kb wr v w' v':=λO=>ih c O wr v l1 L1 N sU ZX
  have RY:decide ((c:Int)<(C.length:Int))=true:=a0g (by omega);have VG:decide ((m:Int)<(K.length:Int))=true:=a0g (by omega);clear t0 p0;obtain⟨bd,NC⟩:∃bd,bd=if C[c].co then sec else d:=⟨_,rfl⟩
  have N2:=HN2 bd;have jR:=xZ bd;have HLB:∀x,ig C q f c bd l1=x->ji (ig C q f) C q d l (K.drop m)=((bR q[c] x.1 sec x.2).1,x.1::o,(bR q[c] x.1 sec x.2).2):=λx F=>aqy _ C q d l K m c (by omega) HKE N (by omega) HV (b:=x.1) (l2:=x.2) (by rw[<-NC];exact F)
  generalize Yv:ig C q f c bd l1=bb at *;have R:=HLB bb rfl;obtain⟨b,l2⟩:=bb;simp only at N2 jR R;have hbs:=Y;have TA:kb≠w1.heap.size:=by omega
  have ayx:=Ei b sec l2 q[c];clear HLB Yv HV xZ HN2 sU kv Y iD;cases HCO:C[c].co
  all_goals
   rw[HCO]at NC s8;simp only[a0G,a0A,a0I]at NC;rw[NC]at N2;clear NC;go_wp2_with fail
   refine N2.mono ?_;clear N2;rintro e w3 ⟨rfl,v3,hL3,t⟩;obtain⟨Gq,A⟩:=TX FO (by simp) (λg i=>by simp[i]) OV t;have B3:=B1.aC t.f (by intro h;simp at h;rcases h with a|a;exact TA a.symm;exact Dt _ a rfl);have y0:=B3.cell m (by simp;omega);have y1:=B3.fz m;have atS:∀g,v3.ownBlock=some g->g≠w1.heap.size:=λg i e=>by
    have h2:=G;rcases A g i with a|a
    .have:=D g a;omega
    omega
   have FB:aB [w1.heap.size] w3 (w3.setCell (zB w1.heap.size m) (zI b)):=zK.setCell (p:=(zB w1.heap.size m)) (.inl (by simp)) _;have hL4:=hL3.off FB (by simp;exact TA) (by simp;omega) (λg i=>by simp;exact atS g i);have N3:=HN3 _ v3 l2 b sec hL4 (by omega);have B4:=B3.set m b;have E:=Gq.over FB (by simp);clear hL3 t Gq B3 atS FB hL4;go_wp2_with fail
   refine N3.mono ?_;clear N3;rintro e w5 ⟨rfl,v5,L5,aqB⟩;obtain⟨FO5,OV5⟩:=TX E (by simp) (λg i=>by simp[i]) A aqB;have B5:BG w5 w1.heap.size (List.replicate m 0++(b::o)):=by
    rw[<-anC];refine B4.aC aqB.f ?_;intro h;simp at h;rcases h with a|a
    .exact TA a.symm
    have h2:=G;rcases A _ a with h3|h3
    .have:=D _ h3;omega
    omega
   clear aqB B4 E A y0 y1;go_wp2;go_roundg m;exact⟨m,_,_,b::o,_,v5,by omega,rfl,rfl,by omega,rfl,R,by show _=_;simp;omega,L5,B5,FO5,OV5⟩;omega
def O0(w0:World)(kb:Nat)(V:V6)(rt b a:Value)(C:List CR)(q:List (List (Nat × Bool)))(c:LC w0 kb rt a C q):∀f,LRQ w0 kb V rt b a C q f
 | 0=>by intro r d w g l h e j i;have:=c.d C[r] (a0u e);omega
 | f+1=>abv w0 kb V rt b a C q c f (O0 w0 kb V rt b a C q c f)
def NB(w:World)(g:Nat)(N:List Int):Prop:=w.heap[g]?=some (.cells (N.map λn=>Value.int .i64 n).toArray 3 (0,0))
def RB(w:World)(g:Nat)(R:List Bool):Prop:=w.heap[g]?=some (.cells (R.map λb=>Value.bool b).toArray 4 (0,0))
theorem NB.cell {L:List Int}(h:NB w g L)(i:Nat)(a:i<L.length):zC w g i (zI L[i]):=by unfold NB at h;simp[World.cell?,h,a]
theorem NB.fz {L:List Int}(h:NB w g L)(i:Nat):w.frozen? (zB g i)=false:=by unfold NB at h;simp[World.frozen?,h]
theorem NB.lt {L:List Int}(h:NB w g L):g<w.heap.size:=(a0c.1 h).1
theorem NB.aC {L:List Int}(h:NB w g L)(f:aB S w w')(a:g∉S):NB w' g L:=(f.block g h.lt a).trans h
theorem NB.set {L:List Int}(h:NB w g L)(i:Nat)(y:Int):NB (w.setCell (zB g i) (zI y)) g (L.set i y):=by unfold NB at h |-;simp[World.setCell,a0v,h,a2d]
theorem RB.cell {L:List Bool}(h:RB w g L)(i:Nat)(a:i<L.length):zC w g i (.bool L[i]):=by unfold RB at h;simp[World.cell?,h,a]
theorem RB.fz {L:List Bool}(h:RB w g L)(i:Nat):w.frozen? (zB g i)=false:=by unfold RB at h;simp[World.frozen?,h]
theorem RB.lt {L:List Bool}(h:RB w g L):g<w.heap.size:=(a0c.1 h).1
theorem RB.aC {L:List Bool}(h:RB w g L)(f:aB S w w')(a:g∉S):RB w' g L:=(f.block g h.lt a).trans h
theorem RB.set {L:List Bool}(h:RB w g L)(i:Nat)(y:Bool):RB (w.setCell (zB g i) (.bool y)) g (L.set i y):=by unfold RB at h |-;simp[World.setCell,a0v,h,a2d]
def akn:(Tryz.prog.info? 4).map (λi=>(i.zero,i.size,i.bytes))=some (some (.bool false),1,1):=by kernel_rfl
theorem ahY:madeCells #[.bool false] n=((List.replicate n false).map λb=>Value.bool b).toArray:=by
 apply Array.ext
 .simp[size_madeCells]
 intro i c a;simp[madeCells,Nat.mod_one]
def abx(n:Nat)(g:n<=1000000000)(u:World):(Instr.makeSlice 116 (zI n) (zI n)).run Tryz.prog u=.ok (zS u.heap.size n n) (u.alloc (.cells ((List.replicate n false).map λb=>Value.bool b).toArray 4)):=by obtain⟨a,c,gT,f,d⟩:=kg akn;have:=run_make (P:=Tryz.prog) u 116 4 a _ Tryz.underlying116 c gT .i64 .i64 (n:Int) (n:Int) (by omega) (a3n _) (by rw[d];omega) (by omega);rw[f,a2A,a1H]at this;rw[this];have e:(Value.bool false).cells=#[.bool false]:=rfl;rw[e,ahY]
theorem ahZ:madeCells #[zI 0] n=((List.replicate n (0:Int)).map λb=>Value.int .i64 b).toArray:=by
 apply Array.ext
 .simp[size_madeCells]
 intro i c a;simp[madeCells,Nat.mod_one]
def ako(n:Nat)(g:n<=1000000000)(u:World):(Instr.makeSlice 117 (zI n) (zI n)).run Tryz.prog u=.ok (zS u.heap.size n n) (u.alloc (.cells ((List.replicate n (0:Int)).map λb=>Value.int .i64 b).toArray 3)):=by obtain⟨a,c,gT,f,d⟩:=kg ad5;have:=run_make (P:=Tryz.prog) u 117 3 a _ Tryz.underlying117 c gT .i64 .i64 (n:Int) (n:Int) (by omega) (a3n _) (by rw[d];omega) (by omega);rw[f,a2A,a1H]at this;rw[this];have e:(Value.int .i64 0).cells=#[zI 0]:=rfl;rw[e,ahZ]
theorem RW.ins {L:List bX}(h:RW A 4 w v (uj L)):∃a cap,v=.slice a L.length cap/\∀(j:Nat) (d:j<L.length),∃g off,a=some (zB g off)/\g<w.heap.size/\zC w g (off+j*4) (zI (L[j].op:Nat))/\zC w g (off+j*4+1) (zI (L[j].x:Nat))/\zC w g (off+j*4+2) (zI (L[j].a:Nat))/\zC w g (off+j*4+3) (zI (L[j].b:Nat)):=by obtain⟨a,cap,e,m,i⟩:=h;rw[CZ]at e;refine⟨a,cap,e,λj d=>?_⟩;obtain⟨g,off,k,l,f,c⟩:=i j (by rw[CZ];exact d);exact⟨g,off,k,f,c 0 _ (by simp[uj,jT]),c 1 _ (by simp[uj,jT]),c 2 _ (by simp[uj,jT]),c 3 _ (by simp[uj,jT])⟩
def aby{l:List bX}(h:RW A 4 w v (uj l))(G:GL l){first:Nat}(hf:first < l.length)(hl:l.length<=900000000) :
 zF 77 #[v,zI first] w λe w'=>∃g,e=zR (zS g l.length l.length)/\aB [] w w'/\w.heap.size<=g/\NB w' g (numsOf l first):=by
 obtain⟨a,cap,rfl,R⟩:=h.ins;have W:=G;have Oh:=ako l.length (by omega);have hmb:=abx l.length (by omega);clear h G;delta zF;go_in
 go_wp2_with fail
 go_loopg [7,8] l.length (λk v7 v8 wr=>∃(j d:Nat) (x:Int) (R:List Bool) (N:List Int),j<=l.length/\k=j/\v8=zI x/\x=(j:Int)-1/\v7=zI d/\d+j<=l.length/\(R.length=l.length)/\(N.length=l.length)/\(mG l j R N d=numsOf l first)/\aB [] w wr/\(RB wr w.heap.size R)/\(NB wr (w.heap.size+1) N))
 case atStart =>
  refine⟨l.length,0,_,(List.replicate l.length false).set first true,List.replicate l.length 0,a0b _,rfl,rfl,by omega,rfl,by omega,?_,?_,?_,zJ.alloc _,?_,?_⟩
  .simp
  .simp
  .rfl
  .show RB _ _ _
   unfold RB;rw[zG.block w.heap.size (by simp) (by simp),bD];have e:(Array.replicate l.length (Value.bool false)).setIfInBounds first (Value.bool true)=(((List.replicate l.length false).set first true).map λb=>Value.bool b).toArray:=by apply Array.ext';simp[Array.toList_setIfInBounds,a2d]
   rw[e]
  show NB _ _ _;unfold NB;rw[Nf];simp
 case round =>
  obtain⟨j,d,x,f,N,hj,rfl,rfl,hx,rfl,Lt,U,V,s,F,C,I⟩:=hrel;rcases gk with _|m
  .obtain rfl:x=-1:=by omega
   have t:=s;clear hx s;go_wp2;go_ret;exact⟨_,rfl,F,by omega,by rw[<-t];exact I⟩
  obtain rfl:x=(m:Int):=by omega
  clear hx;have J:=U;have Y:=V;have ayy:=C.lt;have n0:=I.cell m (by omega);have nz:=I.fz;have r0:=C.cell m (by omega);have rz:=C.fz;obtain⟨E,ol,rfl,G,q0,q1,q2,q3⟩:=R m (by omega);have t0:=(F.cell G (by simp)).trans q0;have t1:=(F.cell G (by simp)).trans q1;have t2:=(F.cell G (by simp)).trans q2;have Z:=(F.cell G (by simp)).trans q3
  have o:mG l (m+1) f N d=if f[m]=true then mG l m (if l[m].op=0 then f else if l[m].op=2 then (f.set l[m].a true).set l[m].b true else f.set l[m].a true) (N.set m d) (d+1) else mG l m f (N.set m (-1)) d:=by rw[mG,a0a (by omega)];simp[List.getD,J,show m<l.length by omega]
  have H:=W m (by omega);generalize N[m]=nm at *;have q:∀(u:World) (i:Nat) (y:Value),aB [w.heap.size+1] u (u.setCell (zB (w.heap.size+1) i) y):=λu i y=>zK.setCell (.inl (by simp)) _
  have r:∀(u:World) (i:Nat) (y:Value),aB [w.heap.size] u (u.setCell (zB w.heap.size i) y):=λu i y=>zK.setCell (.inl (by simp)) _
  clear q0 q1 q2 q3;cases hb:f[m]
  .rw[hb]at r0 o
   simp only[a0A,a0I]at o;have t:=o.symm.trans s;clear o s H t0 t1 t2 Z hb;go_wp2;go_roundg m;exact⟨m,d,_,f,N.set m (-1),by omega,rfl,rfl,by omega,rfl,by omega,U,by simp[Y],t,F.over (q _ _ _) (by simp),C.aC (q _ _ _) (by simp),I.set m (-1)⟩;omega
  rw[hb]at r0 o;simp only[a0G]at o;have aL:m<l.length:=by omega
  generalize P:l[m]=c at *;obtain⟨op,xn,n,D⟩:=c;simp only at t0 t1 t2 Z o H;clear hb P;have HZ:∀u:World,NB u (w.heap.size+1) ((N.set m (-1)).set m d)->NB u (w.heap.size+1) (N.set m d):=λu hu=>by rw[List.set_set]at hu;exact hu
  have B:(N.set m (d:Int)).length=l.length:=by simp[Y]
  have z:=HZ _ ((I.set m (-1)).set m d);have L:=(C.aC (q wr m (zI (-1))) (by simp)).aC (q _ m (zI d)) (by simp);have M:=(F.over (q wr m (zI (-1))) (by simp)).over (q _ m (zI d)) (by simp);clear HZ;rcases H with rfl|⟨rfl,ha⟩|⟨rfl,ha,hb⟩
  .have t:=o.symm.trans s
   clear o s;go_wp2;go_roundg m;exact⟨m,d+1,_,f,N.set m d,by omega,rfl,rfl,by omega,by go_num,by omega,U,B,t,M.alloc _,L.aC zG (by simp),z.aC zG (by simp)⟩;omega
  .have t:=o.symm.trans s
   have ra:=C.cell n (by omega);generalize f[n]=O at *;clear o s;go_wp2;go_roundg m;exact⟨m,d+1,_,f.set n true,N.set m d,by omega,rfl,rfl,by omega,by go_num,by omega,by simp[J],B,t,(M.over (r _ _ _) (by simp)).alloc _,(L.set n true).aC zG (by simp),(z.aC (r _ _ _) (by simp)).aC zG (by simp)⟩;omega
  have t:=o.symm.trans s;have ra:=C.cell n (by omega);have rb:=C.cell D (by omega);have S:decide ((D:Int)<(l.length:Int))=true:=a0g (by omega);generalize f[n]=O at *;generalize f[D]=rbb at *;clear o s
  by_cases X:n=D
  .subst X
   clear rb S hb;go_wp2;go_roundg m;exact⟨m,d+1,_,(f.set n true).set n true,N.set m d,by omega,rfl,rfl,by omega,by go_num,by omega,by simp[J],B,t,((M.over (r _ _ _) (by simp)).over (r _ _ _) (by simp)).alloc _,((L.set n true).set n true).aC zG (by simp),((z.aC (r _ _ _) (by simp)).aC (r _ _ _) (by simp)).aC zG (by simp)⟩;omega
  have hba:D≠n:=λe=>X e.symm
  go_wp2;go_roundg m;exact⟨m,d+1,_,(f.set n true).set D true,N.set m d,by omega,rfl,rfl,by omega,by go_num,by omega,by simp[J],B,t,((M.over (r _ _ _) (by simp)).over (r _ _ _) (by simp)).alloc _,((L.set n true).set D true).aC zG (by simp),((z.aC (r _ _ _) (by simp)).aC (r _ _ _) (by simp)).aC zG (by simp)⟩;omega
mutual
def qZ(c d:Nat):NF->Prop
 | .zero=>True
 | .one=>True
 | .set s=>s.testBit c=s.testBit d
 | .pair a b=>qZ c d a/\qZ c d b
 | .sum l=>ah0 c d l
 | .star a=>qZ c d a
def ah0(c d:Nat):List NF->Prop
 | []=>True
 | x::r=>qZ c d x/\ah0 c d r
end
theorem Gr{c:Nat}:∀{l:List NF},ah0 c d l↔∀x∈l,qZ c d x
 | []=>by simp[ah0]
 | x::r=>by simp only[ah0,a0l,forall_eq_or_imp,Gr]
def BI{c:Nat}(a:NF):∀b,qZ c d a->qZ c d b->qZ c d (aG a b):=by
 refine NF.ind (P:=λa=>∀b,qZ c d a->qZ c d b->qZ c d (aG a b)) ?_ a;intro a f b e hb;cases a with
 | zero=>trivial
 | one=>exact hb
 | pair x y=>cases b<;>first | trivial|exact e|exact f x (by simp[NF.size];omega) _ e.1 (f y (by simp[NF.size];omega) _ e.2 hb)
 | set s=>cases b<;>first | trivial|exact e|exact⟨e,hb⟩
 | sum l=>cases b<;>first | trivial|exact e|exact⟨e,hb⟩
 | star x=>cases b<;>first | trivial|exact e|exact⟨e,hb⟩
theorem akp{c:Nat}(h:qZ c d x)(e:p∈parts x):qZ c d p:=by
 cases x with
 | zero=>simp[parts]at e
 | sum l=>exact Gr.1 h p e
 | one=>simp[parts]at e;subst e;exact h
 | set s=>simp[parts]at e;subst e;exact h
 | pair a b=>simp[parts]at e;subst e;exact h
 | star a=>simp[parts]at e;subst e;exact h
def aqC{c:Nat} {l:List NF}(h:∀p∈l,qZ c d p):qZ c d (mkS l):=by
 match l,h with
 | [],_=>trivial
 | [x],h=>exact h x (by simp)
 | x::y::r,h=>exact Gr.2 h
theorem YZ{c:Nat}(h:∀x∈ls,qZ c d x):qZ c d (bQ ls):=by
 have f:∀p∈ls.flatMap parts,qZ c d p:=λp b=>by grind [akp]
 refine aqC λp b=>?_
 rcases jl.1 (kK b) with⟨e,_⟩|⟨_,rfl⟩
 .exact f p e
 show(bf _).testBit c=(bf _).testBit d;rw[mg,mg];generalize ls.flatMap parts=F at f
 induction F with
 | nil=>rfl
 | cons a r g =>
   simp only[a3m];rw[g λp b=>f p (by simp[b])]
   congr 1
   have:=f a (by simp);cases a<;>simp[bits]
   exact this
def anD{c:Nat}(h:qZ c d a):qZ c d (iH a):=by cases a<;>first | trivial|exact h
def anE{c:Nat}(b:Nat)(x:NF):qZ c d x->qZ c d (left b x):=by
 refine NF.ind (P:=λx=>qZ c d x->qZ c d (left b x)) ?_ x;intro x e h;cases x with
 | zero=>trivial
 | one=>trivial
 | set s=>simp only[left];split<;>trivial
 | pair a y =>
   have g:=e a (by simp[NF.size];omega) h.1;simp only[left]
   split
   .exact YZ (by
     intro z hz;simp at hz;rcases hz with rfl|rfl
     .exact BI _ _ g h.2
     exact e y (by simp[NF.size];omega) h.2)
   exact BI _ _ g h.2
 | sum l=>simp only[left,fP];refine YZ ?_;intro z hz;obtain⟨p,f,rfl⟩:=a0q.1 hz;exact e p (by have:=dx f;simp[NF.size];omega) (Gr.1 h p f)
 | star a=>exact BI _ _ (e a (by simp[NF.size]) h) h
theorem anF{c:Nat}:qZ c d x->left c x=left d x:=by
 refine NF.ind (P:=λx=>qZ c d x->left c x=left d x) ?_ x;intro x b h;cases x with
 | zero=>rfl
 | one=>rfl
 | set s=>simp only[left];rw[show s.testBit c=s.testBit d from h]
 | pair a y=>simp only[left];rw[b a (by simp[NF.size];omega) h.1,b y (by simp[NF.size];omega) h.2]
 | sum l =>
   simp only[left,fP]
   congr 1
   apply a2s;intro p e;exact b p (by have:=dx e;simp[NF.size];omega) (Gr.1 h p e)
 | star a=>simp only[left];rw[b a (by simp[NF.size]) h]
theorem asC{c:Nat}(h:qZ c d X)(w:LN):qZ c d (dW X w):=by
 unfold dW
 induction w generalizing X with
 | nil=>exact h
 | cons b w a=>exact a (anE b X h)
def abz{c:Nat}(b:qZ c d a):∀k t,qZ c d t->qZ c d (eQ a k t)
 | 0,t,h=>h
 | k+1,t,h=>abz b k _ (BI a t b h)
def ah1{c:Nat}(b:qZ c d a):∀k t,qZ c d t->qZ c d (dG a k t)
 | 0,t,h=>h
 | k+1,t,h=>ah1 b k _ (YZ (by
    intro z hz;simp at hz;rcases hz with rfl|rfl
    .exact BI a t b h
    trivial))
mutual
theorem TZ{c:Nat}:∀{e:RX},(∀s∈dB e,s.testBit c=s.testBit d)->qZ c d (bn e)
 | .one s,h=>by
   simp only[bn];split
   .trivial
   exact h s (by simp[dB])
 | .seq l,h=>ad9 (l:=l) λs a=>h s (by simpa[dB] using a)
 | .alt l,h=>YZ (aea (l:=l) λs a=>h s (by simpa[dB] using a))
 | .rep x lo f,h=>by
   have b:qZ c d (bn x):=TZ λs a=>h s (by simpa[dB] using a)
   cases f with
   | none=>exact abz b lo _ (anD b)
   | some n=>exact abz b lo _ (ah1 b _ _ trivial)
theorem ad9{c:Nat}:∀{l:List RX},(∀s∈eT l,s.testBit c=s.testBit d)->qZ c d (sJ l)
 | [],_=>trivial
 | x::r,h=>BI _ _ (TZ λs a=>h s (by simp[eT,a])) (ad9 λs a=>h s (by simp[eT,a]))
theorem aea{c:Nat}:∀{l:List RX},(∀s∈eT l,s.testBit c=s.testBit d)->∀x∈iP l,qZ c d x
 | [],_,x,a=>by simp[iP]at a
 | y::r,h,x,a=>by
   simp only[iP,a0l]at a;rcases a with rfl|a
   .exact TZ λs b=>h s (by simp[eT,b])
   exact aea (l:=r) (λs b=>h s (by simp[eT,b])) x a
end
def sG(P:LN->Prop):Nat->LN->Prop
 | 0,w=>w=[]
 | k+1,w=>∃u v,w=u++v/\P u/\sG P k v
def EJ(P Q:LN->Prop)(w:LN):Prop:=∃u v,w=u++v/\P u/\Q v
def Str(P:LN->Prop)(w:LN):Prop:=∃k,sG P k w
mutual
def Lg:NF->LN->Prop
 | .zero,_=>False
 | .one,w=>w=[]
 | .set s,w=>∃c,w=[c]/\s.testBit c=true
 | .pair a b,w=>∃u v,w=u++v/\Lg a u/\Lg b v
 | .sum l,w=>LgL l w
 | .star a,w=>∃k,sG (Lg a) k w
def LgL:List NF->LN->Prop
 | [],_=>False
 | x::r,w=>Lg x w\/LgL r w
end
theorem LZ {w:LN}:∀{l:List NF},LgL l w↔∃x∈l,Lg x w
 | []=>by simp[LgL]
 | x::r=>by simp[LgL,LZ (l:=r)]
theorem QK {P Q R:LN->Prop} {w:LN}:EJ (EJ P Q) R w↔EJ P (EJ Q R) w:=by
 constructor
 .rintro⟨_,v,rfl,⟨a,b,rfl,e,d⟩,c⟩
  exact⟨a,b++v,by simp,e,b,v,rfl,d,c⟩
 rintro⟨a,_,rfl,e,b,v,rfl,d,c⟩;exact⟨a++b,v,by simp,⟨a,b,rfl,e,d⟩,c⟩
theorem rf {P Q b a:LN->Prop} {w:LN}(h:∀u,P u↔b u)(k:∀u,Q u↔a u):EJ P Q w↔EJ b a w:=by unfold EJ;simp only[h,k]
theorem QM {P a:LN->Prop}(h:∀u,P u↔a u):∀k w,sG P k w↔sG a k w
 | 0,w=>Iff.rfl
 | k+1,w=>by simp only[sG,h,QM h k]
theorem Gs {P:LN->Prop}:∀{j k:Nat} {u v:LN},sG P j u->sG P k v->sG P (j+k) (u++v)
 | 0,k,u,v,h,g=>by rw[show u=[] from h];simpa using g
 | j+1,k,u,v,h,g=>by obtain⟨a,b,rfl,d,c⟩:=h;rw[show j+1+k=(j+k)+1 by omega];exact⟨a,b++v,by simp,d,Gs c g⟩
def I1 {P:LN->Prop}:∀{j k:Nat} {w:LN},sG P (j+k) w->∃u v,w=u++v/\sG P j u/\sG P k v
 | 0,k,w,h=>⟨[],w,rfl,rfl,by simpa using h⟩
 | j+1,k,w,h=>by rw[show j+1+k=(j+k)+1 by omega]at h;obtain⟨a,b,rfl,f,e⟩:=h;obtain⟨u,v,rfl,d,c⟩:=I1 e;exact⟨a++u,v,by simp,⟨a,u,rfl,f,d⟩,c⟩
theorem T9 {P:LN->Prop} {w:LN}:sG P 1 w↔P w:=by
 constructor
 .rintro⟨u,v,rfl,h,rfl⟩;simpa using h
 intro h;exact⟨w,[],by simp,h,rfl⟩
theorem L8:∀(b:NF) (w:LN),Lg (aG a b) w↔EJ (Lg a) (Lg b) w:=by
 refine NF.ind (P:=λa=>∀(b:NF) (w:LN),Lg (aG a b) w↔EJ (Lg a) (Lg b) w) ?_ a;intro a c b w;have hz:∀a:NF,Lg (aG a .zero) w↔EJ (Lg a) (Lg .zero) w:=λa=>by rw[fJ];exact⟨λh=>h.elim,λ⟨_,_,_,_,h⟩=>h.elim⟩
 have ho:∀a:NF,Lg (aG a .one) w↔EJ (Lg a) (Lg .one) w:=λa=>by
  rw[bF]
  constructor
  .intro h;exact⟨w,[],by simp,h,rfl⟩
  rintro⟨u,v,rfl,h,d⟩;rw[show v=[] from d];simpa using h
 by_cases hb:aP b=true
 .have hd:∀a:NF,dP a=true->(Lg (aG a b) w↔EJ (Lg a) (Lg b) w):=λa g=>by rw[aX g hb];exact Iff.rfl
  cases a with
  | zero=>exact⟨λh=>h.elim,λ⟨_,_,_,h,_⟩=>h.elim⟩
  | one =>
    constructor
    .intro h;exact⟨[],w,rfl,rfl,h⟩
    rintro⟨u,v,rfl,f,h⟩;rw[show u=[] from f];exact h
  | set s=>exact hd _ rfl
  | sum l=>exact hd _ rfl
  | star x=>exact hd _ rfl
  | pair x y=>rw[dA hb,c x (by simp[NF.size];omega)];rw[rf (λ_=>Iff.rfl) (λu=>c y (by simp[NF.size];omega) b u)];exact QK.symm
 rcases fQ hb with e|e<;>subst e
 .exact hz a
 exact ho a
theorem anG {w:LN}:Lg x w↔∃p∈parts x,Lg p w:=by
 cases x with
 | zero=>simp[parts,Lg]
 | sum l=>simp only[parts];exact LZ
 | _=>simp[parts]
theorem asD {l:List NF} {w:LN}:Lg (mkS l) w↔∃p∈l,Lg p w:=by
 match l with
 | []=>simp[mkS,Lg]
 | [x]=>simp[mkS]
 | x::y::r=>exact LZ
def anH(h:dF p=true):p=.set (bits p):=by cases p<;>simp[dF]at h;rfl
theorem afL(k:∀x∈ls,wf x) {w:LN}:Lg (bQ ls) w↔∃x∈ls,Lg x w:=by
 have j:=xC k;have e:(∃x∈ls,Lg x w)↔∃p∈ls.flatMap parts,Lg p w:=by grind [anG]
 rw[e,bQ,asD];generalize ls.flatMap parts=F at j;have f:∀p,p∈gU (bN F)↔p∈bN F:=λp=>iA (BU (J4 j))
 constructor
 .rintro⟨p,a,h⟩
  rcases jl.1 ((f p).1 a) with⟨l,_⟩|⟨_,rfl⟩
  .exact⟨p,l,h⟩
  obtain⟨c,rfl,b⟩:=h;rw[mg,a1s]at b;obtain⟨q,hq,hb⟩:=b;refine⟨q,hq,?_⟩;cases q<;>simp[bits]at hb
  exact⟨c,rfl,hb⟩
 rintro⟨p,a,h⟩;cases i:dF p with
 | false=>exact⟨p,(f p).2 (jl.2 (.inl ⟨a,i⟩)),h⟩
 | true =>
   have d:=anH i;rw[d]at h;obtain⟨c,rfl,b⟩:=h;have g:(bf F).testBit c=true:=by rw[mg,a1s];exact⟨p,a,b⟩
   refine⟨.set (bf F),(f _).2 (jl.2 (.inr ⟨?_,rfl⟩)),c,rfl,g⟩;intro e;rw[e]at g;simp at g
theorem abA {P:LN->Prop}(h:∀u,P u->u=[]):∀k w,sG P k w->w=[]
 | 0,w,e=>e
 | k+1,w,⟨u,v,e,b,a⟩=>by rw[e,h u b,abA h k v a];rfl
def ah2 {P:LN->Prop}:∀k w,sG (Str P) k w->Str P w
 | 0,w,h=>⟨0,h⟩
 | k+1,w,⟨u,v,e,⟨j,b⟩,a⟩=>by obtain⟨i,a⟩:=ah2 k v a;exact⟨j+i,e ▸ Gs b a⟩
theorem aqD(a:NF)(w:LN):Lg (iH a) w↔Str (Lg a) w:=by
 have hd:Lg (.star a) w↔Str (Lg a) w:=Iff.rfl;cases a with
 | zero =>
   constructor
   .intro h;exact⟨0,h⟩
   rintro⟨k,h⟩;exact abA (λu b=>b.elim) k w h
 | one =>
   constructor
   .intro h;exact⟨0,h⟩
   rintro⟨k,h⟩;exact abA (λu b=>b) k w h
 | star x =>
   constructor
   .intro h;exact⟨1,T9.2 h⟩
   rintro⟨k,h⟩;exact ah2 (P:=Lg x) k w h
 | set s=>exact hd
 | pair x y=>exact hd
 | sum l=>exact hd
theorem afM(x:NF):dK x=true↔Lg x []:=by
 refine NF.ind (P:=λx=>dK x=true↔Lg x []) ?_ x;intro x d;cases x with
 | zero=>simp[dK,Lg]
 | one=>simp[dK,Lg]
 | set s=>simp[dK,Lg]
 | pair a b =>
   simp only[dK,a0O,d a (by simp[NF.size];omega),d b (by simp[NF.size];omega),Lg]
   constructor
   .grind
   simp_all
 | sum l =>
   simp only[dK,Fh,a1s,Lg,LZ]
   constructor
   .rintro⟨p,c,h⟩;exact⟨p,c,(d p (by have:=dx c;simp[NF.size];omega)).1 h⟩
   rintro⟨p,c,h⟩;exact⟨p,c,(d p (by have:=dx c;simp[NF.size];omega)).2 h⟩
 | star a=>simp only[dK,Lg,true_iff];exact⟨0,rfl⟩
def aeb {P:LN->Prop} {c:Nat} {w:LN}:∀{k:Nat},sG P k (c::w)->∃u v,w=u++v/\P (c::u)/\Str P v
 | 0,h=>by simp[sG]at h
 | k+1,⟨u,v,e,b,a⟩=>by
   cases u with
   | nil=>rw[a0V]at e;subst e;exact aeb a
   | cons d u=>simp only[a0L,List.cons.injEq]at e;obtain⟨rfl,rfl⟩:=e;exact⟨u,v,rfl,b,k,a⟩
theorem aqE(c:Nat)(x:NF):wf x->∀w,Lg (left c x) w↔Lg x (c::w):=by
 refine NF.ind (P:=λx=>wf x->∀w,Lg (left c x) w↔Lg x (c::w)) ?_ x;intro x m j w;cases x with
 | zero=>simp[left,Lg]
 | one=>simp[left,Lg]
 | set s =>
   simp only[left]
   by_cases h:s.testBit c=true
   .rw[a0m h]
    constructor
    .intro e;rw[show w=[] from e];exact⟨c,rfl,h⟩
    rintro⟨d,e,_⟩;simp at e;exact e.2
   rw[a0n h]
   constructor
   .intro e;exact e.elim
   rintro⟨d,e,hd⟩;simp at e;rw[<-e.1]at hd;exact(h hd).elim
 | pair a b =>
   have n:=m a (by simp[NF.size];omega) j.1;have r:=m b (by simp[NF.size];omega) j.2.1;have ht:Lg (aG (left c a) b) w↔∃u v,w=u++v/\Lg a (c::u)/\Lg b v:=by grind [L8,EJ]
   have key:Lg (.pair a b) (c::w)↔(∃u v,w=u++v/\Lg a (c::u)/\Lg b v)\/(Lg a []/\Lg b (c::w)):=by
    constructor
    .rintro⟨u,v,e,g,f⟩
     cases u with
     | nil=>rw[a0V]at e;subst e;exact .inr ⟨g,f⟩
     | cons d u=>simp only[a0L,List.cons.injEq]at e;obtain⟨rfl,rfl⟩:=e;exact .inl ⟨u,v,rfl,g,f⟩
    rintro(⟨u,v,rfl,g,f⟩|⟨g,f⟩)
    .exact⟨c::u,v,rfl,g,f⟩
    exact⟨[],c::w,rfl,g,f⟩
   rw[key];simp only[left]
   by_cases q:dK a=true
   .rw[a0m q,show eH (aG (left c a) b) (left c b)=bQ [aG (left c a) b,left c b] from rfl,afL (by
     intro z hz;simp at hz;rcases hz with rfl|rfl
     .exact lY (gI c a j.1) j.2.1
     exact gI c b j.2.1)]
    simp only[a0l,a1U,a2V,exists_eq_or_imp,exists_eq_left];rw[ht,r];have:=(afM a).1 q;simp[this]
   grind [Lg,afM]
 | sum l =>
   simp only[left,fP];have o:=kJ.1 j.1;rw[afL (by intro z hz;obtain⟨p,i,rfl⟩:=a0q.1 hz;exact gI c p (o p i))]
   show _↔LgL l (c::w);rw[LZ]
   constructor
   .rintro⟨z,hz,h⟩
    obtain⟨p,i,rfl⟩:=a0q.1 hz;exact⟨p,i,(m p (by have:=dx i;simp[NF.size];omega) (o p i) w).1 h⟩
   rintro⟨p,i,h⟩;exact⟨left c p,a0q.2 ⟨p,i,rfl⟩,(m p (by have:=dx i;simp[NF.size];omega) (o p i) w).2 h⟩
 | star a =>
   have n:=m a (by simp[NF.size]) j.1;simp only[left];rw[L8]
   constructor
   .rintro⟨u,v,rfl,g,k,f⟩
    exact⟨k+1,c::u,v,rfl,(n u).1 g,f⟩
   rintro⟨k,h⟩;obtain⟨u,v,rfl,g,f⟩:=aeb h;exact⟨u,v,rfl,(n u).2 g,f⟩
theorem au4(a:wf X)(w:LN):dK (dW X w)=true↔Lg X w:=by
 rw[afM]
 induction w generalizing X with
 | nil=>exact Iff.rfl
 | cons c w b=>rw[show dW X (c::w)=dW (left c X) w from rfl,b (gI c X a)];exact aqE c X a w
mutual
def Rg:RX->LN->Prop
 | .one s,w=>∃c,w=[c]/\s.testBit c=true
 | .seq l,w=>RgS l w
 | .alt l,w=>RgA l w
 | .rep x lo a,w=>∃k,lo<=k/\(∀n,a=some n->k<=n)/\sG (Rg x) k w
def RgS:List RX->LN->Prop
 | [],w=>w=[]
 | x::r,w=>∃u v,w=u++v/\Rg x u/\RgS r v
def RgA:List RX->LN->Prop
 | [],_=>False
 | x::r,w=>Rg x w\/RgA r w
end
theorem afN:∀(k:Nat) (t:NF) (w:LN),Lg (eQ a k t) w↔EJ (sG (Lg a) k) (Lg t) w
 | 0,t,w=>by
   constructor
   .intro h;exact⟨[],w,rfl,rfl,h⟩
   rintro⟨u,v,rfl,b,h⟩;rw[show u=[] from b];exact h
 | k+1,t,w=>by rw[Qp,L8,rf (λ_=>Iff.rfl) (λu=>afN k t u),<-QK];exact Iff.rfl
theorem alV(b:WC a):∀(k:Nat) (w:LN),Lg (dG a k .one) w↔∃j,j<=k/\sG (Lg a) j w
 | 0,w=>by
   constructor
   .intro h;exact⟨0,a0b _,h⟩
   rintro⟨j,e,h⟩;rw[show j=0 by omega]at h;exact h
 | k+1,w=>by
   rw[aaL,show eH (aG a (dG a k .one)) .one=bQ [aG a (dG a k .one),.one] from rfl,afL (by
    intro z hz;simp at hz;rcases hz with rfl|rfl
    .exact lY b.1 (E7 b k _ .one).1
    trivial)]
   simp only[a0l,a1U,a2V,exists_eq_or_imp,exists_eq_left];rw[L8,rf (λ_=>Iff.rfl) (λu=>alV b k u)]
   constructor
   .rintro(⟨u,v,rfl,d,j,e,c⟩|h)
    .exact⟨j+1,by omega,u,v,rfl,d,c⟩
    exact⟨0,by omega,h⟩
   rintro⟨j,e,h⟩;cases j with
   | zero=>exact .inr h
   | succ j=>obtain⟨u,v,rfl,d,c⟩:=h;exact .inl ⟨u,v,rfl,d,j,by omega,c⟩
theorem asE(i:WC a)(lo:Nat)(d:Option Nat)(e:∀n,d=some n->lo<=n){w:LN}:Lg (kD a lo d) w↔∃k,lo<=k/\(∀n,d=some n->k<=n)/\sG (Lg a) k w:=by
 cases d with
 | none =>
   show Lg (eQ a lo (iH a)) w↔_;rw[afN,rf (λ_=>Iff.rfl) (λu=>aqD a u)]
   constructor
   .rintro⟨u,v,rfl,c,j,b⟩;exact⟨lo+j,by omega,by simp,Gs c b⟩
   rintro⟨k,g,_,h⟩;rw[show k=lo+(k-lo) by omega]at h;obtain⟨u,v,rfl,c,b⟩:=I1 h;exact⟨u,v,rfl,c,_,b⟩
 | some n =>
   have m:=e n rfl;show Lg (eQ a lo (dG a (n-lo) .one)) w↔_;rw[afN,rf (λ_=>Iff.rfl) (λu=>alV i (n-lo) u)]
   constructor
   .rintro⟨u,v,rfl,c,j,l,b⟩;exact⟨lo+j,by omega,by simp;omega,Gs c b⟩
   rintro⟨k,g,f,h⟩;have:=f n rfl;rw[show k=lo+(k-lo) by omega]at h;obtain⟨u,v,rfl,c,b⟩:=I1 h;exact⟨u,v,rfl,c,_,by omega,b⟩
mutual
theorem Y2:∀{e:RX},tL e->∀w,Lg (bn e) w↔Rg e w
 | .one s,_,w=>by
   simp only[bn]
   by_cases h:s=0
   .rw[a0m h];simp[Lg,Rg,h]
   rw[a0n h];exact Iff.rfl
 | .seq l,ho,w=>ah3 (show jm l from ho) w
 | .alt l,ho,w=>by show Lg (bQ (iP l)) w↔RgA l w;rw[afL λx b=>(E8 ho.1 x b).1,ah4 ho.1 w]
 | .rep x lo a,ho,w=>by show Lg (kD (bn x) lo a) w↔∃k,lo<=k/\(∀n,a=some n->k<=n)/\sG (Rg x) k w;rw[asE (uC ho.1) lo a ho.2];simp only[QM (Y2 ho.1)]
theorem ah3:∀{l:List RX},jm l->∀w,Lg (sJ l) w↔RgS l w
 | [],_,w=>Iff.rfl
 | x::r,ho,w=>by show Lg (aG (bn x) (sJ r)) w↔EJ (Rg x) (RgS r) w;rw[L8];exact rf (Y2 ho.1) (ah3 ho.2)
theorem ah4:∀{l:List RX},jm l->∀w,(∃x∈iP l,Lg x w)↔RgA l w
 | [],_,w=>by simp[iP,RgA]
 | x::r,ho,w=>by simp only[iP,a0l,exists_eq_or_imp,RgA];rw[Y2 ho.1 w,ah4 ho.2 w]
end
end
section
variable {g j n:Nat} {B L M:List Bool} {w:World}
def Rt:TR->LN->Prop
 | .nil,w=>w=[]
 | .one s,w=>∃c,w=[c]/\s.testBit c=true
 | .both a b,w=>EJ (Rt a) (Rt b) w
 | .either a b,w=>Rt a w\/Rt b w
 | .often a lo hi,w=>∃k,lo<=k/\(∀n,hi=some n->k<=n)/\sG (Rt a) k w
mutual
theorem abB:∀(e:RX),tL e->∀w,Rt (gW e) w↔Rg e w
 | .one s,_,w=>by simp only[gW,Rt,Rg]
 | .seq l,h,w=>by
   simp only[gW,Rg];rw[atU l .nil h w]
   constructor
   .rintro⟨u,v,rfl,c,b⟩;rw[show u=[] from c];exact b
   intro a;exact⟨[],w,rfl,rfl,a⟩
 | .alt l,h,w=>by simp only[gW,Rg];exact au5 l h.1 h.2 w
 | .rep x lo d,h,w=>by simp only[gW,Rg,Rt];simp only[QM (abB x h.1)]
theorem atU:∀(l:List RX) (r:TR),jm l->∀w,Rt (Ag r l) w↔EJ (Rt r) (RgS l) w
 | [],r,_,w=>by
   simp only[Ag]
   constructor
   .intro h;exact⟨w,[],by simp,h,by simp only[RgS]⟩
   rintro⟨u,v,rfl,b,a⟩;simp only[RgS]at a;subst a;simpa using b
 | x::l,r,h,w=>by
   simp only[Ag];rw[atU l (.both r (gW x)) h.2 w];have e:∀u,Rt (.both r (gW x)) u↔EJ (Rt r) (Rg x) u:=λu=>by simp only[Rt];exact rf (λ_=>Iff.rfl) (abB x h.1)
   rw[rf e (λ_=>Iff.rfl),QK];refine rf (λ_=>Iff.rfl) (λu=>?_);simp only[RgS,EJ]
theorem au5:∀(l:List RX),jm l->l≠[]->∀w,Rt (yu l) w↔RgA l w
 | [],_,h,w=>absurd rfl h
 | x::l,h,_,w=>by simp only[yu];rw[atV l (gW x) h.2 w,abB x h.1 w];simp only[RgA]
theorem atV:∀(l:List RX) (r:TR),jm l->∀w,Rt (Ah r l) w↔(Rt r w\/RgA l w)
 | [],r,_,w=>by simp only[Ah,RgA,a2V]
 | x::l,r,h,w=>by simp only[Ah];rw[atV l (.either r (gW x)) h.2 w];simp only[Rt,RgA,abB x h.1 w,or_assoc]
end
def sQ(s:LB)(i j:Nat):LN:=((s.take j).drop i).map (·.toNat)
def akq(s:LB)(i:Nat):sQ s i i=[]:=by simp[sQ]
theorem anI {s:LB}{i:Nat}(b:i<=j)(a:j<=s.length)(h:sQ s i j=[]):i=j:=by unfold sQ at h;have:=congrArg List.length h;simp at this;omega
theorem VH {s:LB}{i k:Nat}(c:i<=j)(a:j<=k)(b:k<=s.length):sQ s i k=sQ s i j++sQ s j k:=by
 unfold sQ;rw[<-a0P]
 congr 1
 have e:s.take k=s.take j++(s.take k).drop j:=by grind [Nat.min_eq_left,List.take_append_drop]
 conv=>lhs;rw[e]
 rw[a1N (by simp;omega)]
def Xn {s:LB} {i k:Nat} {u v:LN}(e:i<=k)(d:k<=s.length)(h:sQ s i k=u++v):∃j,i<=j/\j<=k/\sQ s i j=u/\sQ s j k=v:=by
 have c:(sQ s i k).length=k-i:=by unfold sQ;simp;omega
 rw[h,a0p]at c;refine⟨i+u.length,by omega,by omega,?_⟩;have a:=VH (s:=s) (i:=i) (j:=i+u.length) (k:=k) (by omega) (by omega) d;rw[h]at a;have b:(sQ s i (i+u.length)).length=u.length:=by unfold sQ;simp;omega
 have:=List.append_inj a b.symm;exact⟨this.1.symm,this.2.symm⟩
theorem aec {s:LB} {i:Nat} {c:UInt8}(h:s[i]?=some c):sQ s i (i+1)=[c.toNat]:=by grind [sQ,List.getElem?_eq_some_iff,List.take_add_one,List.drop_eq_nil_of_le]
def uM(P:LN->Prop)(s:LB)(A B:List Bool):Prop:=∀j,B[j]?=some true↔∃i,A[i]?=some true/\i<=j/\j<=s.length/\P (sQ s i j)
theorem uM.congr {P Q:LN->Prop} {s:LB}{A:List Bool}(h:uM P s A B)(e:∀w,P w↔Q w):uM Q s A B:=λj=>by rw[h j];simp only[e]
theorem ah5(s:LB)(A:List Bool)(hA:A.length=s.length+1):uM (λw=>w=[]) s A A:=λj=>by
 constructor
 ·intro h
  have:=(a0d.1 h).1;exact⟨j,h,a0b _,by omega,akq s j⟩
 rintro⟨i,h1,h2,h3,h4⟩;rw[<-anI h2 h3 h4];exact h1
theorem uM.comp {P Q:LN->Prop} {s:LB}{A:List Bool}(h:uM P s A M)(k:uM Q s M B):uM (EJ P Q) s A B:=λj=>by
 rw[k j]
 constructor
 .rintro⟨i,c,b,a,q⟩
  obtain⟨n,g,f,l,d⟩:=(h i).1 c;exact⟨n,g,by omega,a,_,_,VH f b a,d,q⟩
 rintro⟨i,c,b,a,u,v,e,p,o⟩;obtain⟨m,g,f,l,d⟩:=Xn b a e;exact⟨m,(h m).2 ⟨i,c,g,by omega,by rw[l];exact p⟩,f,a,by rw[d];exact o⟩
def sH(a b:List Bool):List Bool:=List.zipWith (·||·) a b
theorem abC {a b:List Bool}(h:a.length=b.length):(sH a b).length=a.length:=by simp[sH,h]
theorem aqF {a b:List Bool}(h:a.length=b.length):(sH a b)[j]?=some true↔a[j]?=some true\/b[j]?=some true:=by grind [sH]
def uM.or {P Q:LN->Prop} {s:LB}{A C:List Bool}(h:uM P s A B)(k:uM Q s A C)(e:B.length=C.length):uM (λw=>P w\/Q w) s A (sH B C):=λj=>by
 rw[aqF e,h j,k j]
 constructor
 .rintro(⟨i,d,c,b,a⟩|⟨i,d,c,b,a⟩)
  .exact⟨i,d,c,b,.inl a⟩
  exact⟨i,d,c,b,.inr a⟩
 rintro⟨i,d,c,b,a|a⟩
 .exact .inl ⟨i,d,c,b,a⟩
 exact .inr ⟨i,d,c,b,a⟩
def aed {P:LN->Prop} {k:Nat} {w:LN}:sG P (k+1) w↔EJ (sG P k) P w:=by
 constructor
 .intro h
  obtain⟨u,v,rfl,b,a⟩:=I1 h;exact⟨u,v,rfl,b,T9.1 a⟩
 rintro⟨u,v,rfl,b,a⟩;exact Gs b (T9.2 a)
def uM.step {P:LN->Prop} {s:LB}{A:List Bool} {k:Nat}(h:uM (sG P k) s A M)(g:uM P s M B):uM (sG P (k+1)) s A B:=(h.comp g).congr λ_=>aed.symm
def Btw(P:LN->Prop)(lo a:Nat)(w:LN):Prop:=∃i,lo<=i/\i<=a/\sG P i w
def aqG {P:LN->Prop} {lo:Nat} {w:LN}:sG P lo w↔Btw P lo lo w:=by
 constructor
 .intro h;exact⟨lo,a0b _,a0b _,h⟩
 rintro⟨i,b,a,h⟩;rw[show i=lo by omega]at h;exact h
theorem aee {P:LN->Prop} {lo k:Nat}(c:lo<=k) {w:LN}:(Btw P lo k w\/sG P (k+1) w)↔Btw P lo (k+1) w:=by
 constructor
 .rintro(⟨i,a,b,h⟩|h)
  .exact⟨i,a,by omega,h⟩
  exact⟨k+1,by omega,a0b _,h⟩
 rintro⟨i,a,b,h⟩
 by_cases e:i=k+1
 .subst e;exact .inr h
 exact .inl ⟨i,a,by omega,h⟩
theorem uM.done {P:LN->Prop} {s:LB}{A:List Bool} {lo k:Nat}(N:lo<=k)(h:uM (Btw P lo k) s A B)(g:uM (sG P (k+1)) s A M)(p:∀j:Nat,M[j]?=some true->B[j]?=some true)(r:Option Nat)(hh:∀n,r=some n->k<=n) :
 uM (λw=>∃i,lo<=i/\(∀n,r=some n->i<=n)/\sG P i w) s A B:=by
 have key:∀(m:Nat) (i j:Nat),A[i]?=some true->i<=j->j<=s.length->lo<=m->sG P m (sQ s i j)->B[j]?=some true:=by
  intro m
  induction m with
  | zero=>intro i j f d b l c;exact(h j).2 ⟨i,f,d,b,0,l,by omega,c⟩
  | succ m y =>
    intro i j f d b l c
    by_cases D:m+1<=k
    .exact(h j).2 ⟨i,f,d,b,m+1,l,D,c⟩
    by_cases J:m=k
    .subst J
     exact p j ((g j).2 ⟨i,f,d,b,c⟩)
    obtain⟨u,v,e,z,L⟩:=aed.1 c;obtain⟨q,I,R,H,O⟩:=Xn d b e;have hq:=y i q f I (by omega) (by omega) (by rw[H];exact z);obtain⟨o,x,W,V,a,U,T,S⟩:=(h q).1 hq;have t:sG P (a+1) (sQ s o j):=by grind [VH,Gs,T9]
    by_cases E:a+1<=k
    .exact(h j).2 ⟨o,x,by omega,b,a+1,by omega,E,t⟩
    have:a=k:=by omega
    subst this;exact p j ((g j).2 ⟨o,x,by omega,b,t⟩)
 intro j
 constructor
 .intro F
  obtain⟨i,f,d,b,a,l,c,G⟩:=(h j).1 F;exact⟨i,f,d,b,a,l,λn C=>a0h c (hh n C),G⟩
 grind
def uM.full {P:LN->Prop} {s:LB}{A:List Bool}{lo:Nat}(h:uM (Btw P lo n) s A B):uM (λw=>∃i,lo<=i/\(∀m,some n=some m->i<=m)/\sG P i w) s A B:=by
 refine h.congr λw=>?_
 constructor
 .rintro⟨i,b,c,a⟩;exact⟨i,b,λm d=>by simp at d;omega,a⟩
 rintro⟨i,b,c,a⟩;exact⟨i,b,c n rfl,a⟩
def aqH {s:LB}{A:List Bool} {b:Nat}(m:∀j:Nat,B[j]?=some true↔∃(i:Nat) (c:UInt8),j=i+1/\A[i]?=some true/\s[i]?=some c/\b.testBit c.toNat=true):uM (λw=>∃c,w=[c]/\b.testBit c=true) s A B:=λj=>by
 rw[m j]
 constructor
 .rintro⟨i,c,rfl,d,a,h⟩
  have:=(a0d.1 a).1;exact⟨i,d,by omega,by omega,c.toNat,aec a,h⟩
 rintro⟨i,d,a,h,c,e,l⟩;have f:(sQ s i j).length=j-i:=by unfold sQ;simp;omega
 rw[e]at f;simp at f;have k:j=i+1:=by omega
 subst k;have g:i<s.length:=by omega
 refine⟨i,s[i],rfl,d,a0a g,?_⟩;have:=aec (a0a g);rw[e]at this;simp at this;rw[<-this];exact l
def Ua:TR->Prop
 | .nil=>True
 | .one _=>True
 | .both a b=>Ua a/\Ua b
 | .either a b=>Ua a/\Ua b
 | .often a lo c=>Ua a/\(∀n,c=some n->lo<=n)
mutual
theorem Nh:∀(e:RX),tL e->Ua (gW e)
 | .one s,_=>trivial
 | .seq l,h=>by simp only[gW];exact aqI l .nil trivial h
 | .alt l,h=>by simp only[gW];exact asF l h.1
 | .rep x lo a,h=>by simp only[gW,Ua];exact⟨Nh x h.1,h.2⟩
theorem aqI:∀(l:List RX) (r:TR),Ua r->jm l->Ua (Ag r l)
 | [],r,a,_=>by simp only[Ag];exact a
 | x::l,r,a,h=>by simp only[Ag];exact aqI l _ ⟨a,Nh x h.1⟩ h.2
theorem asF:∀(l:List RX),jm l->Ua (yu l)
 | [],_=>by simp only[yu];exact trivial
 | x::l,h=>by simp only[yu];exact aqJ l _ (Nh x h.1) h.2
theorem aqJ:∀(l:List RX) (r:TR),Ua r->jm l->Ua (Ah r l)
 | [],r,a,_=>by simp only[Ah];exact a
 | x::l,r,a,h=>by simp only[Ah];exact aqJ l _ ⟨a,Nh x h.1⟩ h.2
end
theorem aef {a:List Bool}(h:a.length=n):sH (List.replicate n false) a=a:=by
 subst h;unfold sH
 induction a with
 | nil=>rfl
 | cons x r b=>simp only[a0r,List.replicate_succ,a2W,a3l];rw[b]
def AX(a:List Bool):Nat:=a.countP (! ·)
def aqK(a:List Bool):AX a<=a.length:=List.countP_le_length
def ah6:∀{a b:List Bool},a.length=b.length->AX (sH a b)<=AX a
 | [],[],_=>a0b _
 | x::a,y::b,h=>by have c:=ah6 (a:=a) (b:=b) (by simpa using h);unfold AX sH at *;simp only[a2W,a2G];cases x<;>cases y<;>simp<;>omega
 | [],_::_,h=>by simp at h
 | _::_,[],h=>by simp at h
def abD:∀{a b:List Bool},a.length=b.length->∀(j:Nat),a[j]?=some false->b[j]?=some true->AX (sH a b)<AX a
 | [],[],_,j,c,_=>by simp at c
 | x::a,y::b,h,0,c,d=>by have e:=ah6 (by simpa using h);simp at c d;subst c d;unfold AX sH at *;simp only[a2W,a2G];simp;omega
 | x::a,y::b,h,j+1,c,d=>by have e:=abD (by simpa using h) j (by simpa using c) (by simpa using d);unfold AX sH at *;simp only[a2W,a2G];cases x<;>cases y<;>simp<;>omega
 | [],_::_,h,_,_,_=>by simp at h
 | _::_,[],h,_,_,_=>by simp at h
def Ub(A:List Bool)(s:LB)(b k:Nat):Bool:=(A[k]?.getD false)&&(match s[k]? with | some c=>b.testBit c.toNat|none=>false)
def um(A:List Bool)(s:LB)(b i:Nat):List Bool:=(List.range (s.length+1)).map λj=>decide (0<j)&&decide (j<=i)&&Ub A s b (j-1)
theorem Ni(A:List Bool)(s:LB)(b i:Nat):(um A s b i).length=s.length+1:=by simp[um]
theorem akr{A:List Bool}{s:LB}{b:Nat}:um A s b 0=List.replicate (s.length+1) false:=by
 apply a3g
 .simp[um]
 grind [um]
theorem aks {A:List Bool} {s:LB} {b i:Nat}(a:i<s.length):um A s b (i+1)=if Ub A s b i then (um A s b i).set (i+1) true else um A s b i:=by
 apply a3g
 .split<;>simp[um]
 grind [um,Ub]
theorem anJ(A:List Bool)(s:LB)(b:Nat):uM (λw=>∃c,w=[c]/\b.testBit c=true) s A (um A s b s.length):=by
 refine aqH λj=>?_
 rcases a2a j (s.length+1) with a|a
 .grind [um,Ub,Ni]
 grind [Ni]
def BO(w:World)(g:Nat)(L:List Bool):Prop:=w.heap[g]?=some (.cells (L.map λb=>Value.bool b).toArray 4 (0,0))
abbrev xq(g n:Nat):Value:=zS g n n
theorem BO.lt(h:BO w g L):g<w.heap.size:=(a0c.1 h).1
theorem BO.aC {S:LN}{w':World}(h:BO w g L)(f:aB S w w')(a:g∉S):BO w' g L:=(f.block g h.lt a).trans h
theorem BO.cell(h:BO w g L)(j:Nat)(a:j<L.length):w.cell? ⟨g,j,none⟩=some (.bool L[j]):=by rw[cell_of_row w g j _ _ _ h];simp[a]
theorem BO.fz(h:BO w g L)(o:Nat):w.frozen? (zB g o)=false:=by unfold BO at h;simp[World.frozen?,h]
theorem BO.set(h:BO w g L)(j:Nat)(x:Bool):BO (w.setCell (zB g j) (.bool x)) g (L.set j x):=by
 unfold BO at *;have:((L.map λb=>Value.bool b).toArray.setIfInBounds j (.bool x))=((L.set j x).map λb=>Value.bool b).toArray:=by apply Array.ext';simp[a2d]
 simp[World.setCell,a0v,h,<-this]
def BO.new(u:World)(L:List Bool):BO (u.alloc (.cells (L.map λb=>Value.bool b).toArray 4)) u.heap.size L:=bD _ _
def wE(a b:List Bool)(i:Nat):List Bool:=sH (a.take i) (b.take i)++a.drop i
theorem ah7{a b:List Bool}:wE a b 0=a:=by simp[wE,sH]
def akt {a b:List Bool} {i:Nat}(h:a.length=b.length)(c:i<=a.length):(wE a b i).length=a.length:=by simp[wE,sH];omega
theorem aku {a b:List Bool}(h:a.length=b.length):wE a b a.length=sH a b:=by unfold wE;rw[a0C (a0b _),a0C (by omega),a2H,a0R]
def anK {a b:List Bool} {i:Nat}(h:a.length=b.length)(d:i<a.length):(wE a b i)[i]?=a[i]?:=by
 unfold wE;have c:(sH (a.take i) (b.take i)).length=i:=by simp[sH];omega
 rw[a0K (by omega),c,a3u];simp
theorem ah8 {a b:List Bool} {i:Nat}(h:a.length=b.length)(c:i<a.length):(wE a b i).set i (a[i]||b[i]'(by omega))=wE a b (i+1):=by
 unfold wE;have d:(sH (a.take i) (b.take i)).length=i:=by simp[sH];omega
 rw[List.set_append,a0n (by omega),d,a2v,a0k c,List.set_cons_zero];rw[a0F c,a0F (by omega:i<b.length)];have e:sH (a.take i++[a[i]]) (b.take i++[b[i]'(by omega)])=sH (a.take i) (b.take i)++[a[i]||b[i]'(by omega)]:=by unfold sH;rw[List.zipWith_append (by simp;omega)];rfl
 rw[e,a0M];rfl
theorem I6(w:World)(a g n:Nat)(L1 b:List Bool)(p:BO w a L1)(v:BO w g b)(z:a≠g)(o:n=L1.length)(d:L1.length=b.length)(hb:n<=1000) :
 Calls Tryz.prog 105 #[xq a n,xq g n] w λe w'=>e=.returned (.tuple #[])/\BO w' a (sH L1 b)/\aB [a] w w':=by
 have s:BO w a (wE L1 b 0):=by show BO _ _ _;rw[ah7];exact p
 clear p;unfold xq;go_in
 go_wp2_with fail
 go_loopg [4] n (λk t wr=>∃(i:Nat),i+k=n/\t=.int .i64 i/\BO wr a (wE L1 b i)/\aB [a] w wr)
 exact⟨0,by omega,rfl,s,zK⟩
 .clear s;obtain⟨i,E,rfl,h,F⟩:=hrel;have C:=h.fz i
  by_cases A:i<n
  .have c:i<L1.length:=by rw[<-o];exact A
   have r:i<b.length:=by rw[<-d];exact c
   have m:=v.aC F (by simp;exact λe=>z e.symm);have j:=anK d c;have c1:wr.cell? ⟨a,i,none⟩=some (.bool L1[i]):=by
    have D:=akt d (a3t c);have:=h.cell i (by omega);rw[this]
    congr 2
    have u:=a0a (l:=wE L1 b i) (i:=i) (by omega);rw[u,a0a c]at j;exact Option.some.inj j
   have c2:wr.cell? ⟨g,i,none⟩=some (.bool b[i]):=m.cell i r;have q:BO (wr.setCell ⟨a,i,none⟩ (.bool (L1[i]||b[i]))) a (wE L1 b (i+1)):=by show BO _ _ _;rw[<-ah8 d c];exact h.set i _
   have NF:∀x,aB [a] w (wr.setCell ⟨a,i,none⟩ (.bool x)):=λx=>F.setCell (.inl (by simp)) _
   clear m j;generalize L1[i]=x at *;generalize b[i]=y at *;clear c r;cases x
   .cases y
    all_goals
     go_wp2;go_roundg (gk-1);exact⟨i+1,by omega,by go_num,q,NF _⟩;omega
   go_wp2;go_roundg (gk-1);exact⟨i+1,by omega,by go_num,q,NF _⟩;omega
  have f:i=L1.length:=by have:=o;omega
  have B:BO wr a (sH L1 b):=by show BO _ _ _;rw[<-aku d,<-f];exact h
  clear f;go_wp2;go_end0
  exact⟨rfl,B,F⟩
def pF(a b:List Bool):Bool:=(List.zipWith (λx y=>y&&!x) a b).any id
def akv {a b:List Bool}(e:a.length=b.length)(h:pF a b=false)(j:Nat)(c:b[j]?=some true):a[j]?=some true:=by
 unfold pF at h;rw[List.any_eq_false]at h;have hb:=(a0d.1 c).1;have d:j<a.length:=by omega
 have:=h ((λx y=>y&&!x) a[j] b[j]) (by refine a0B (i:=j) ?_;rw[a3b,a0a d,a0a hb])
 rw[(a0d.1 c).2]at this;rw[a0a d];simpa using this
def Xo {a b:List Bool}(g:a.length=b.length)(h:pF a b=true):∃j:Nat,a[j]?=some false/\b[j]?=some true:=by
 unfold pF at h;rw[a1s]at h;obtain⟨x,f,d⟩:=h;obtain⟨j,c⟩:=a1T f;rw[a3b]at c;rcases a2a j a.length with e|e
 .have hb:j<b.length:=by omega
  rw[a0a e,a0a hb]at c;simp at c;refine⟨j,?_,?_⟩
  .rw[a0a e];rw[<-c]at d;simp at d;simp[d.2]
  rw[a0a hb];rw[<-c]at d;simp at d;simp[d.1]
 rw[a1Z e]at c;simp at c
def akw {a b:List Bool} {i:Nat}(e:a.length=b.length)(c:i<a.length)(h:∀j,j<i->((b[j]?.getD false)&&!(a[j]?.getD false))=false)(d:((b[i]'(by omega))&&!a[i])=true):pF a b=true:=by unfold pF;rw[a1s];refine⟨(b[i]'(by omega))&&!a[i],a0B (i:=i) ?_,d⟩;rw[a3b,a0a c,a0a (by omega:i<b.length)]
def afP {a b:List Bool}(f:a.length=b.length)(h:∀j,j<a.length->((b[j]?.getD false)&&!(a[j]?.getD false))=false):pF a b=false:=by
 unfold pF;rw[List.any_eq_false];intro x e;obtain⟨j,c⟩:=a1T e;rw[a3b]at c;rcases a2a j a.length with d|d
 .have hb:j<b.length:=by omega
  have:=h j d;rw[a0a d,a0a hb]at this c;simp at c;rw[<-c];simpa using this
 rw[a1Z d]at c;simp at c
def ah9(w:World)(r q n:Nat)(L1 a:List Bool)(v:BO w r L1)(u:BO w q a)(m:n=L1.length)(d:L1.length=a.length)(hb:n<=1000) :
 zF 106 #[xq r n,xq q n] w λe w'=>e=zR (.bool (pF L1 a))/\w=w':=by
 unfold xq;delta zF;go_in
 go_wp2_with fail
 go_loopg [5] n (λk t wr=>∃(i:Nat),i+k=n/\t=zI i/\w=wr/\∀j,j<i->((a[j]?.getD false)&&!(L1[j]?.getD false))=false)
 exact⟨0,by omega,rfl,rfl,λj o=>by omega⟩
 .obtain⟨i,A,rfl,rfl,l⟩:=hrel
  by_cases z:i<n
  .have c:i<L1.length:=by rw[<-m];exact z
   have g:i<a.length:=by rw[<-d];exact c
   have c1:=v.cell i c;have c2:=u.cell i g;have f:(a[i]&&!L1[i])=true->pF L1 a=true:=λh=>akw d c l h
   have s:(a[i]&&!L1[i])=false->∀j,j<i+1->((a[j]?.getD false)&&!(L1[j]?.getD false))=false:=by
    intro h j o;rcases a2a j i with p|p
    .exact l j p
    have:j=i:=by omega
    subst this;rw[a0a c,a0a g];exact h
   generalize L1[i]=x at *;generalize a[i]=y at *;clear c g;cases y
   .have b:=s rfl
    go_wp2;go_roundg (gk-1);exact⟨i+1,by omega,by go_num,rfl,b⟩;omega
   cases x
   .have b:=f rfl
    go_wp2;go_ret;rw[b];exact⟨rfl,rfl⟩
   have b:=s rfl;go_wp2;go_roundg (gk-1);exact⟨i+1,by omega,by go_num,rfl,b⟩;omega
  have b:pF L1 a=false:=afP d (λj o=>l j (by have:=m;omega));go_wp2;go_ret;rw[b];exact⟨rfl,rfl⟩
def FmQ(t:TR)(s:LB)(A:List Bool)(w:World)(e:Ending)(w':World):Prop :=
 ∃g B,e=zR (xq g (s.length+1))/\BO w' g B/\w.heap.size<=g/\aB [] w w'/\B.length=s.length+1/\uM (Rt t) s A B
def FmC(t:TR):Prop:=∀(w:World) (p a:Nat) (s:LB) (A:List Bool),RN w p t->BO w a A->A.length=s.length+1->s.length<=900->Ua t->Se t ->
 zF 85 #[aM p,zT s,xq a (s.length+1)] w (FmQ t s A w)
abbrev zbl(n:Nat):List Bool:=List.replicate n false
theorem BJ(n:Nat)(b:n<=1000000000)(w:World):∃a:Array Value,(Instr.makeSlice 116 (.int .i64 n) (.int .i64 n)).run Tryz.prog w=.ok (.slice (some ⟨w.heap.size,0,none⟩) n n) (w.alloc (.cells a 4))/\BO (w.alloc (.cells a 4)) w.heap.size (zbl n) :=
 ⟨_,abx n b w,BO.new _ _⟩
def aia(W:World)(g a n:Nat)(Z A:List Bool)(k:n=A.length)(i:Z.length=n)(h:BO W g Z)(l:BO W a A) :
 ∃d,(Builtin.copy_ #[116,116] 3 #[xq g n,xq a n]).run Tryz.prog W=.ok (zI n) d/\BO d g A/\aB [g] W d:=by
 subst k;have f:(A.map λb=>Value.bool b).length=A.length:=by simp
 have e:=run_copy_row Tryz.prog W 116 116 3 4 g 0 A.length A.length (zA a) A.length A.length (Z.map λb=>Value.bool b).toArray 4 (A.map λb=>Value.bool b) Tryz.underlying116 (by kernel_rfl) h (by rw[f];exact(Nat.min_self _).symm) (by
  intro j v c;rw[show((zA a):Addr).add j=(zB a j) by rw[Addr.add_mid];simp,cell_of_row W a j _ _ _ l];simpa using c) (by simp[i]) (by
  intro v c;obtain⟨y,_,rfl⟩:=a0q.1 c
  rfl)
 rw[f]at e;refine⟨_,e,?_,aB.setRow _ _ _⟩;unfold BO;rw[setRow_heap W g _ _ 4 _ h];have m:(Z.map λb=>Value.bool b).drop A.length=[]:=a0i (by simp[i]);simp[m]
def asG:FmC .nil:=by
 intro w p l s A h d c t _ _;obtain⟨n,b⟩:∃n,n=s.length+1:=⟨_,rfl⟩;have a:n=A.length:=by omega
 have c0:=RK.c0 h;have:=bY c0;obtain⟨o,u,j⟩:=BJ n (by omega) w;obtain⟨i,k,f,g⟩:=aia (w.alloc (.cells o 4)) w.heap.size l n (zbl n) A a (by simp) j (d.aC (S:=[]) ((aB.refl [] _).alloc _) (by simp));have F4:Z_ (aB [] w i):=((aB.refl [] w).alloc _).above g (by simp)
 rw[<-b];have e:Z_ (FmQ .nil s A w (zR (xq w.heap.size n)) i):=⟨w.heap.size,A,by rw[<-b],f,a0b _,F4,c,ah5 s A c⟩;clear h d c f g b a j;unfold aM xq at *;go_enter Tryz.func85,Tryz.ntmps85
 go_wp2;go_ret;exact e
def asH(b:Nat):FmC (.one b):=by
 intro w p ga s A h t D hs _ _;obtain⟨n,g⟩:∃n,n=s.length+1:=⟨_,rfl⟩;have c0:=RK.c0 h;have lV:=bY c0;obtain⟨G,U,N⟩:=BJ n (by omega) w;have R:=bL s;have T:=t.lt;have z:=aj h;have V:=aj t;have B:=aj D;have I:=aj g;have Z:n<=1000:=by omega
 have M:Z_ (BO (w.alloc (.cells G 4)) w.heap.size (um A s b 0)):=by
  show BO _ _ _;rw[akr,<-g];exact N
 have F0:Z_ (aB [w.heap.size] w (w.alloc (.cells G 4))):=(aB.refl _ w).alloc _;rw[<-g];clear h t D N g;unfold aM xq at *;delta zF;go_in
 go_wp2_with fail
 go_loopg [8] s.length (λk O wr=>∃(i:Nat),i+k=s.length/\O=zI i/\BO wr w.heap.size (um A s b i)/\aB [w.heap.size] w wr)
 case atStart=>exact⟨0,by omega,rfl,M,F0⟩
 case round =>
  clear M F0 U c0;obtain⟨i,Ku,rfl,hb,f⟩:=hrel;have C:=aj hb;have F:=aj f
  by_cases E:i<s.length
  .have a:i<A.length:=by have:=B.o;omega
   have EF:i+1<n:=by have:=I.o;omega
   have c1:=(V.o.aC f (by simp;omega)).cell i a;have Y:(bs s)[i]'(by rw[R];omega)=s[i]:=rfl;have u:s[i].toNat<256:=s[i].toNat_lt;have cin:=RK.cin (z.o.aY (dX.aC f (λk m cur fz e=>by simp at m;subst m;rw[Array.getElem?_eq_none (a0b _)]at e;simp at e))) s[i].toNat (b.testBit s[i].toNat) (Ib b _ u);have z1:=hb.fz (i+1);have l:=Ni A s b i;obtain⟨y,co⟩:∃y,zC wr w.heap.size (i+1) (.bool y):=⟨_,hb.cell (i+1) (by omega)⟩;have ST:=aks (A:=A) (b:=b) E;have H:Ub A s b i=(A[i]&&b.testBit s[i].toNat):=by unfold Ub;simp[a0a a,a0a E]
   rw[H]at ST;have v:=aj ST;have X:Z_ (∀q,BO ((wr.drewN q).setCell (zB w.heap.size (i+1)) (.bool true)) w.heap.size ((um A s b i).set (i+1) true)):=λq=>(C.o.aC (S:=[]) ((aB.refl [] _).drewN q) (by simp)).set (i+1) true
   have W:Z_ (∀q,aB [w.heap.size] w ((wr.drewN q).setCell (zB w.heap.size (i+1)) (.bool true))):=λq=>(F.o.drewN q).setCell (.inl (by simp)) _
   have L:Z_ (∀q,BO (wr.drewN q) w.heap.size (um A s b i)):=λq=>C.o.aC (S:=[]) ((aB.refl [] _).drewN q) (by simp)
   have J:Z_ (∀q,aB [w.heap.size] w (wr.drewN q)):=λq=>F.o.drewN q
   clear hb f ST H l;generalize A[i]=x at *;generalize s[i]=c at *;clear a;cases x
   .have d:Z_ (um A s b (i+1)=um A s b i):=by show _=_;rw[v.o];simp
    go_wp2_with fail
    go_quiet (fail)
    go_wp2;go_roundg (gk-1)
    case measure=>omega
    case rel=>exact⟨i+1,by omega,by go_num,by rw[d.o];exact L.o _,J.o _⟩
   cases j:b.testBit c.toNat
   .have d:Z_ (um A s b (i+1)=um A s b i):=by show _=_;rw[v.o,j];simp
    rw[j]at cin;go_wp2_with fail
    go_quiet (fail)
    go_wp2;go_roundg (gk-1)
    case measure=>omega
    case rel=>exact⟨i+1,by omega,by go_num,by rw[d.o];exact L.o _,J.o _⟩
   have d:Z_ (um A s b (i+1)=(um A s b i).set (i+1) true):=by show _=_;rw[v.o,j];simp
   rw[j]at cin;go_wp2_with fail
   go_quiet (fail)
   go_wp2;go_roundg (gk-1)
   case measure=>omega
   case rel=>exact⟨i+1,by omega,by go_num,by rw[d.o];exact X.o _,W.o _⟩
  have r:i=s.length:=by omega
  have d:Z_ (FmQ (.one b) s A w (zR (zS w.heap.size n n)) wr):=by
   refine⟨w.heap.size,um A s b s.length,by rw[<-I.o],by rw[<-r];exact C,a0b _,F.o.mono (λk m P=>by simp at P;omega),Ni _ _ _ _,anJ A s b⟩
  clear hb f;go_wp2;go_ret;exact d
def aqL(x y:TR)(J:FmC x)(I:FmC y):FmC (.both x y):=by
 intro w p X s A h L N i f u;obtain⟨n,j⟩:∃n,n=s.length+1:=⟨_,rfl⟩;obtain⟨a,b,d,P,O⟩:=h;have c0:=d.c0;have W:=bY c0;obtain⟨ca,cb,_⟩:=d.ends;unfold pq at ca cb;obtain⟨U,_,Av⟩:=BJ n (by omega) w
 have t:Z_ (aB [] w (w.alloc (.cells U 4))):=(aB.refl [] w).alloc _;have l:=aj (J (w.alloc (.cells U 4)) a X s A (RN.aY (dX.of t) P) (L.aC t.o (by simp)) N i f.1 u.1);have H2:=aj O;have HY:=aj I;have q:=aj f;have r:=aj u;have HS:=aj i;have m:=aj j;rw[<-j]at l |-;clear P O d L N J I f u i j Av;unfold aM xq at *;delta zF;go_in
 go_wp2_with fail
 refine(l.o).mono ?_;rintro e v ⟨g,M,rfl,F,IE,S,z,D⟩;have F1:=aj (t.o.trans S);have:zC v p 258 (zP b):=(F1.o.cell (p:=(zB p 258)) W (by simp)).trans cb;have k:=aj (HY.o v b g s M (RN.aY (dX.of F1) H2) F z HS.o q.o.2 r.o.2);rw[<-m.o]at k;rw[<-m.o];unfold aM xq at *;go_wp2_with fail
 refine(k.o).mono ?_;rintro e V ⟨R,B,rfl,G,H,T,C,E⟩;have c:Z_ (FmQ (.both x y) s A w (zR (xq R (s.length+1))) V):=⟨R,B,rfl,G,a0h F1.o.size H,F1.o.trans T,C,by simp only[Rt];exact (aj D).o.comp E⟩;rw[<-m.o]at c |-;unfold xq at *;go_wp2;go_ret;exact c
def akx(x y:TR)(hx:FmC x)(Z:FmC y):FmC (.either x y):=by
 intro w p ga s A h u v r q L;obtain⟨n,t⟩:∃n,n=s.length+1:=⟨_,rfl⟩;obtain⟨a,b,i,h1,h2⟩:=h;have c0:=i.c0;have lV:=bY c0;obtain⟨ca,cb,_⟩:=i.ends;unfold pq at ca cb;obtain⟨Zc,_,Av⟩:=BJ n (by omega) w;have N:n<=1000:=by omega
 have J:Z_ (aB [] w (w.alloc (.cells Zc 4))):=(aB.refl [] w).alloc _;have F:=aj (hx (w.alloc (.cells Zc 4)) a ga s A (RN.aY (dX.of J) h1) (u.aC J.o (by simp)) v r q.1 L.1);have R:=aj Av;have H2:=aj h2;have HY:=aj Z;have G:=aj q;have H:=aj L;have HS:=aj r;have d:=aj t;have HA:=aj u;have I:=aj v;rw[<-t]at F |-;clear h1 h2 i u v hx Z q L r t Av;unfold aM xq at *;go_enter Tryz.func85,Tryz.ntmps85
 go_wp2_with fail
 refine(F.o).mono ?_;rintro e P ⟨g,M,rfl,X,IE,C,S,V⟩;have F1:=aj (J.o.trans C);have:zC P p 258 (zP b):=(F1.o.cell (p:=(zB p 258)) lV (by simp)).trans cb;have E:=aj (HY.o P b ga s A (RN.aY (dX.of F1) H2) (HA.o.aC F1.o (by simp)) I.o HS.o G.o.2 H.o.2);rw[<-d.o]at E;rw[<-d.o];have R1:=aj V;have B1:=aj X;have O1:=aj (R.o.aC C (by simp));have c:=aj S;have j:=IE;simp at j;unfold aM xq at *;go_wp2_with fail
 refine(E.o).mono ?_;rintro e w2 ⟨g2,B,rfl,Y,_,m,T,W⟩;have F2:=aj (F1.o.trans m);have:=O1.o.lt;have J1:=aj (I6 w2 w.heap.size g n (zbl n) M (O1.o.aC m (by simp)) (B1.o.aC m (by simp)) (by omega) (by simp) (by rw[c.o,<-d.o];simp) N);have B2:=aj Y;have R2:=aj W;have D:=aj T;rw[<-d.o];unfold xq at *;go_wp2_with fail
 refine(J1.o).mono ?_;rintro e O ⟨rfl,f,z⟩;rw[aef (by rw[c.o,<-d.o])]at f;have J2:=aj (I6 O w.heap.size g2 n M B f (B2.o.aC z (by simp;omega)) (by omega) (by rw[c.o,<-d.o]) (by rw[c.o,D.o]) N);have F3:Z_ (aB [w.heap.size] w O):=F2.o.nil.trans z;unfold xq at *;go_wp2_with fail
 refine(J2.o).mono ?_;rintro e w4 ⟨rfl,f,U⟩;have l:Z_ (FmQ (.either x y) s A w (zR (xq w.heap.size (s.length+1))) w4):=⟨w.heap.size,sH M B,rfl,f,a0b _,(F3.o.trans U).mono (λk i hm=>by simp at hm;omega),by rw[abC (by rw[c.o,D.o])];exact c,by simp only[Rt];exact R1.o.or R2.o (by rw[c.o,D.o])⟩;rw[<-d.o]at l;unfold xq at *;go_wp2;go_ret;exact l
def anL(x:TR)(lo:Nat)(H:Option Nat)(hx:FmC x):FmC (.often x lo H):=by
 intro w p ga s A h ha hA hs jU AY;obtain⟨n,hn⟩:∃n,n=s.length+1:=⟨_,rfl⟩;obtain⟨a,hk,h1⟩:=h;have c0:=hk.c0;have lV:=bY c0;obtain⟨ca,_,clo,chi⟩:=hk.ends;unfold pq at ca;obtain⟨Zc,Oh,Av⟩:=BJ n (by omega) w;have zX:n<=1000:=by omega
 have:lo<=9:=AY.2.1;have HI9:Z_ (∀m,H=some m->m<=9):=AY.2.2;have HLO:Z_ (∀m,H=some m->lo<=m):=jU.2;have Fa:Z_ (aB [] w (w.alloc (.cells Zc 4))):=(aB.refl [] w).alloc _;have NX:Z_ (∀(W:World) (g:Nat) (M:List Bool),aB [] w W->BO W g M->M.length=s.length+1->zF 85 #[zP a,zT s,zS g n n] W (FmQ x s M W)):=by
  intro W g M r hb E;rw[hn];exact hx W a g s M (RN.aY (dX.of r) h1) hb E hs jU.1 AY.1
 have HC:Z_ (∀W,aB [] w W->zC W p 257 (zP a)/\zC W p 259 (zI lo)/\zC W p 260 (zI (hiT H))):=λW r =>
  ⟨(r.cell (p:=(zB p 257)) lV (by simp)).trans ca,(r.cell (p:=(zB p 259)) lV (by simp)).trans clo,(r.cell (p:=(zB p 260)) lV (by simp)).trans chi⟩
 have U:=aj hn;have uh:=aj Av;have HA:=aj (ha.aC Fa.o (by simp));have HAl:=aj hA;have:=ha.lt;have Gf:w.heap.size<(w.alloc (.cells Zc 4)).heap.size:=by simp
 have HZZ:=aj Gf;have TJ:Z_ (∀(W:World) (B:List Bool),BO W w.heap.size B->aB [] w W->B.length=s.length+1->uM (Rt (.often x lo H)) s A B->FmQ (.often x lo H) s A w (zR (zS w.heap.size n n)) W):=by
  intro W B h1 h2 h3 h4;exact⟨w.heap.size,B,by rw[<-hn],h1,a0b _,h2,h3,h4⟩
 rw[<-hn];clear h1 hk ha hA hx jU AY hs hn Av ca clo chi Gf;unfold aM xq at *;go_enter Tryz.func85,Tryz.ntmps85
 go_wp2_with fail
 go_loopg [2,12] lo (λk v2 v12 wr=>∃(i g:Nat) (M:List Bool),i+k=lo/\v12=zI i/\v2=zS g n n/\BO wr g M/\g≠w.heap.size/\M.length=s.length+1/\uM (sG (Rt x) i) s A M/\BO wr w.heap.size (zbl n)/\aB [] w wr/\w.heap.size<wr.heap.size)
 case atStart=>exact⟨0,ga,A,by omega,rfl,rfl,HA,by omega,HAl,(ah5 s A HAl).congr (λ_=>Iff.rfl),uh,Fa,HZZ⟩
 case round =>
 obtain⟨i,g,M,Ku,rfl,rfl,hb,Y,E,hr,ho,r,hz⟩:=hrel;have B:=aj hb;have HL:=aj E;have R:=aj hr;have O:=aj ho;have F:=aj r;have NE:=aj Y;obtain⟨atX,aw1,J⟩:=HC.o wr r
 by_cases aL:i<lo
 .have T:=aj (NX.o wr g M r hb E)
  go_wp2_with fail
  refine(T.o).mono ?_;rintro e l ⟨t,b,rfl,C,iM,c,d,D⟩;rw[<-U.o];have V:=aj C;have F2:=aj (F.o.trans c);have O2:=aj (O.o.aC c (by simp));have Z:=aj (R.o.step D);have S:=aj d;have z2:=c.size;unfold xq;go_wp2;go_roundg (gk-1)
  case measure=>omega
  case rel=>exact⟨i+1,t,b,by omega,by go_num,rfl,V,by omega,S,Z,O2,F2,by omega⟩
 have hie:i=lo:=by omega
 subst hie;have J1:=aj (I6 wr w.heap.size g n (zbl n) M ho hb (λe=>Y e.symm) (by simp) (by rw[E,<-U.o];simp) zX);unfold xq at J1;go_wp2_with fail
 refine(J1.o).mono ?_;rintro e w2 ⟨rfl,hj,c⟩;rw[aef (by rw[HL.o,<-U.o])]at hj;have F2:Z_ (aB [] w w2):=F.o.above c (by simp);have V:=aj (B.o.aC c (by simpa using NE.o));have z2:=c.size;obtain⟨_,aw2,_⟩:=HC.o w2 F2;go_wp2_with fail
 go_loopg [2,13] (AX M) (λk v2 v13 wr=>∃(j g:Nat) (M B:List Bool),i<=j/\v13=zI j/\v2=zS g n n/\k=AX B/\j+k<=i+n/\(∀m,H=some m->j<=m)/\BO wr g M/\g≠w.heap.size/\M.length=s.length+1/\uM (sG (Rt x) j) s A M/\BO wr w.heap.size B/\B.length=s.length+1/\uM (Btw (Rt x) i j) s A B/\aB [] w wr/\w.heap.size<wr.heap.size)
 case atStart=>exact⟨i,g,M,M,a0b _,rfl,rfl,rfl,by have:=aqK M;have:=HL.o;have:=U.o;omega,HLO,V,NE,HL,R,aj hj,HL,R.o.congr (λ_=>aqG),F2,by omega⟩
 case round =>
 obtain⟨j,g,M,B,NG,rfl,rfl,hk,_,yn,hb,Y,E,hr,ho,jE,X0,r,_⟩:=hrel;have R:=aj hr;have O:=aj ho;have F:=aj r;have f:=aj jE;have BT:=aj X0;have HHI:=aj yn;have HK:=aj hk;obtain⟨_,_,J⟩:=HC.o wr r;have T:=aj (NX.o wr g M r hb E);have L:Z_ ((∀m,H=some m->j+1<=m)->∀(l:World) (t:Nat) (b:List Bool),BO l t b->wr.heap.size<=t->aB [] wr l->b.length=s.length+1->uM (Rt x) s M b->(pF B b=false->FmQ (.often x i H) s A w (zR (zS w.heap.size n n)) l)/\zF 106 #[zS w.heap.size n n,zS t n n] l (λe w'=>e=zR (.bool (pF B b))/\l=w')/\zF 105 #[zS w.heap.size n n,zS t n n] l (λe w'=>e=zQ #[]/\BO w' w.heap.size (sH B b)/\aB [w.heap.size] l w')):=by
  intro hm l t b C iM c d D;have sU:=O.o.aC c (by simp);refine⟨λu=>TJ.o l B sU (F.o.trans c) f.o ?_,ah9 l w.heap.size t n B b sU C (by rw[f.o,<-U.o]) (by rw[f.o,d]) zX,I6 l w.heap.size t n B b sU C (by omega) (by rw[f.o,<-U.o]) (by rw[f.o,d]) zX⟩;simp only[Rt];exact BT.o.done NG (R.o.step D) (λq hq=>akv (by rw[f.o,d]) u q hq) H HHI
 cases H with
 | none =>
   have X:hiT none=-1:=rfl;rw[X]at J;have GC:Z_ (∀m,(none:Option Nat)=some m->j+1<=m):=λm hm=>by simp at hm
   have GO:=aj (L.o GC);go_wp2_with fail
   refine(T.o).mono ?_;rintro e l ⟨t,b,rfl,C,iM,c,d,D⟩;rw[<-U.o];obtain⟨G1,G2,G3⟩:=GO.o l t b C iM c d D;have z:=aj G1;have y:=aj G2;have v:=aj G3;have V:=aj C;have Z:=aj (R.o.step D);have S:=aj d;have F2:=aj (F.o.trans c);have z2:=c.size;have I:Z_ (pF B b=true->AX (sH B b)<AX B):=λu=>by
    obtain⟨q,q1,q2⟩:=Xo (by rw[f.o,d]) u;exact abD (by rw[f.o,d]) q q1 q2
   unfold xq;go_wp2_with fail
   refine(y.o).mono ?_;rintro e w1' ⟨rfl,rfl⟩;cases u:pF B b
   .have N:=aj (z.o u)
    go_wp2;go_ret;exact N
   have au6:=I.o u;go_wp2_with fail
   refine(v.o).mono ?_;rintro e w3 ⟨rfl,G,P⟩;have O3:=aj G;have F3:Z_ (aB [] w w3):=F2.o.above P (by simp);have B3:=aj (V.o.aC P (by simp;omega));have z3:=P.size;have BT3:Z_ (uM (Btw (Rt x) i (j+1)) s A (sH B b)):=(BT.o.or Z.o (by rw[f.o,S.o])).congr (λ_=>aee NG);have HOL:Z_ ((sH B b).length=s.length+1):=by show _=_;rw[abC (by rw[f.o,S.o])];exact f
   have hkk:=HK.o;go_wp2;go_roundg (AX (sH B b))
   case measure=>omega
   case rel=>exact⟨j+1,t,b,sH B b,by omega,by go_num,rfl,rfl,by omega,GC,B3,by omega,S,Z,O3,HOL,BT3,F3,by omega⟩
 | some m =>
   have X:hiT (some m)=(m:Int):=rfl;rw[X]at J;have:=HI9.o m rfl;have:=HHI.o m rfl
   by_cases hjm:j<m
   .have GC:Z_ (∀q,some m=some q->j+1<=q):=λq hq=>by simp at hq;omega
    go_wp2_with fail
    refine(T.o).mono ?_;rintro e l ⟨t,b,rfl,C,iM,c,d,D⟩;rw[<-U.o];obtain⟨G1,G2,G3⟩:=(aj (L.o GC)).o l t b C iM c d D;have Z:=aj (R.o.step D);have S:=aj d;have:=c.size;have I:Z_ (pF B b=true->AX (sH B b)<AX B):=λu=>by
     obtain⟨q,q1,q2⟩:=Xo (by rw[f.o,d]) u;exact abD (by rw[f.o,d]) q q1 q2
    unfold xq;go_wp2_with fail
    refine((aj G2).o).mono ?_;rintro e _ ⟨rfl,rfl⟩;cases u:pF B b
    .have N:=aj ((aj G1).o u)
     go_wp2;go_ret;exact N
    have:=I.o u;go_wp2_with fail
    refine((aj G3).o).mono ?_;rintro e w3 ⟨rfl,G,P⟩;have F3:Z_ (aB [] w w3):=(aj (F.o.trans c)).o.above P (by simp);have B3:=aj ((aj C).o.aC P (by simp;omega));have:=P.size;have BT3:Z_ (uM (Btw (Rt x) i (j+1)) s A (sH B b)):=(BT.o.or Z.o (by rw[f.o,S.o])).congr (λ_=>aee NG);have HOL:Z_ ((sH B b).length=s.length+1):=by show _=_;rw[abC (by rw[f.o,S.o])];exact f
    have:=HK.o;go_wp2;go_roundg (AX (sH B b))
    case measure=>omega
    case rel=>exact⟨j+1,t,b,sH B b,by omega,by go_num,rfl,rfl,by omega,GC,B3,by omega,S,Z,aj G,HOL,BT3,F3,by omega⟩
   have aw3:j=m:=by omega
   subst aw3;have N:Z_ (FmQ (.often x i (some j)) s A w (zR (zS w.heap.size n n)) wr):=TJ.o wr B O.o F.o f.o (by simp only[Rt];exact BT.o.full);go_wp2;go_ret;exact N
def zb:∀t:TR,FmC t
 | .nil=>asG
 | .one b=>asH b
 | .both x y=>aqL x y (zb x) (zb y)
 | .either x y=>akx x y (zb x) (zb y)
 | .often x lo a=>anL x lo a (zb x)
theorem Xp(w:World)(p:Nat)(t:TR)(s:LB)(h:RN w p t)(x:Ua t)(G:Se t)(A:s.length<=900) :
 Calls Tryz.prog 69 #[.pointer (some ⟨p,0,none⟩),.string (bs s)] w λe w'=>∃b,e=.returned (.bool b)/\(b=true↔Rt t (s.map (·.toNat)))/\aB [] w w':=by
 have R:=bL s;obtain⟨n,u⟩:∃n,n=s.length+1:=⟨_,rfl⟩;obtain⟨a,m,c⟩:=BJ n (by omega) w;have f:(n:Int)=(s.length:Int)+1:=by omega
 have T:(Instr.makeSlice 116 (.int .i64 ((s.length:Int)+1)) (.int .i64 ((s.length:Int)+1))).run Tryz.prog w=.ok (.slice (some ⟨w.heap.size,0,none⟩) n n) (w.alloc (.cells a 4)):=by rw[<-f];exact m
 have J:(w.alloc (.cells a 4)).cell? ⟨w.heap.size,0,none⟩=some (.bool false):=by rw[c.cell 0 (by simp;omega)];simp
 have N:=c.fz 0;have E:a=((zbl n).map λb=>Value.bool b).toArray:=by
  have l:=bD w (.cells a 4);unfold BO at c;rw[l]at c;simpa using c
 have j:BO (w.alloc (.cells (a.setIfInBounds 0 (.bool true)) 4)) w.heap.size ((zbl n).set 0 true):=by
  unfold BO;rw[bD,E];have:((zbl n).map λb=>Value.bool b).toArray.setIfInBounds 0 (.bool true)=(((zbl n).set 0 true).map λb=>Value.bool b).toArray:=by
   apply Array.ext';rw[a2d];simp
  rw[this]
 have F1:Z_ (aB [] w (w.alloc (.cells (a.setIfInBounds 0 (.bool true)) 4))):=(aB.refl [] w).alloc _;have d:((zbl n).set 0 true).length=s.length+1:=by simp[u]
 have NF:=aj (zb t _ p w.heap.size s _ (RN.aY (dX.of F1) h) j d A x G);have H:0<n:=by omega
 have M:s.length<n:=by omega
 have S:n<=1000:=by omega
 have L:=aj u;rw[<-u]at NF;have q:Z_ (∀B:List Bool,B.length=s.length+1->uM (Rt t) s ((zbl n).set 0 true) B->(B.getD s.length false=true↔Rt t (s.map (·.toNat)))):=by
  intro B C r;have l:=r s.length;rw[a0a (by omega)]at l;rw[a0x,a0a (by omega)];simp only[Option.some.injEq]at l;simp only[Option.getD_some];rw[l]
  constructor
  .rintro⟨i,v,_,_,k⟩
   have I:i=0:=by
    rw[List.getElem?_set]at v
    by_cases e:0=i
    .exact e.symm
    rw[a0n e,a2K]at v
    split at v<;>simp at v
   subst I;unfold sQ at k;rw[a0C (a0b _),a2j]at k;exact k
  intro k;refine⟨0,by rw[List.getElem?_set];simp;omega,by omega,a0b _,?_⟩;unfold sQ;rw[a0C (a0b _),a2j];exact k
 clear h x G A c j u m f d E;unfold aM xq at NF;go_enter Tryz.func69,Tryz.ntmps69
 go_wp2_with fail
 refine(NF.o).mono ?_;rintro e O ⟨g,B,rfl,hb,P,D,C,r⟩;have c2:=hb.cell s.length (by omega);have F:=aj (q.o B C r);have F2:=aj (F1.o.trans D);rw[<-L.o];have z:B.getD s.length false=B[s.length]'(by omega):=by rw[a0x,a0a (by omega)];rfl
 rw[z]at F;clear z;generalize B[s.length]'(by omega)=y at *;clear hb D r q NF;unfold xq;go_wp2;go_ret;exact⟨y,rfl,F,F2⟩
def Xq(l:LB)(w:World)(hl:l.length<=9000) :
 zF 41 #[zT l] w λe w'=>aqj w e w' (yY l)/\aB [] w w':=by
 have eG:=bL;have hx:=tF;have Bh:=aT;have k0:({ data:=#[] }:ByteArray).toList=[]:=aT _;have kM:qz (w.alloc (Obj.cells (iY.cells ⟨[],zN,-1,-1,-1,zN,false,zN,0,0⟩) 85)) w.heap.size ⟨[],zN,-1,-1,-1,zN,false,zN,0,0⟩:=bD _ _;have uh:=aj kM;clear kM;delta zF;go_in
 go_wp2_with fail
 go_loopg [0] l.length (λk vs wr=>∃(l':LB) (d:Nat),l'.length<=k/\d+l'.length<=l.length/\(bO l').1+d=(bO l).1/\(bO l').2=(bO l).2/\vs=zT l'/\qz wr w.heap.size ⟨[],zN,-1,-1,-1,zN,false,zN,d,0⟩/\aB [] w wr)
 case atStart=>exact⟨l,0,a0b _,by omega,by omega,rfl,rfl,uh,(aB.refl _ _).alloc _⟩
 case round =>
 clear uh;obtain⟨l',d,PW,Ih,gJ,ll,rfl,jW,bH⟩:=hrel;have Hd:=aj (And.intro gJ ll);have Hr:=aj jW;have Hf:=aj bH;clear gJ ll jW bH
 by_cases vB:∃r,l'=32::r
 ·obtain⟨r,rfl⟩:=vB
  have zt:(bs (32::r))[0]'(by rw[eG];simp)=32:=rfl;have bJ:((32::r:LB) == [])=false:=rfl;have c6:zC wr w.heap.size 8 (zI d):=Hr.o.cell 8;have f6:=Hr.o.fz 8;have Am:Z_ ((bO r).1+(d+1)=(bO l).1/\(bO r).2=(bO l).2):=by
   have:=Hd.o;rw[WN 32 r rfl]at this;exact⟨by have:=this.1;simp only at this;omega,this.2⟩
  simp only[a0r]at PW Ih;have hex:List.drop 1 (List.take (r.length+1) (32::r))=r:=by simp
  clear Hd;go_wp2;go_roundg (gk-1)
  case measure=>omega
  case rel=>exact⟨r,d+1,by omega,by omega,Am.o.1,Am.o.2,by simp,Hr.o.set 8 _ _ (by simp[iY.cells]),Hf.o.setCell (by simp) _⟩
 have Am:Z_ (d=(bO l).1/\l'=(bO l).2):=by
  have:=Hd.o;cases l' with
  | nil=>exact⟨by have:=this.1;simp[bO]at this;exact this,this.2⟩
  | cons c r =>
    have hc:(c==32)=false:=by
     rw[a0j];intro e;subst e;exact vB ⟨r,rfl⟩
    rw[aad c r hc]at this;exact⟨by simpa using this.1,by simpa using this.2⟩
 have ayF:l'.length<=9000:=by omega
 have HR:Z_ (yY l=rtW d (dU true 32 l')):=by show _=_;unfold yY;rw[<-Am.o.1,<-Am.o.2]
 have ayG:d<=9000:=by omega
 have au7:(l' == [])=true\/((l' == [])=false/\∃c,(∀h,(bs l')[0]'h=c)/\((c.toNat:Int)==32)=false):=by
  cases l' with
  | nil=>exact Or.inl rfl
  | cons c r =>
    refine Or.inr ⟨rfl,c,λ_=>rfl,?_⟩;rw[a0j];intro e;have:c=32:=a1w.1 (a2N.1 e);subst this;exact vB ⟨r,rfl⟩
 clear Hd Am vB Ih PW;have jE:=Hr.o.lt;have fin:∀(e:Ending) (w':World) (p:Option Addr),yY l=none->e=zQ #[.pointer p,.bool false]->aB [] w w'->aqj w e w' (yY l)/\aB [] w w':=by
  intro e w' p h1 h2 h3;rw[h1];exact⟨⟨p,h2⟩,h3⟩
 have Fin:=aj fin;clear fin;rcases au7 with he|⟨he,c,hc,hc32⟩
 ·have Vz:l'=[]:=by simpa using he
  subst Vz;have Hn:Z_ (yY l=none):=by show _=_;rw[HR.o];rfl
  go_wp2_with fail
  refine(Lj [] 32 true wr (by simp)).mono ?_;rintro e w2 ⟨v,rfl,hs,hf⟩;obtain⟨a,cap,rfl⟩:=hs.shape;have hlen:(dU true 32 []).length=1:=rfl;rw[hlen];have oF:=aj (Hf.o.trans hf);clear hs hf hlen;go_wp2;go_ret2;exact Fin.o _ _ _ Hn.o rfl oF
 have hlp:0<(bs l').size:=by
  rw[eG,a1O];intro e;rw[e]at he;cases he
 have Cm:(bs l')[0]'hlp=c:=hc hlp;clear hc;go_wp2_with fail
 refine(Lj l' 32 true wr (by omega)).mono ?_;rintro e w2 ⟨v,rfl,hs,hf⟩;have kG:=Lr true 32 l';generalize dU true 32 l'=W at *;obtain⟨hWx,hWl,hW1⟩:=kG;obtain⟨a,cap,rfl⟩:=hs.shape;have Hs:=aj ((hs.rs (by omega)).base (base':=w.heap.size+1) (by have:=Hr.o.lt;omega));have Hwl:Z_ (∀x∈W,x.length<=100000):=λx hx=>by have:=hWx x hx;omega
 have Ss:=aj (Hr.o.aC hf (by simp));have oF:=aj (Hf.o.trans hf);have gD:w.heap.size+1<=w2.heap.size:=by have:=Ss.o.lt;omega
 clear hs hf hWx Hr Hf Cm hc32 he hlp
 by_cases hW2:W.length<2
 ·have Hn:Z_ (yY l=none):=by show _=_;rw[HR.o];unfold rtW;simp[hW2]
  have ll:decide ((W.length:Int)<2)=true:=a0g (by omega);go_wp2;go_ret2;exact Fin.o _ _ _ Hn.o rfl oF
 have ll:decide ((W.length:Int)<2)=false:=a0f (by omega);obtain⟨g,off,ha,TA,_,hWc,aO⟩:=Hs.o.Ay (by omega);subst ha;have c0:zC w2 g off (zT (W.getD 0 [])):=aO 0 (by omega);have c1:zC w2 g (off+1) (zT (W.getD 1 [])):=aO 1 (by omega);have kR:({ data:=#[114,111,117,116,101] }:ByteArray).toList=Bn:=aT _;have k45:({ data:=#[45] }:ByteArray).toList=[45]:=aT _;have ayH:(W.getD 1 []).length<=100000:=Hwl.o _ (by rw[a0x,a0a (by omega)];exact a0u _);have tV:Z_ (yY l=if !(W.getD 0 []==Bn) then none
  else if !(aJ (W.getD 1 []))&&!(W.getD 1 [] == [45]) then none
  else match qX (W.drop 2) with
   | none=>none
   | some (told,names,W1)=>match nO 3 (-1,-1,-1) W1 with
     | none=>none
     | some (ts,W2)=>if (dO (W2.length+1) W2 []).2.2 then some ⟨W.getD 1 [],told,names,ts.1,ts.2.1,ts.2.2,(dO (W2.length+1) W2 []).1,(dO (W2.length+1) W2 []).2.1,d⟩ else none):=by
  show _=_;rw[HR.o];unfold rtW;rw[a0f hW2];rfl
 clear aO HR;generalize W.getD 0 []=x0 at *;generalize W.getD 1 []=x1 at *;cases h0:(x0==Bn)
 ·have Hn:Z_ (yY l=none):=by show _=_;rw[tV.o,h0];rfl
  go_wp2;go_ret2;exact Fin.o _ _ _ Hn.o rfl oF
 have p0:zC w2 w.heap.size 0 (.string (bs [])):=Ss.o.cell 0;have pf:=Ss.o.fz 0;go_wp2_with fail
 refine(nH x1 _ (by omega)).mono ?_;rintro e w' ⟨rfl,rfl⟩;have Hr3:=aj (Ss.o.set 0 (zT x1) ⟨x1,zN,-1,-1,-1,zN,false,zN,d,0⟩ rfl);have Yn:=aj ((aB.refl [w.heap.size] w2).setCell (p:=(zA w.heap.size)) (by simp) (zT x1));generalize w2.setCell (zA w.heap.size) (zT x1)=w3 at *;have q0:zC w3 w.heap.size 0 (zT x1):=Hr3.o.cell 0;have PZ:Z_ (yY l=if !(aJ x1)&&!(x1 == [45]) then none
  else match qX (W.drop 2) with
   | none=>none
   | some (told,names,W1)=>match nO 3 (-1,-1,-1) W1 with
     | none=>none
     | some (ts,W2)=>if (dO (W2.length+1) W2 []).2.2 then some ⟨x1,told,names,ts.1,ts.2.1,ts.2.2,(dO (W2.length+1) W2 []).1,(dO (W2.length+1) W2 []).2.1,d⟩ else none):=by
  show _=_;rw[tV.o,h0];rfl
 clear tV c0 c1 p0 pf h0 Ss;go_upto_region 10 with fail
 go_cut [6,60] (λv6 vt wc=>wc=w3/\vt=.bool (!(aJ x1)&&!(x1 == [45])))
 case first =>
  cases UA:aJ x1
  ·cases h45:(x1 == [45])
   all_goals
    go_wp2;go_meet
    case rel=>exact⟨rfl,by rw[UA,h45];rfl⟩
  go_wp2;go_meet
  case rel=>exact⟨rfl,by rw[UA];rfl⟩
 case rest =>
 obtain⟨rfl,rfl⟩:=hcut;cases Ko:(!(aJ x1)&&!(x1 == [45]))
 case true =>
  have Hn:Z_ (yY l=none):=by show _=_;rw[PZ.o,Ko];rfl
  go_wp2;go_ret2;exact Fin.o _ _ _ Hn.o rfl (oF.o.new Yn.o (by simp))
 case false =>
 have HR4:=aj PZ;rw[Ko]at HR4;clear PZ Ko q0;go_upto_region 12 with fail
 have JM:=aj (Hs.o.drop2 2 (by omega));go_cut [5] (λvw w9=>w9=wc/\RS (w.heap.size+1) w2 vw (W.drop 2))
 case first =>
  by_cases oN:cap=2
  ·have Gh:RS (w.heap.size+1) w2 (.slice (some (zB g off)) (W.length-2) 0) (W.drop 2):=⟨some (zB g off),0,by simp,by simp;omega,by simp;omega,λj hj=>by simp at hj;omega⟩
   have su:=aj Gh;clear Gh;go_wp2;go_meet
   case rel=>exact⟨rfl,su⟩
  go_wp2;go_meet
  case rel=>exact⟨rfl,JM⟩
 case rest =>
 obtain⟨rfl,aqM⟩:=hcut;have atZ:∀x∈W.drop 2,x.length<=100000:=λx hx=>Hwl.o x (a1f hx)
 have aw4:(W.drop 2).length<=9001:=by simp;omega
 generalize W.drop 2=V at *;clear Hs JM Hwl hWl hW1 hW2 ll hWc TA;have abn:=aqM;obtain⟨a1,ag0,e1,_,hVc,_⟩:=abn;subst e1;have alW:=aj aqM;have abG:=aj atZ;clear aqM atZ;have kBY:({ data:=#[98,121] }:ByteArray).toList=wBy:=aT _;have aqN:=Yn.o;have SN:1<V.length->∃g off,a1=some (zB g off)/\zC wc g off (zT (V.getD 0 []))/\zC wc g (off+1) (zT (V.getD 1 []))/\(∀wx,aB [w.heap.size] w2 wx->zC wx g (off+1) (zT (V.getD 1 []))):=by
  intro h;obtain⟨g,off,ha,TA,_,_,aO⟩:=alW.o.Ay (by omega);have d0:=aO 0 (by omega);have d1:=aO 1 (by omega);have aL:=World.block_lt_of_cell? w2 _ d1;refine⟨g,off,ha,(aqN.cell (p:=(zB g off)) aL (by simp;omega)).trans d0,(aqN.cell (p:=(zB g (off+1))) aL (by simp;omega)).trans d1,λwx hwx=>(hwx.cell (p:=(zB g (off+1))) aL (by simp;omega)).trans d1⟩
 have afQ:=aj SN;clear SN aqN;go_upto_region 13 with fail
 go_cut [71] (λvt w9=>w9=wc/\vt=.bool (decide (1<V.length)&&(V.getD 0 []==wBy)))
 case first =>
  by_cases h1:1<V.length
  ·obtain⟨g,off,rfl,c0,c1,_⟩:=afQ.o h1
   have gJ:decide ((1:Int)<(V.length:Int))=true:=a0g (by omega);go_wp2;go_meet
   case rel=>exact⟨rfl,by rw[a0g h1];rfl⟩
  have gJ:decide ((1:Int)<(V.length:Int))=false:=a0f (by omega);go_wp2;go_meet
  case rel=>exact⟨rfl,by rw[a0f h1];rfl⟩
 case rest =>
 obtain⟨rfl,rfl⟩:=hcut;have k58:({ data:=#[58] }:ByteArray)=bs [58]:=rfl;have Il:w2.heap.size<=wc.heap.size:=Yn.o.size;go_upto_if 71 with fail
 go_cut [5,6,7,8] (λvw v6 v7 v8 w9=>∃(told:Bool) (names V1:List LB) (ek:Value),qX V=some (told,names,V1)/\V1.length<=9001/\(∀x∈V1,x.length<=100000)/\RS (w.heap.size+1) w2 vw V1/\qz w9 w.heap.size ⟨x1,ek,-1,-1,-1,zN,false,zN,d,0⟩/\SL w2.heap.size w9 ek (byW told names)/\aB [w.heap.size] w2 w9)
 case first =>
  cases xL:(decide (1<V.length)&&(V.getD 0 []==wBy))
  case false =>
   have Hb:Z_ (qX V=some (false,[],V)):=by show _=_;unfold qX;rw[xL];rfl
   go_wp2;go_meet
   case rel=>exact⟨false,[],V,zN,Hb,aw4,abG,alW,Hr3,SL.nil _ _,Yn⟩
  case true =>
  have h1:1<V.length:=by
   rw[a0O,a1E]at xL;exact xL.1
  obtain⟨g,off,rfl,c0,c1,cx⟩:=afQ.o h1;have Hcx:=aj cx;clear cx;have p1:zC wc w.heap.size 1 zN:=Hr3.o.cell 1;have pf:=Hr3.o.fz 1;have Tp:=Hr3.o.lt;have aqO:(V.getD 1 []).length<=100000:=abG.o _ (by rw[a0x,a0a h1];exact a0u _);have dw:Z_ (qX V=if V.getD 1 [] == [45] then some (true,[],V.drop 2)
   else if (dU false 44 (V.getD 1 [])).all aJ&&decide ((dU false 44 (V.getD 1 [])).length<=4) then some (true,Ed (dU false 44 (V.getD 1 [])),V.drop 2) else none):=by
   show _=_;unfold qX;rw[xL];rfl
  have JM:=aj (alW.o.drop2 2 (by omega));generalize V.getD 1 []=x2 at *;go_upto_region 15 with fail
  have Hrd:=aj ((Hr3.o.set 1 (zS wc.heap.size 1 1) ⟨x1,zS wc.heap.size 1 1,-1,-1,-1,zN,false,zN,d,0⟩ rfl).aC (S:=[]) ((aB.refl _ _).alloc (.cells #[.string (bs [58])] 9)) (by simp));have Fd:=aj ((Yn.o.setCell (p:=(zB w.heap.size 1)) (by simp) (zS wc.heap.size 1 1)).alloc (.cells #[.string (bs [58])] 9));have Hsd:Z_ (SL w2.heap.size ((wc.setCell (zB w.heap.size 1) (zS wc.heap.size 1 1)).alloc (.cells #[.string (bs [58])] 9)) (zS wc.heap.size 1 1) [[58]]):=by
   have:=World.ownsRow_lit (base:=w2.heap.size) (e:=9) (size:=1) (wc.setCell (zB w.heap.size 1) (zS wc.heap.size 1 1)) #[.string (bs [58])] 1 (by simp[World.setCell];exact Il) (by unfold maxLen;omega) (by simp);have e:(wc.setCell (zB w.heap.size 1) (zS wc.heap.size 1 1)).heap.size=wc.heap.size:=by simp[World.setCell]
   rw[e]at this;exact this
  generalize aw5:wc.heap.size=bb at *;generalize (wc.setCell (zB w.heap.size 1) (zS bb 1 1)).alloc (.cells #[.string (bs [58])] 9)=w5 at *;have c1':zC w5 g (off+1) (zT x2):=Hcx.o w5 Fd;have Fu:w2.heap.size<=w5.heap.size:=Fd.o.size;clear p1 pf c0 c1 aw5;have slc:∀(v5:Value) (w9:World),qz w9 w.heap.size ⟨x1,v5,-1,-1,-1,zN,false,zN,d,0⟩->True:=λ_ _ _=>trivial
  clear slc;cases h45:(x2 == [45])
  case true =>
   have Hb:Z_ (qX V=some (true,[],V.drop 2)):=by show _=_;rw[dw.o,h45];rfl
   by_cases oN:ag0=2
   ·have Gh:RS (w.heap.size+1) w2 (.slice (some (zB g off)) (V.length-2) 0) (V.drop 2):=⟨some (zB g off),0,by simp,by simp;omega,by simp;omega,λj hj=>by simp at hj;omega⟩
    have su:=aj Gh;clear Gh;go_wp2;go_meet
    case rel=>exact⟨true,[],V.drop 2,_,Hb,by simp;omega,λx hx=>abG.o x (a1f hx),su,Hrd,Hsd,Fd⟩
   go_wp2;go_meet
   case rel=>exact⟨true,[],V.drop 2,_,Hb,by simp;omega,λx hx=>abG.o x (a1f hx),JM,Hrd,Hsd,Fd⟩
  case false =>
  go_wp2_with fail
  refine(Lj x2 44 false w5 (by omega)).mono ?_;rintro e w6 ⟨v6,rfl,hs6,Fs⟩;have kG:=Lr false 44 x2;obtain⟨hNx,hNl,hN1⟩:=kG;have HNx:=aj hNx;have qK:Z_ (qX V=if (dU false 44 x2).all aJ&&decide ((dU false 44 x2).length<=4) then some (true,Ed (dU false 44 x2),V.drop 2) else none):=by
   show _=_;rw[dw.o,h45];rfl
  clear dw hNx h45;generalize dU false 44 x2=N at *;obtain⟨aN,ayI,rfl⟩:=hs6.shape;have HsN:=aj ((hs6.rs (by omega)).base (base':=0) (a1G _));have Hr6:=aj (Hrd.o.aC Fs (by simp));have Hs6:=aj (Hsd.o.aC Fs (by simp));have F6:=aj (Fd.o.trans Fs.nil);clear hs6 Fs;have at0:Z_ (((N.all aJ&&decide (N.length<=4))=false)->yY l=none):=by
   intro h;rw[HR4.o,qK.o,h];rfl
  have hfw:Z_ (∀wx,aB [w.heap.size] w2 wx->aB [] w wx):=λwx h=>oF.o.new h (by simp)
  go_wp2_with fail
  go_loopg [6,8] N.length (λk v6 vi wr=>∃(j:Nat),j+k=N.length/\vi=zI j/\(N.take j).all aJ=true/\wr=w6)
  case atStart=>exact⟨0,by omega,rfl,by simp,rfl⟩
  case round =>
   obtain⟨j,hj,rfl,ja,hw6⟩:=hrel;subst hw6;have oL:=aj ja;clear ja
   by_cases aL:j<N.length
   ·obtain⟨a',xK,e,_,_,h3⟩:=HsN.o
    simp at e;obtain⟨e1,e2⟩:=e;subst e1 e2;obtain⟨gN,ayJ,h4,_,h6⟩:=h3 j aL;subst h4;clear h3;have hyl:=HNx.o _ (a0u aL);have Ht:Z_ (N.take (j+1)=N.take j++[N[j]]):=a0F aL;have Hm:Z_ (N[j]∈N):=a0u aL;generalize N[j]=y at *;go_wp2_with fail
    refine(nH y _ (by omega)).mono ?_;rintro e w' ⟨rfl,rfl⟩;cases hny:aJ y
    ·have Hn:Z_ (yY l=none):=at0.o (by
      have:N.all aJ=false:=by
       rw[a2p];intro ha;have:=a1d.1 ha y Hm;rw[hny]at this;cases this
      rw[this];rfl)
     go_wp2;go_ret2;exact Fin.o _ _ _ Hn.o rfl (hfw.o _ F6)
    have zu:Z_ ((N.take (j+1)).all aJ=true):=by
     show _=_;rw[Ht.o,a2c,oL.o];simp[hny]
    go_wp2;go_roundg (gk-1)
    case measure=>omega
    case rel=>exact⟨j+1,by omega,by go_num,zu,rfl⟩
   have adO:Z_ (N.all aJ=true):=by
    have:=oL.o;rw[a0C (by omega)]at this;exact this
   by_cases h4:4<N.length
   ·have Hn:Z_ (yY l=none):=at0.o (by rw[a0f (by omega)];simp)
    have hd4:decide ((4:Int)<(N.length:Int))=true:=a0g (by omega);go_wp2;go_ret2;exact Fin.o _ _ _ Hn.o rfl (hfw.o _ F6)
   have hd4:decide ((4:Int)<(N.length:Int))=false:=a0f (by omega);have Hb:Z_ (qX V=some (true,Ed N,V.drop 2)):=by
    show _=_;rw[qK.o,adO.o,a0g (by omega)];rfl
   have rJ:=anp N;obtain⟨ayK,aa0⟩:=rJ;have vB:=aa0 hN1;go_wp2_with fail
   refine(ahR N wr HsN.o (by omega)).mono ?_;rintro e w7 ⟨v7,rfl,hs7,Aj⟩;have Hr7:=aj (Hr6.o.aC Aj (by simp));have Hs7:=aj (Hs6.o.aC Aj (by simp));have F7:=aj (F6.o.trans Aj.nil);obtain⟨a7,c7,e7⟩:=hs7.shape;obtain⟨g7,hg7⟩:∃g7,a7=some (zA g7):=by
    rcases hs7.2 with⟨e,h⟩|⟨g,c,cur,e,_⟩
    ·omega
    rw[e7]at e;simp at e;exact⟨g,e.1⟩
   subst hg7 e7;have HN7:=aj hs7;have Nw:w2.heap.size<=w7.heap.size:=F7.o.size;have p1:zC w7 w.heap.size 1 (zS bb 1 1):=Hr7.o.cell 1;clear hs7 Aj;generalize Ed N=M at *;have Ko:=(Hs7.o.lt bb rfl).1
   by_cases oN:ag0=2
   ·have Gh:RS (w.heap.size+1) w2 (.slice (some (zB g off)) (V.length-2) 0) (V.drop 2):=⟨some (zB g off),0,by simp,by simp;omega,by simp;omega,λj hj=>by simp at hj;omega⟩
    have su:=aj Gh;clear Gh;go_wp2_with (first | (at_builtin;refine adW rfl rfl w2.heap.size wr.heap.size (zS bb 1 1) [[58]] M g7 c7 rfl Hs7.o rfl HN7.o (by omega) (by simp;omega) Nw ?_;intro gb Js w8 hs8 hg8 hb8;have Hs8:=aj hs8;have F78:=aB.Bt hg8;have Hr8:=aj (Hr7.o.aC F78 (by simp;omega));have F8:=aj (F7.o.grown hg8 (λk hk=>by simp[Value.ownBlock]at hk;omega));have p8:=Hr8.o.cell 1;have f8:=Hr8.o.fz 1;clear hs8 hg8 F78))
    go_meet
    case rel=>exact⟨true,M,V.drop 2,zS gb (1+M.length) Js,Hb,by simp;omega,λx hx=>abG.o x (a1f hx),su,Hr8.o.set 1 _ _ rfl,(Hs8.o.aC (S:=[w.heap.size]) ((aB.refl _ _).setCell (by simp) _) (by simp;omega)),F8.o.setCell (by simp) _⟩
   skip
   go_wp2_with (first | (at_builtin;refine adW rfl rfl w2.heap.size wr.heap.size (zS bb 1 1) [[58]] M g7 c7 rfl Hs7.o rfl HN7.o (by omega) (by simp;omega) Nw ?_;intro gb Js w8 hs8 hg8 hb8;have Hs8:=aj hs8;have F78:=aB.Bt hg8;have Hr8:=aj (Hr7.o.aC F78 (by simp;omega));have F8:=aj (F7.o.grown hg8 (λk hk=>by simp[Value.ownBlock]at hk;omega));have p8:=Hr8.o.cell 1;have f8:=Hr8.o.fz 1;clear hs8 hg8 F78))
   go_meet
   case rel=>exact⟨true,M,V.drop 2,zS gb (1+M.length) Js,Hb,by simp;omega,λx hx=>abG.o x (a1f hx),JM,Hr8.o.set 1 _ _ rfl,(Hs8.o.aC (S:=[w.heap.size]) ((aB.refl _ _).setCell (by simp) _) (by simp;omega)),F8.o.setCell (by simp) _⟩
 case rest =>
 obtain⟨told,names,V1,ek,hbs,aw6,at1,yR,jW,rJ,hfc⟩:=hcut;have F:=aj hfc;have uW:=aj jW;have L9:=aj rJ;have IG:Z_ (yY l=match nO 3 (-1,-1,-1) V1 with
       | none=>none
       | some (ts,W2)=>if (dO (W2.length+1) W2 []).2.2 then some ⟨x1,told,names,ts.1,ts.2.1,ts.2.2,(dO (W2.length+1) W2 []).1,(dO (W2.length+1) W2 []).2.1,d⟩ else none):=by
  show _=_;rw[HR4.o,hbs];rfl
 clear HR4 hbs hfc jW rJ afQ alW abG Yn Hr3 Il;have kw0:({ data:=#[119,97,105,116] }:ByteArray)=bs Az:=rfl;have kw1:({ data:=#[101,118,101,114,121] }:ByteArray)=bs vQ:=rfl;have kw2:({ data:=#[114,101,112,101,97,116] }:ByteArray)=bs rW:=rfl;have at5:=bD wc (Obj.cells #[zT Az,zT vQ,zT rW] 9);have at6:=aj at5;have Il:w2.heap.size<=wc.heap.size:=F.o.size;have Frb:=aj (uW.o.aC (S:=[]) ((aB.refl _ _).alloc (Obj.cells #[zT Az,zT vQ,zT rW] 9)) (by simp));have Fsl:=aj (L9.o.aC (S:=[]) ((aB.refl _ _).alloc (Obj.cells #[zT Az,zT vQ,zT rW] 9)) (by simp));have FF:=aj (F.o.alloc (Obj.cells #[zT Az,zT vQ,zT rW] 9));clear at5 uW L9 F;have abn:=aj yR;have aqP:=aj at1;clear yR at1;go_wp2_with fail
 generalize aw7:wc.heap.size=bw at *;have ayL:w.heap.size<bw:=by omega
 clear aw7;go_loopg [5,10] 3 (λk vw vi wr=>∃(t0 t1 t2:Int) (W':List LB),k<=3/\vi=zI (3-k:Nat)/\W'.length<=9001/\(∀x∈W',x.length<=100000)/\RS (w.heap.size+1) w2 vw W'/\qz wr w.heap.size ⟨x1,ek,t0,t1,t2,zN,false,zN,d,0⟩/\SL w2.heap.size wr ek (byW told names)/\aB [w.heap.size] w2 wr/\wr.heap[bw]?=some (.cells #[zT Az,zT vQ,zT rW] 9 (0,0))/\nO k (t0,t1,t2) W'=nO 3 (-1,-1,-1) V1)
 case atStart=>exact⟨-1,-1,-1,V1,a0b _,rfl,aw6,aqP,abn,Frb,Fsl,FF,at6,rfl⟩
 case round =>
  clear Frb Fsl FF at6 abn aqP;obtain⟨t0,t1,t2,W',Vo,rfl,hWl,hwx,yR,jW,rJ,hf,ZU,htm⟩:=hrel;have JO:=aj hwx;have ED:=aj yR;have uW:=aj jW;have L9:=aj rJ;have F:=aj hf;have EK:=aj ZU;have Htm:=aj htm;have Jo:=jW.lt;obtain⟨aw,aqQ,ew,_,hWc,_⟩:=yR;subst ew;clear hwx jW rJ hf ZU htm
  by_cases hg:gk=0
  case neg =>
   obtain⟨j,hj⟩:∃j,j+gk=3:=⟨3-gk,by omega⟩;rw[show 3-gk=j by omega];obtain⟨ky,tt,up,q0,pt,dY,Ju⟩:∃(ky:LB) (tt:Int) (up:Int->Int × Int × Int),zC wr bw j (zT ky)/\zC wr w.heap.size (2+j) (zI tt)/\(nO 3 (-1,-1,-1) V1=if decide (1<W'.length)&&(W'.getD 0 []==ky) then
    (if decide (iR (W'.getD 1 [])<0) then none else nO (gk-1) (up (iR (W'.getD 1 []))) (W'.drop 2)) else nO (gk-1) (t0,t1,t2) W')/\∀n:Int,qz (wr.setCell (zB w.heap.size (2+j)) (zI n)) w.heap.size ⟨x1,ek,(up n).1,(up n).2.1,(up n).2.2,zN,false,zN,d,0⟩:=by
    rcases(show gk=3\/gk=2\/gk=1 by omega) with rfl|rfl|rfl
    ·obtain rfl:j=0:=by omega
     exact⟨Az,t0,λn=>(n,t1,t2),by simp[World.cell?,EK.o],uW.o.cell 2,by rw[<-Htm.o];rfl,λn=>uW.o.set 2 _ ⟨x1,ek,n,t1,t2,zN,false,zN,d,0⟩ rfl⟩
    ·obtain rfl:j=1:=by omega
     exact⟨vQ,t1,λn=>(t0,n,t2),by simp[World.cell?,EK.o],uW.o.cell 3,by rw[<-Htm.o];rfl,λn=>uW.o.set 3 _ ⟨x1,ek,t0,n,t2,zN,false,zN,d,0⟩ rfl⟩
    obtain rfl:j=2:=by omega
    exact⟨rW,t2,λn=>(t0,t1,n),by simp[World.cell?,EK.o],uW.o.cell 4,by rw[<-Htm.o];rfl,λn=>uW.o.set 4 _ ⟨x1,ek,t0,t1,n,zN,false,zN,d,0⟩ rfl⟩
   have pf:=uW.o.fz (2+j);have dw:=aj dY;have HS:=aj Ju;have xg:j<3:=by omega
   have HJ:Z_ (3-(gk-1)=j+1):=by show _=_;omega
   clear dY Ju Htm
   by_cases h1:1<W'.length
   case neg =>
    have gJ:decide ((1:Int)<(W'.length:Int))=false:=a0f (by omega);have Hx:Z_ (nO (gk-1) (t0,t1,t2) W'=nO 3 (-1,-1,-1) V1):=by show _=_;rw[dw.o,a0f h1];rfl
    go_wp2;go_quiet (fail)
    go_wp2;go_roundg (gk-1)
    case measure=>omega
    case rel=>exact⟨t0,t1,t2,W',by omega,by rw[HJ.o];go_num,hWl,JO,ED,uW,L9,F.o.drewN _,EK,Hx⟩
   case pos =>
   have gJ:decide ((1:Int)<(W'.length:Int))=true:=a0g (by omega);obtain⟨g,off,ha,TA,_,_,aO⟩:=ED.o.Ay (by omega);subst ha;have d0:=aO 0 (by omega);have d1:=aO 1 (by omega);have Xr:=World.block_lt_of_cell? w2 _ d1;have c0:zC wr g off (zT (W'.getD 0 [])):=(F.o.cell (p:=(zB g off)) Xr (by simp;omega)).trans d0;have c1:zC wr g (off+1) (zT (W'.getD 1 [])):=(F.o.cell (p:=(zB g (off+1))) Xr (by simp;omega)).trans d1;have aqO:(W'.getD 1 []).length<=100000:=JO.o _ (by rw[a0x,a0a h1];exact a0u _);have JM:=aj (ED.o.drop2 2 (by omega));clear aO d0 d1;generalize W'.getD 0 []=y0 at *;generalize W'.getD 1 []=y1 at *;cases hy:(y0==ky)
   case false =>
    have Hx:Z_ (nO (gk-1) (t0,t1,t2) W'=nO 3 (-1,-1,-1) V1):=by show _=_;rw[dw.o,hy];simp
    go_wp2;go_quiet (fail)
    go_wp2;go_roundg (gk-1)
    case measure=>omega
    case rel=>exact⟨t0,t1,t2,W',by omega,by rw[HJ.o];go_num,hWl,JO,ED,uW,L9,F.o.drewN _,EK,Hx⟩
   case true =>
   have qK:Z_ (nO 3 (-1,-1,-1) V1=if decide (iR y1<0) then none else nO (gk-1) (up (iR y1)) (W'.drop 2)):=by
    show _=_;rw[dw.o,hy,a0g h1];rfl
   generalize IA:iR y1=nn at *
   by_cases AV:nn<0
   ·have Lp:decide (nn<0)=true:=a0g AV
    have Hn:Z_ (yY l=none):=by show _=_;rw[IG.o,qK.o,Lp];rfl
    go_wp2;go_quiet (fail)
    go_wp2_with fail
    go_region_with (go_at_call 61;refine(mW y1 (by omega)).mono ?_;rintro e w' ⟨rfl,rfl⟩;rw[IA])
    go_wp2;go_ret2;exact Fin.o _ _ _ Hn.o rfl (oF.o.new ((F.o.drewN _).setCell (by simp) _) (by simp))
   have Lp:decide (nn<0)=false:=a0f AV;have Hx:Z_ (nO (gk-1) (up nn) (W'.drop 2)=nO 3 (-1,-1,-1) V1):=by
    show _=_;rw[qK.o,Lp];rfl
   have su:Z_ (∀c,aqQ=2/\c=0->RS (w.heap.size+1) w2 (.slice (some (zB g off)) (W'.length-2) c) (W'.drop 2)):=by
    rintro c ⟨oN,rfl⟩;exact⟨some (zB g off),0,by simp,by simp;omega,by simp;omega,λj hj=>by simp at hj;omega⟩
   by_cases oN:aqQ=2
   all_goals
    go_wp2;go_quiet (fail)
    go_wp2_with fail
    go_region_with (go_at_call 61;refine(mW y1 (by omega)).mono ?_;rintro e w' ⟨rfl,rfl⟩;rw[IA])
    go_wp2;go_roundg (gk-1)
    case measure=>omega
    case rel=>exact⟨_,_,_,W'.drop 2,by omega,by rw[HJ.o];go_num,by simp;omega,λx hx=>JO.o x (a1f hx),(by first | exact JM.o|exact su.o _ ⟨oN,rfl⟩),HS.o nn,(L9.o.aC (S:=[w.heap.size]) (((aB.refl [w.heap.size] wr).drewN _).setCell (p:=(zB w.heap.size (2+j))) (by simp) (zI nn)) (by simp;omega)),(F.o.drewN _).setCell (by simp) _,(((aB.refl [w.heap.size] wr).setCell (p:=(zB w.heap.size (2+j))) (by simp) (zI nn)).block bw (a0c.1 EK).1 (by simp;omega)).trans EK,Hx⟩
  case pos =>
   subst hg;have HR6:Z_ (yY l=if (dO (W'.length+1) W' []).2.2 then some ⟨x1,told,names,t0,t1,t2,(dO (W'.length+1) W' []).1,(dO (W'.length+1) W' []).2.1,d⟩ else none):=by
    show _=_;rw[IG.o,<-Htm.o];rfl
   clear IG;have aw8:=aj (ED.o.aC F.o (by simp));go_wp2_with fail
   refine(ano w.heap.size (w.heap.size+1) W' ⟨x1,ek,t0,t1,t2,zN,false,zN,d,0⟩ wr uW.o aw8.o (by omega) rfl rfl (by omega) JO).mono ?_;rintro e w' ⟨rfl,⟨vi',E4,hi'⟩,hf'⟩;have Hb':=aj E4;have Hi':=aj hi';have F':=aj hf';have hzr:w.heap.size<=wr.heap.size:=by omega
   clear E4 hi' hf';generalize dO (W'.length+1) W' []=RES at *;obtain⟨ra,ro,rk⟩:=RES;go_wp2;go_ret2;have hF:aB [] w w':=oF.o.new (F.o.trans F') (by simp);refine⟨?_,hF⟩;rw[HR6.o];cases rk with
   | false=>exact⟨_,rfl⟩
   | true=>exact⟨w.heap.size,_,a0b _,rfl,⟨Hb',rfl,wQ (L9.o.aC F'.o (by simp;omega)) (by omega),rfl,rfl,rfl,wQ Hi'.o hzr,rfl,rfl,rfl,rfl⟩⟩
end
section
variable {ops:Array Oper} {rest:List Oper} {a:Act} {w w':World} {x y:Value} {n:Nat} {α:Type} {s:Operand} {L W:List LB} {R:List RR} {v:Value} {l p r:LB}
def alX:(Tryz.prog.info? 57).map (λi=>(i.zero,i.size,i.bytes))=some (some (.pointer none),1,8):=by kernel_rfl
def abH {o:Oper} {Q:Exit->Act->World->Prop}(f:o.guard=none){x:Operand}
 (ho:o.op=.call { callee:=.builtin .append,args:=#[s,x],argTypes:=#[58,58] })
 (base:Nat) (v:Value) (B:LN) (b b1:Nat) (k:a.eval s=v) (y:LP base w v B) (c:a.eval x=zS b1 1 1)
 (m:zC w b1 0 (tC b)) (hlen:B.length<=1048576) (e:base<=w.heap.size)
 (h:∀g cap w',LP base w' (zS g (B.length+1) cap) (B++[b])->w.grownBy w' v.ownBlock->(v.ownBlock=some g\/g=w.heap.size)->wpList Tryz.prog ops Q rest (a.put o.dst (zS g (B.length+1) cap)) w') :
 wpList Tryz.prog ops Q (o::rest) a w:=by
 obtain⟨i,l,gT,t,r⟩:=info_parts alX;refine wpList_append_lies w f s x 58 ho base 57 i (.pointer none) 1 8 Tryz.underlying58 l gT t r rfl (by decide) v B.length (B.map tC) k y (zA b1) 1 1 [tC b] c rfl ?_ (λx c=>by simp at c;subst c;rfl) (by decide) (by unfold maxLen;omega) (by omega) e w.heap.size rfl ?_
 .intro j u d
  have:j=0:=by
   cases j with
   | zero=>rfl
   | succ j=>simp at d
  subst this;rw[add0];simp at d;rw[<-d];exact m
 intro g cap w' q p n z;exact h g cap w' (by unfold LP;simpa using q) p n
def grE(cb:Nat)(f:Nat × Nat):Ending:=zQ #[if f.1=0 then tC cb else .pointer none,zI f.1,zI f.2]
def aeg(h:uJ R=n)(a:n≠0):xh L R=(3,n):=by unfold xh;rw[h,a0m a]
def aqR(h:uJ R=0)(hd:mq [] L=true):xh L R=(4,1):=by unfold xh;rw[h,a0n (by simp),a0m hd]
def anM(h:uJ R=0)(hd:mq [] L=false)(a:lN L R 0=n)(b:n≠0):xh L R=(4,n):=by unfold xh;rw[h,a0n (by simp),hd,a,a0m b];rfl
def asI(h:uJ R=0)(hd:mq [] L=false)(a:lN L R 0=0):xh L R=(0,0):=by unfold xh;rw[h,a0n (by simp),hd,a];rfl
theorem abI(h:0<R.length):uJ R=pX R 0 0:=by
 unfold uJ;cases R with
 | nil=>simp at h
 | cons=>rfl
theorem Xt {X:List (Nat × iY × RR)} {j:Nat} {x:Nat × iY × RR}(h:X[j]?=some x):sD (xd (X.take (j+1)))=IM (sD (xd (X.take j))) (x.1,x.2.2.d):=by unfold sD xd;rw[a1c,h];simp
def GP(w:World)(cb:Nat)(vr a:Value)(L:List LB)(X:List (Nat × iY × RR))(e:Ending)(w':World):Prop :=
 e=grE cb (xh L (X.map (·.2.2)))/\aB (cb::X.map (·.1)) w w'/\((xh L (X.map (·.2.2))).1=0->∃K:Nat->Value,sw w' cb vr (tC ((X.map (·.1)).getD 0 0)) a/\(∀x∈X,qz w' x.1 { x.2.1 with vk:=K x.1 })/\∀x∈X,LP w.heap.size w' (K x.1) ((sD (xd X)).2 x.1))
def GP.bad {cb:Nat} {vr b:Value} {L:List LB} {X:List (Nat × iY × RR)} {e:Ending}{l:Nat}(h:xh L (X.map (·.2.2))=(n+1,l))(he:e=grE cb (n+1,l))(c:aB (cb::X.map (·.1)) w w'):GP w cb vr b L X e w' :=
 ⟨by rw[h];exact he,c,λa=>by rw[h]at a;simp at a⟩
theorem afR:∀(L:List LB) (x:LB) (j:Nat),(∃k,L.findIdx? (·==x)=some k/\k<j)↔x∈L.take j
 | [],x,j=>by simp
 | y::L,x,0=>by simp
 | y::L,x,j+1=>by
   rw[List.findIdx?_cons,a2J]
   by_cases h:(y==x)=true
   .rw[a0m h]
    have:y=x:=by simpa using h
    subst this;simp
   rw[a0n h];have c:x≠y:=λe=>h (by simp[e])
   rw[a0l,<-afR L x j]
   constructor
   .rintro⟨k,a,d⟩
    cases hh:L.findIdx? (·==x) with
    | none=>simp[hh]at a
    | some b=>simp[hh]at a;exact .inr ⟨b,rfl,by omega⟩
   rintro(e|⟨k,a,d⟩)
   .exact(c e).elim
   exact⟨k+1,by simp[a],by omega⟩
theorem anN{j:Nat}{x:LB}(a:x∈L):decide (oI L x<(j:Int))=(L.take j).contains x:=by
 have h:=afR L x j;rw[a0T,a1E,List.contains_iff_mem,<-h];unfold oI;cases hh:L.findIdx? (·==x) with
 | none=>have:=a2C.1 hh x a;simp at this
 | some k=>simp
theorem anO{x:LB}:decide (oI L x<0)=!(L.contains x):=by
 have h:=afR L x L.length;rw[a2h]at h;unfold oI;cases hh:L.findIdx? (·==x) with
 | none =>
   have:x∉L:=λb=>by obtain⟨k,a,_⟩:=h.2 b;rw[hh]at a;simp at a
   simp[this]
 | some k =>
   have a:k<L.length:=by have:=(List.findIdx?_eq_some_iff_findIdx_eq.1 hh).1;exact this
   have:x∈L:=h.1 ⟨k,hh,a⟩;simp[this]
def aqS {o:Oper} {Q:Exit->Act->World->Prop}(f:o.guard=none){x:Operand}
 (ho:o.op=.call { callee:=.builtin .append,args:=#[s,x],argTypes:=#[58,58] })
 (base:Nat) (v:Value) (n:Nat) (xs:List Value) (b b1:Nat) (k:a.eval s=v) (z:w.ownsRow base 57 1 v n xs) (c:a.eval x=zS b1 1 1)
 (m:zC w b1 0 (tC b)) (hlen:n<=1048576) (e:base<=w.heap.size)
 (h:∀g cap w',w'.ownsRow base 57 1 (zS g (n+1) cap) (n+1) (xs++[tC b])->w.grownBy w' v.ownBlock->(v.ownBlock=some g\/g=w.heap.size)->wpList Tryz.prog ops Q rest (a.put o.dst (zS g (n+1) cap)) w') :
 wpList Tryz.prog ops Q (o::rest) a w:=by
 obtain⟨i,l,gT,y,t⟩:=info_parts alX;refine wpList_append_lies w f s x 58 ho base 57 i (.pointer none) 1 8 Tryz.underlying58 l gT y t rfl (by decide) v n xs k z (zA b1) 1 1 [tC b] c rfl ?_ (λx c=>by simp at c;subst c;rfl) (by decide) (by unfold maxLen;omega) (by omega) e w.heap.size rfl ?_
 .intro j u d
  have:j=0:=by
   cases j with
   | zero=>rfl
   | succ j=>simp at d
  subst this;rw[add0];simp at d;rw[<-d];exact m
 intro g cap w' r q p A;exact h g cap w' r q p
def Ja{t:TypeId}(h:w.heap.size=n):zC (w.alloc (.cells #[v] t)) n 0 v:=by subst h;simp
theorem uN{a:Addr}:(w.setCell a v).heap.size=w.heap.size:=by simp[World.setCell]
def sw.set1 {b:Nat}{z:Value}(h:sw w b x y z)(v:Value):sw (w.setCell (zB b 1) v) b x v z:=by unfold sw at *;simp[World.setCell,a0v,h]
def LP.some {base:Nat} {a:Option Addr}{cap:Nat} {B:LN}(h:LP base w (.slice a n cap) B)(d:0<B.length):∃g,a=some (zA g)/\n=B.length/\B.length<=cap:=by
 rcases h.2 with⟨_,e⟩|⟨g,c,cur,e,_,_,b,_⟩
 .omega
 simp at e;obtain⟨rfl,rfl,rfl⟩:=e;exact⟨g,rfl,rfl,b⟩
def aky(cb base:Nat)(vr vl:Value)(L:List LB)(X:List (Nat × iY × RR))(w:World)(hc:sw w cb vr (.pointer none) vl)
 (hs:∀w',aB (cb::X.map (·.1)) w w'->RS 0 w' vr L/\LP base w' vl (X.map (·.1)))
 (hx:∀x∈X,Dq base w x.1 x.2.1 x.2.2/\x.2.1.vk=zN) (iG:∀(i:Nat) x,X[i]?=some x->x.2.1.row=(i:Int)+2) (hcx:∀x∈X,x.1≠cb) (qH:(X.map (·.1)).Nodup) (hL:L.length<=9000) (hX:X.length<=9000) (qd:∀x∈X,x.2.2.d<=9000) :
 zF 42 #[tC cb] w (GP w cb vr vl L X):=by
 have Bh:=aT;have k45:({ data:=#[45] }:ByteArray).toList=[45]:=aT _;have Hc:=aj hc;have Hs:=aj hs;have Hx:=aj hx;have alR:=aj iG;have Hcx:=aj hcx;have Hdd:=aj qd;have uA:=hc.lt;have G0:GI w w cb X (λ_=>zN) (λ_=>[]) [] zN 0:=by
  refine⟨λx hx=>(Hx.o x hx).1.at_.lt,λx hx=>?_,λx hx=>⟨a0b _,World.ownsRow_nil _ _ _ _⟩,by simp[Value.ownBlock],by simp[Value.ownBlock],World.ownsRow_nil _ _ _ _,by simp,aB.refl _ _⟩;have h1:=(Hx.o x hx).1.at_;have h2:=(Hx.o x hx).2;rw[show({ x.2.1 with vk:=zN }:iY)=x.2.1 by rw[<-h2]];exact h1
 have HG0:=aj G0;obtain⟨b0,kM⟩:∃b0,(X.map (·.1)).getD 0 0=b0:=⟨_,rfl⟩;have uh:=aj kM;clear kM;obtain⟨⟨ar,cr,hvr,-,rP,-⟩,Vz⟩:=hs w (aB.refl _ _);obtain⟨al,cl,Af⟩:=aW Vz;rw[a0y]at Af;subst hvr Af;clear hc hs hx iG hcx qd G0 Vz qH;show zF 42 #[zP cb] w _;delta zF;go_in
 go_wp2_with fail
 go_loopg [5,6] X.length (λk vw vi wr=>∃(j:Nat) (K:Nat->Value) (C:Nat->LN) (B:LN) (vt:Value),j+k=X.length/\vi=zI j/\(∃aw cw,vw=.slice aw B.length cw)/\GI w wr cb X K C B vw j/\sD (xd (X.take j))=(B,C)/\sw wr cb (.slice ar L.length cr) vt (.slice al X.length cl)/\(j=0->vt=.pointer none/\vw=zN)/\(0<j->vt=zP b0)/\pX ((X.map (·.2.2)).drop j) j B.length=pX (X.map (·.2.2)) 0 0)
 case atStart=>exact⟨0,_,_,[],_,by omega,rfl,⟨_,_,rfl⟩,HG0,rfl,Hc,λ_=>⟨rfl,rfl⟩,λh=>by omega,by simp⟩
 case round =>
 obtain⟨j,K,C,B,vt,lU,Io,⟨aw,cw,hvw⟩,YI,XL,kG,h0,h1,iD⟩:=hrel;subst Io hvw;clear HG0 Hc;have Da:=aj YI;have HBC:=aj XL;clear XL;have Hcb:=aj kG;have H0:=aj h0;have H1:=aj h1;have Gu:=aj iD;have hzr:=YI.aC.size;have hcw:=kG.lt;have Yv:=(Hs.o _ YI.aC).2;have c0:zC wr cb 0 (.slice ar L.length cr):=kG.cell 0;have c1:zC wr cb 1 vt:=kG.cell 1;have c2:zC wr cb 2 (.slice al X.length cl):=kG.cell 2;have f1:=kG.fz 1
 by_cases aL:j<X.length
 ·obtain⟨m,rfl⟩:∃m,gk=m+1:=⟨gk-1,by omega⟩
  have gJ:decide ((j:Int)<(X.length:Int))=true:=a0g (by omega);obtain⟨gl,ja,-,hlc⟩:=Yv.some (by simp;omega);subst ja;rw[a0y]at hlc;have cj:zC wr gl j (tC X[j].1):=by
   have:=Yv.cell j (by simpa using aL);simpa using this
  have Dr:X[j]∈X:=a0u aL;have hq:=(Hx.o _ Dr).1;have iG:=alR.o j _ (a0a aL);have jW:=YI.rb _ Dr;have jP:=Hdd.o _ Dr;have dw:Z_ (pX (X.map (·.2.2)) 0 0=if (!(uX j X[j].2.2)&&!(qY j B.length X[j].2.2))||decide (5<X[j].2.2.d)||decide (16<=j) then j+2 else pX ((X.map (·.2.2)).drop (j+1)) (j+1) (X[j].2.2.d+1)):=by
   show _=_;have e:(X.map (·.2.2)).drop j=X[j].2.2::(X.map (·.2.2)).drop (j+1):=by
    rw[a0k (by simpa using aL)];simp
   rw[<-Gu.o,e]
   conv=>lhs;unfold pX
  have hTF:Z_ (uJ (X.map (·.2.2))=pX (X.map (·.2.2)) 0 0):=abI (by simp;omega);generalize hXj:X[j]=x at *;have HXj:=aj hXj;clear YI kG h0 h1 iD Yv hXj;obtain⟨b,⟨Ma,ek,vt0,vt1,vt2,iJ,YJ,vk,vd,alY⟩,⟨rc,told,names,t0,t1,t2,ifs,on,dn⟩⟩:=x;obtain⟨-,e1,-,-,-,-,jc,e2,e3⟩:=hq;simp only at e1 e2 e3 iG jW jc jP;subst e1 e2 e3 iG;obtain⟨ai,ci,aw9⟩:=aW jc;subst aw9;clear jc;have uW:=aj jW;have jE:b<w.heap.size:=Da.o.lt _ Dr;have d0:zC wr b 0 (zT Ma):=jW.cell 0;have d5:zC wr b 5 (.slice ai ifs.length ci):=jW.cell 5;have d6:zC wr b 6 (.bool YJ):=jW.cell 6;have d8:zC wr b 8 (zI dn):=jW.cell 8;have d9:zC wr b 9 (zI ((j:Int)+2)):=jW.cell 9;unfold tC at cj;clear jW;have HF:Z_ ((((!(uX j ⟨Ma,told,names,t0,t1,t2,ifs,YJ,dn⟩)&&!(qY j B.length ⟨Ma,told,names,t0,t1,t2,ifs,YJ,dn⟩))||decide (5<dn)||decide (16<=j))=true)->xh L (X.map (·.2.2))=(3,j+2)):=by
   intro hh;refine aeg ?_ (by omega);rw[hTF.o,dw.o];exact a0m hh
  have HN:Z_ ((((!(uX j ⟨Ma,told,names,t0,t1,t2,ifs,YJ,dn⟩)&&!(qY j B.length ⟨Ma,told,names,t0,t1,t2,ifs,YJ,dn⟩))||decide (5<dn)||decide (16<=j))=false)->pX ((X.map (·.2.2)).drop (j+1)) (j+1) (dn+1)=pX (X.map (·.2.2)) 0 0):=by
   intro hh;rw[dw.o];exact(a0n (by simp only[hh];simp)).symm
  clear dw hTF
  by_cases rC:j=0
  ·have j1:((j:Int)==0)=true:=by simp[rC]
   have j2:decide ((0:Int)<(j:Int))=false:=a0f (by omega);have j3:decide ((16:Int)<=(j:Int))=false:=a0f (by omega);have Hj0:=aj rC;have j4:j<=0:=by omega
   clear rC;cases g1:((dn:Int)==0)
   ·have n1:(dn==0)=false:=a0j.2 (by intro e;subst e;simp at g1)
    have Hn1:=aj n1;clear n1;go_wp2_with fail
    go_quiet (fail)
    go_wp2;go_ret3
    exact GP.bad (HF.o (by simp[uX,qY,Hj0.o,Hn1.o])) (by simp[grE]) (Da.o.aC.drewN _)
   have dn0:dn=0:=by simpa using g1
   subst dn0;clear g1;cases g2:((ifs.length:Int)==0)
   ·have n1:Z_ (ifs.isEmpty=false):=by
     show _=_;cases ifs with
     | nil=>simp at g2
     | cons=>rfl
    go_wp2_with fail
    go_quiet (fail)
    go_wp2;go_ret3
    exact GP.bad (HF.o (by simp[uX,qY,Hj0.o,n1.o])) (by simp[grE]) (Da.o.aC.drewN _)
   have n2:Z_ (ifs.isEmpty=true):=by
    show _=_;cases ifs with
    | nil=>rfl
    | cons=>simp at g2;omega
   cases YJ
   case true =>
    go_wp2_with fail
    go_quiet (fail)
    go_wp2;go_ret3
    exact GP.bad (HF.o (by simp[uX,qY,Hj0.o])) (by simp[grE]) (Da.o.aC.drewN _)
   cases g4:(Ma == [45])
   case true =>
    go_wp2_with fail
    go_quiet (fail)
    go_wp2;go_ret3
    exact GP.bad (HF.o (by simp[uX,qY,Hj0.o,g4])) (by simp[grE]) (Da.o.aC.drewN _)
   obtain⟨hvt,hvw⟩:=H0.o Hj0;simp only[Value.slice.injEq]at hvw;obtain⟨haw,Av,axa⟩:=hvw;subst haw axa hvt;have hBn:B=[]:=a0S Av;subst hBn;have jV:=HN.o (by simp[uX,Hj0.o,n2.o,g4]);have HX2:=aj jV;clear jV;have aqT:Z_ (sD (xd (X.take (j+1)))=([b],C)):=by
    show _=_;rw[Xt (a0a aL),HXj.o,HBC.o];rfl
   have HBb:Z_ (b0=b):=by
    show _=_;have h1:=HXj.o;have h2:=Hj0.o;subst h2;rw[<-uh.o,a0x,a0Q,a0a aL,h1];rfl
   have PH:b<wr.heap.size:=by omega
   have bJ:cb≠b:=λe=>(Hcx.o _ Dr) e.symm
   go_wp2_with (first | (at_builtin;refine abH rfl rfl w.heap.size zN [] b wr.heap.size rfl (World.ownsRow_nil _ _ _ _) rfl (Ja (uN)) (by simp) (by simp;omega) ?_;intro g2 aU w2 qj iM jR))
   go_roundg m
   case measure=>omega
   case rel =>
    have G1:=((Da.o.root uA Hcx.o (zP b)).TF ((aB.refl _ _).alloc (Obj.cells #[zP b] 57))).ahS ⟨_,Dr,rfl⟩ iM qj jR;exact⟨j+1,K,C,[b],zP b,by omega,by go_num,⟨_,_,rfl⟩,G1.up,aqT,((Hcb.o.set1 _).aC (S:=[]) ((aB.refl _ _).alloc _) (by simp)).aC (S:=[]) (aB.fo iM) (by simp),λh=>by omega,λ_=>by rw[HBb.o],HX2⟩
  have j1:((j:Int)==0)=false:=a0j.2 (by omega);have j2:decide ((0:Int)<(j:Int))=true:=a0g (by omega)
  by_cases g1:0<dn
  case neg =>
   have g1':decide ((0:Int)<(dn:Int))=false:=a0f (by omega);go_wp2_with fail
   go_quiet (fail)
   go_wp2;go_ret3
   exact GP.bad (HF.o (by simp[uX,qY,rC,g1])) (by simp[grE]) (Da.o.aC.drewN _)
  have g1':decide ((0:Int)<(dn:Int))=true:=a0g (by omega)
  by_cases g2:dn<=B.length
  case neg =>
   have g2':decide ((dn:Int)<=(B.length:Int))=false:=a0f (by omega);go_wp2_with fail
   go_quiet (fail)
   go_wp2;go_ret3
   exact GP.bad (HF.o (by simp[uX,qY,rC,g2])) (by simp[grE]) (Da.o.aC.drewN _)
  have g2':decide ((dn:Int)<=(B.length:Int))=true:=a0g (by omega)
  by_cases g3:5<dn
  case pos =>
   have g3':decide ((5:Int)<(dn:Int))=true:=a0g (by omega);go_wp2_with fail
   go_quiet (fail)
   go_wp2;go_ret3
   exact GP.bad (HF.o (by simp[g3])) (by simp[grE]) (Da.o.aC.drewN _)
  have g3':decide ((5:Int)<(dn:Int))=false:=a0f (by omega)
  by_cases g4:16<=j
  case pos =>
   have g4':decide ((16:Int)<=(j:Int))=true:=a0g (by omega);go_wp2_with fail
   go_quiet (fail)
   go_wp2;go_ret3
   exact GP.bad (HF.o (by simp[g4])) (by simp[grE]) (Da.o.aC.drewN _)
  have g4':decide ((16:Int)<=(j:Int))=false:=a0f (by omega);obtain⟨gw,haw,-,hBc⟩:=Da.o.way.some (by omega);subst haw;obtain⟨d1,axb⟩:∃d1,dn=d1+1:=⟨dn-1,by omega⟩;subst axb;have hB1:d1<B.length:=by omega
  have cu:zC wr gw d1 (tC B[d1]):=LP.cell Da.o.way d1 hB1;obtain⟨⟨bu,vu,ru⟩,hym,hyb⟩:=Da.o.abp _ (a0u hB1);simp only at hyb;have aqT:Z_ (sD (xd (X.take (j+1)))=(B.take (d1+1)++[b],λk=>if k=bu then C k++[b] else C k)):=by
   show _=_;have iE:(B.take (d1+1)).getLast?=some bu:=by
    rw[List.getLast?_eq_getElem?,a1k,a2n (by omega),List.getElem?_take];simp[a0a hB1,hyb]
   rw[Xt (a0a aL),HXj.o,HBC.o];simp only[IM,iE]
  generalize B[d1]=bu' at *;subst hyb;have HGc:=aj (Da.o.cut (d1+1) g2);have hB':(B.take (d1+1)).length=d1+1:=by rw[a1k];omega
  obtain⟨hnk,jk⟩:=Da.o.Oe _ hym;simp only at jk hnk;unfold LP at jk;obtain⟨nk,alZ⟩:∃nk,nk=(C bu).length:=⟨_,rfl⟩;obtain⟨xk,aqU⟩:∃xk,xk=(C bu).map tC:=⟨_,rfl⟩;rw[<-alZ,<-aqU]at jk;rw[<-alZ]at hnk;have axc:=aj alZ;have axd:=aj aqU;clear alZ aqU;obtain⟨ak,ck,Uc⟩:=aW jk;have hru:=Da.o.rb _ hym;have e7:zC wr bu 7 (.slice ak nk ck):=(hru.cell 7).trans (by rw[<-Uc];rfl);have z7:wr.frozen? (zB bu 7)=false:=hru.fz 7;have hbu:bu<w.heap.size:=Da.o.lt _ hym;have Hok:Z_ (wr.ownsRow w.heap.size 57 1 (.slice ak nk ck) nk xk):=by
   show World.ownsRow _ _ _ _ _ _ _;rw[<-Uc];exact jk
  have Hvk:=aj Uc;have hdm:((d1+1:Nat):Int)-1=(d1:Int):=by omega
  have Hgw:Z_ (w.heap.size<=gw):=(Da.o.way.lt gw rfl).1;have PH:b<wr.heap.size:=by omega
  have Hne:Z_ (cb≠bu):=λe=>(Hcx.o _ hym) e.symm
  have jV:=HN.o (by simp[uX,qY,rC,g2,g3,g4,j2];omega);have HX2:=aj jV;clear jV Uc hru jk;generalize B.take (d1+1)=B' at *;unfold tC at cu;have ag:Value.ownBlock (.slice ak nk ck)≠some bu:=λe=>by have:=Hok.o.lt _ e;omega
  go_wp2_with (first | (at_builtin;refine aqS rfl rfl w.heap.size (.slice ak nk ck) nk xk b wr.heap.size rfl (Hok.o.alloc _) rfl (Ja rfl) (by omega) (by simp;omega) ?_;intro gg aU w4 bT aH bq;have e8:zC w4 bu 7 (.slice ak nk ck):=(aH.cell_far (zB bu 7) (by simp;omega) (Ne.symm ag)).trans ((((aB.refl [] wr).alloc _).cell (p:=(zB bu 7)) (by simp;omega) (by simp)).trans e7);have z8:=(aH.frozen_far (zB bu 7) (by simp;omega) (Ne.symm ag)).trans (((aB.refl [] wr).alloc _).frozen (p:=(zB bu 7)) (by simp;omega) (by simp));rw[z7]at z8;have HO:=aj aH;have HO4:=aj bT;have Hat:=aj bq;have Yl:=aH.size;simp at Yl;have QO:=aj ((HGc.o.TF ((aB.refl _ _).alloc _)).aqk hym hnk axc.o (b:=b) (by rw[axd.o];simp[tC]) (by rw[Hvk.o];exact aH) bT (by rw[Hvk.o];exact bq));clear aH bT bq)|(at_builtin;refine abH rfl rfl w.heap.size (zS gw (d1+1) cw) B' b w4.heap.size rfl ((QO.o.TF ((aB.refl _ _).alloc _)).way) rfl (Ja (uN)) (by omega) (by simp;omega) ?_;intro g2 ac9 w5 hs5 Vy hb5))
  go_roundg m
  case measure=>omega
  case rel =>
   have G1:=(QO.o.TF ((aB.refl _ _).alloc (Obj.cells #[zP b] 57))).ahS ⟨_,Dr,rfl⟩ Vy hs5 hb5;have hp:=H1.o (by omega);refine⟨j+1,_,_,B'++[b],vt,by omega,by go_num,⟨some (zA g2),ac9,by simp[hB']⟩,by rw[hB']at G1;exact G1,aqT,?_,λh=>by omega,λ_=>hp,?_⟩
   ·have C4:sw w4 cb (.slice ar L.length cr) vt (zS gl X.length cl):=(Hcb.o.aC (S:=[]) ((aB.refl _ _).alloc _) (by simp)).aC (aB.fo HO) (by rw[a0H];intro e;have:=Hok.o.lt _ e;omega)
    have C5:=C4.aC (S:=[bu]) (((aB.refl _ _).setCell (p:=(zB bu 7)) (by simp) (zS gg (nk+1) aU)).alloc (Obj.cells #[zP b] 57)) (by simpa using Hne.o);exact C5.aC (aB.fo Vy) (by simp[Value.ownBlock];have:=Hgw.o;omega)
   rw[a0p,hB'];exact HX2
 have gJ:decide ((j:Int)<(X.length:Int))=false:=a0f (by omega);have hjX:j=X.length:=by omega
 have IU:pX (X.map (·.2.2)) 0 0=0:=by
  rw[<-Gu.o,a0i (by simp;omega)];rfl
 clear Yv Gu
 by_cases hX0:X.length=0
 ·have rC:j=0:=by omega
  obtain⟨hvt,hvw⟩:=H0.o rC;subst hvt;have HF:Z_ (xh L (X.map (·.2.2))=(3,2)):=by
   refine aeg ?_ (by omega);have:X=[]:=a0S hX0;rw[this];rfl
  clear hX0 rC hjX hvw IU YI kG h0 h1 iD;go_wp2;go_ret3
  exact GP.bad (HF.o) (by simp[grE]) (Da.o.aC)
 have hp:=H1.o (by omega);subst hp;have HBX:Z_ ((sD (xd X)).2=C):=by
  show _=_;have:=HBC.o;rw[a0C (by omega)]at this;rw[this]
 have HT:Z_ (uJ (X.map (·.2.2))=0):=by
  show _=_;rw[abI (by simp;omega)];exact IU
 clear IU YI kG h0 h1 iD H0 H1;obtain⟨wl,JW⟩:∃wl,wl=wr:=⟨_,rfl⟩;subst JW;go_wp2_with fail
 go_loopg [13] L.length (λk vi wq=>∃(i:Nat),i+k=L.length/\vi=zI i/\mq (L.take i) (L.drop i)=mq [] L/\aB [] wl wq)
 case atStart=>exact⟨0,by omega,rfl,by simp,aB.refl _ _⟩
 case round =>
 obtain⟨i,Ku,Io,iD,bH⟩:=hrel;subst Io;have Gu:=aj iD;have NJ:=aj bH;have Pd:=aj (Hcb.o.aC bH (by simp));have c0':zC wr cb 0 (.slice ar L.length cr):=Pd.o.cell 0;have su:=aj (Hs.o _ (Da.o.aC.trans bH.nil)).1;clear iD bH
 by_cases jc:i<L.length
 ·obtain⟨m,rfl⟩:∃m,gk=m+1:=⟨gk-1,by omega⟩
  have ll:decide ((i:Int)<(L.length:Int))=true:=a0g (by omega);obtain⟨ga,oa,har,-,-,-,aO⟩:=su.o.Ay (by omega);subst har;have ci:zC wr ga (oa+i) (.string (bs L[i])):=by
   have:=aO i jc;rwa [a0x,a0a jc]at this
  have dw:Z_ (mq [] L=if decide (oI L L[i]<(i:Int)) then true else mq (L.take (i+1)) (L.drop (i+1))):=by
   show _=_;rw[<-Gu.o,a0k jc,anN (a0u jc)]
   conv=>lhs;unfold mq
   rw[a0F jc]
  clear aO Gu;generalize L[i]=n at *
  by_cases hk:oI L n<(i:Int)
  ·have HF:Z_ (xh L (X.map (·.2.2))=(4,1)):=aqR HT.o (by rw[dw.o,a0g hk];rfl)
   clear dw;go_wp2_with fail
   go_region_with (go_at_call 63;refine(wh _ L n wr.drew (by exact su)).mono ?_;rintro e w' ⟨rfl,rfl⟩)
   all_goals
    go_wp2_with fail
    go_ret3
    exact GP.bad HF.o (by simp[grE]) (Da.o.aC.trans (NJ.o.drew).nil)
  have Hn:Z_ (mq (L.take (i+1)) (L.drop (i+1))=mq [] L):=by show _=_;rw[dw.o,a0f hk];rfl
  clear dw;go_wp2_with fail
  go_region_with (go_at_call 63;refine(wh _ L n wr.drew (by exact su)).mono ?_;rintro e w' ⟨rfl,rfl⟩)
  all_goals
   go_wp2_with fail
   go_roundg m
   case measure=>omega
   case rel=>exact⟨i+1,by omega,by go_num,Hn,NJ.o.drew⟩
 have ll:decide ((i:Int)<(L.length:Int))=false:=a0f (by omega);have HD:Z_ (mq [] L=false):=by
  show _=_;rw[<-Gu.o,a0i (by omega)];unfold mq;rfl
 have abK:=Pd;have axe:=aj (Da.o.TF NJ);clear Gu Pd su Hcb Da NJ;obtain⟨wm,hwm⟩:∃wm,wm=wr:=⟨_,rfl⟩;subst hwm;go_wp2_with fail
 go_loopg [15] X.length (λk vi wq=>∃(i:Nat),i+k=X.length/\vi=zI i/\lN L ((X.map (·.2.2)).drop i) i=lN L (X.map (·.2.2)) 0/\aB [] wm wq)
 case atStart=>exact⟨0,by omega,rfl,by simp,aB.refl _ _⟩
 case round =>
 obtain⟨i3,ayM,Io,iD,bH⟩:=hrel;subst Io;have Gu:=aj iD;have NJ:=aj bH;have Pd:=aj (abK.o.aC bH (by simp));have abL:=aj (axe.o.TF bH);have c2':zC wr cb 2 (.slice al X.length cl):=Pd.o.cell 2;have c3':zC wr cb 0 (.slice ar L.length cr):=Pd.o.cell 0;have su:=aj (Hs.o _ abL.o.aC).1;have Yv:=(Hs.o _ abL.o.aC).2;clear iD bH
 by_cases adM:i3<X.length
 ·obtain⟨m,rfl⟩:∃m,gk=m+1:=⟨gk-1,by omega⟩
  have hd3:decide ((i3:Int)<(X.length:Int))=true:=a0g (by omega);obtain⟨gl,ja,-,hlc⟩:=Yv.some (by simp;omega);subst ja;rw[a0y]at hlc;have cj:zC wr gl i3 (tC X[i3].1):=by
   have:=Yv.cell i3 (by simpa using adM);simpa using this
  have Dr:X[i3]∈X:=a0u adM;have hq:=(Hx.o _ Dr).1;have iG:=alR.o i3 _ (a0a adM);have jW:=abL.o.rb _ Dr;have dw:Z_ (lN L (X.map (·.2.2)) 0=if !(X[i3].2.2.rc == [45])&&!(L.contains X[i3].2.2.rc) then i3+2 else lN L ((X.map (·.2.2)).drop (i3+1)) (i3+1)):=by
   show _=_;have e:(X.map (·.2.2)).drop i3=X[i3].2.2::(X.map (·.2.2)).drop (i3+1):=by
    rw[a0k (by simpa using adM)];simp
   rw[<-Gu.o,e]
   conv=>lhs;unfold lN
  generalize hXj:X[i3]=x at *;clear hXj Gu Yv;obtain⟨b,⟨Ma,ek,vt0,vt1,vt2,iJ,YJ,vk,vd,alY⟩,⟨rc,told,names,t0,t1,t2,ifs,on,dn⟩⟩:=x;obtain⟨-,e1,-,-,-,-,axf,e2,e3⟩:=hq;simp only at e1 e2 e3 iG jW;subst e1 e2 e3 iG;simp only at dw;clear axf;have d0:zC wr b 0 (zT Ma):=jW.cell 0;have d9:zC wr b 9 (zI ((i3:Int)+2)):=jW.cell 9;unfold tC at cj;clear jW;rw[<-anO]at dw;cases g45:(Ma == [45])
  ·by_cases hk:oI L Ma<0
   ·have HF:Z_ (xh L (X.map (·.2.2))=(4,i3+2)):=anM HT.o HD.o (by rw[dw.o,g45,a0g hk];rfl) (by omega)
    clear dw;go_wp2_with fail
    go_region_with (go_at_call 63;refine(wh _ L Ma wr.drew (by exact su)).mono ?_;rintro e w' ⟨rfl,rfl⟩)
    all_goals
     go_wp2_with fail
     go_quiet (fail)
     go_wp2;go_ret3
     exact GP.bad HF.o (by simp[grE]) (abL.o.aC.drew.drewN _)
   have Hn:Z_ (lN L ((X.map (·.2.2)).drop (i3+1)) (i3+1)=lN L (X.map (·.2.2)) 0):=by show _=_;rw[dw.o,a0f hk];simp
   clear dw;go_wp2_with fail
   go_region_with (go_at_call 63;refine(wh _ L Ma wr.drew (by exact su)).mono ?_;rintro e w' ⟨rfl,rfl⟩)
   all_goals
    go_wp2_with fail
    go_roundg m
    case measure=>omega
    case rel=>exact⟨i3+1,by omega,by go_num,Hn,NJ.o.drew⟩
  have Hn:Z_ (lN L ((X.map (·.2.2)).drop (i3+1)) (i3+1)=lN L (X.map (·.2.2)) 0):=by show _=_;rw[dw.o,g45];simp
  clear dw;go_wp2_with fail
  go_region_with (go_at_call 63;refine(wh _ L Ma wr.drew (by exact su)).mono ?_;rintro e w' ⟨rfl,rfl⟩)
  all_goals
   go_wp2_with fail
   go_roundg m
   case measure=>omega
   case rel=>exact⟨i3+1,by omega,by go_num,Hn,NJ.o.drew⟩
 have hd3:decide ((i3:Int)<(X.length:Int))=false:=a0f (by omega);have HF:Z_ (xh L (X.map (·.2.2))=(0,0)):=asI HT.o HD.o (by rw[<-Gu.o,a0i (by simp;omega)];rfl);clear Gu Yv su;go_wp2;go_ret3
 refine⟨?_,abL.o.aC,λ_=>⟨K,by rw[uh.o];exact Pd,abL.o.rb,λx hx=>?_⟩⟩
 ·rw[HF.o];simp[grE,tC]
 have h2:=(abL.o.Oe x hx).2;rw[HBX.o];exact h2
def au8{r:RR}(h:yY l=some r):r.d<=l.length:=by
 have hd:=Kr l;unfold yY rtW at h
 split at h
 .cases h
 split at h
 .cases h
 split at h
 .cases h
 split at h
 .cases h
 split at h
 .simp at h;subst h;exact hd
 cases h
def sw.set0 {b:Nat}{z:Value}(h:sw w b x y z)(v:Value):sw (w.setCell (zA b) v) b v y z:=by unfold sw at *;simp[World.setCell,a0v,h]
def sw.set2 {b:Nat}{z:Value}(h:sw w b x y z)(v:Value):sw (w.setCell (zB b 2) v) b x y v:=by unfold sw at *;simp[World.setCell,a0v,h]
def akz(t:LB)(n:Nat)(a:¬ 1200<t.length)(h:sO (dU false 10 t) 0 [] []=.error n):sF t=.error (2,n):=by unfold sF;rw[a0n a,h]
def anP(t:LB)(L:List LB)(R:List RR)(a:¬ 1200<t.length)(h:sO (dU false 10 t) 0 [] []=.ok (L,R)):sF t=if (xh L R).1=0 then .ok (L,R) else .error (xh L R):=by unfold sF;rw[a0n a,h]
def aqV(h:(xh L R).1=0):xh L R=(0,0):=by
 unfold xh at *
 by_cases c:uJ R≠0
 .rw[a0m c]at h;simp at h
 rw[a0n c]at h |-
 by_cases b:mq [] L=true
 .rw[a0m b]at h;simp at h
 rw[a0n b]at h |-
 by_cases a:lN L R 0≠0
 .rw[a0m a]at h;simp at h
 rw[a0n a]
def anQ(t:LB)(w:World)(ht:t.length<=1048576) :
 zF 23 #[zT t] w λe w'=>IQ w e w' (sF t)/\aB [] w w':=by
 have eG:=bL;have Bh:=aT;have k0:({ data:=#[] }:ByteArray).toList=[]:=aT _;have kR:({ data:=#[114,101,99,101,105,118,101,114,115] }:ByteArray).toList=mU:=aT _;delta zF;go_in
 by_cases hl:1200<t.length
 .have Hp:Z_ (sF t=.error (1,0)):=by show _=_;unfold sF;rw[a0m hl]
  go_wp2;go_ret3
  rw[Hp.o];exact⟨rfl,aB.refl _ _⟩
 have hl':t.length<=1200:=by omega
 have Hl:=aj hl;clear hl;go_wp2_with fail
 refine(Lj t 10 false w (by omega)).mono ?_;rintro e l ⟨v,rfl,hs,hf⟩;obtain⟨hWx,hWl,hW1⟩:=Lr false 10 t;have HE:Z_ (∀n,sO (dU false 10 t) 0 [] []=.error n->sF t=.error (2,n)):=λn h=>akz t n Hl.o h
 have HK:Z_ (∀L R,sO (dU false 10 t) 0 [] []=.ok (L,R)->sF t=if (xh L R).1=0 then .ok (L,R) else .error (xh L R)):=λL R h=>anP t L R Hl.o h
 generalize dU false 10 t=W at *;generalize OJ:sO W 0 [] []=F at *;have alS:=aj OJ;clear OJ;obtain⟨aw,cw,rfl⟩:=hs.shape;obtain⟨n,hWn⟩:∃n,W.length=n+1:=⟨W.length-1,by omega⟩;obtain⟨gw,haw,hgw,ayN,zx⟩:∃g,aw=some (zA g)/\w.heap.size<=g/\g<l.heap.size/\W.length<=cw:=by
  rcases hs.2 with⟨_,e⟩|⟨g,c,cur,e,hb,hh,h3,_⟩
  .omega
  simp at e;obtain⟨rfl,rfl⟩:=e;exact⟨g,rfl,hb,(a0c.1 hh).1,h3⟩
 subst haw;have JO:Z_ (∀x∈W,x.length<=9000):=λx D=>by have:=hWx x D;omega
 have Hs:=aj hs;have Hf:=aj hf;have fM:=hf.size;have uD:n<=1200:=by omega
 have UA:((n:Int)+1)-1=(n:Int):=by omega
 clear hs hf hWx hWl hW1;have Hc0:Z_ (sw (l.alloc (.cells #[zN,.pointer none,zN] 60)) l.heap.size zN (.pointer none) zN):=bD _ _;go_wp2_with fail
 go_loopg [8] n (λk vi wr=>∃(i:Nat) (vr vl:Value) (L:List LB) (X:List (Nat × iY × RR)),i+k=n/\vi=zI i/\QI wr l.heap.size vr vl L X/\sw wr l.heap.size vr (.pointer none) vl/\(i=0->vr=zN/\vl=zN/\X=[])/\(0<i->X.length+1=i)/\L.length<=9000/\(∀x∈X,x.2.2.d<=9000)/\sO (W.drop i) i L (X.map (·.2.2))=F/\aB [] l wr)
 case atStart=>exact⟨0,_,_,[],[],by omega,rfl,QI.nil _ _,Hc0,λ_=>⟨rfl,rfl,rfl⟩,λh=>by omega,by simp,by simp,alS,(aB.refl _ _).alloc _⟩
 case round =>
 obtain⟨i,vr,vl,L,X,Ku,Io,T,kG,h0,h1,hL,hXd,iD,bH⟩:=hrel;subst Io;have B:=aj T;have Hcb:=aj kG;have H0:=aj h0;have H1:=aj h1;have HXd:=aj hXd;have Gu:=aj iD;have NJ:=aj bH;have Hfw:=aj (Hf.o.trans bH);have hzr:=bH.size;have hcw:=kG.lt;have rJ:SL w.heap.size wr (zS gw W.length cw) W:=Hs.o.aC bH (by simp);have L9:=aj rJ
 by_cases aL:i<n
 .obtain⟨m,rfl⟩:∃m,gk=m+1:=⟨gk-1,by omega⟩
  have gJ:decide ((i:Int)<(n:Int))=true:=a0g (by omega);have ci:zC wr gw i (zT (W.getD i [])):=rJ.cell i (by omega);have Dr:W.getD i []∈W:=by
   rw[a0x,a0a (by omega)];exact a0u _
  have D:=JO.o _ Dr;have JM:Z_ (W.drop i=W.getD i []::W.getD (i+1) []::W.drop (i+2)):=by
   show _=_;rw[a0k (by omega:i<W.length),a0k (by omega:i+1<W.length)];simp[a0x,a0a (by omega:i<W.length),a0a (by omega:i+1<W.length)]
  have al1:Z_ (W.drop (i+1)=W.getD (i+1) []::W.drop (i+2)):=by
   show _=_;rw[a0k (by omega:i+1<W.length)];simp[a0x,a0a (by omega:i+1<W.length)]
  generalize W.getD i []=x at *;clear T kG h0 h1 hXd iD bH rJ Dr
  by_cases O:i=0
  ·
   obtain⟨hvr,Af,hXe⟩:=H0.o O;subst hvr Af hXe;have e0:((i:Int)==0)=true:=by simp[O]
   have hL0:L=[]:=by
    obtain⟨a,c,e,_⟩:=B.o.rs;simp at e;exact a0S e.2.1.symm
   subst hL0;have I:Z_ (F=match abq x with | none=>.error 1|some L'=>sO (W.drop 1) 1 L' []):=by
    show _=_;rw[<-Gu.o,JM.o,show(1:Nat)=i+1 by omega,al1.o]
    conv=>lhs;unfold sO
    rw[O];rfl
   have Hi0:=aj O;have hic:(i:Int)=0:=by omega
   have c0i:zC wr gw 0 (zT x):=by rw[<-O];exact ci
   clear Gu JM al1 O ci;go_wp2_with fail
   refine(Lj x 32 false wr (by omega)).mono ?_;rintro e A ⟨v0,rfl,Sk,bW⟩;obtain⟨-,hVl,hV1⟩:=Lr false 32 x;have akA:Z_ (((((dU false 32 x).getD 0 []==mU)&&decide (1<(dU false 32 x).length)&&decide ((dU false 32 x).length<=9))&&((dU false 32 x).drop 1).all aJ)=false->F=.error 1):=by
    intro h;rw[I.o];unfold abq;rw[h];rfl
   have au9:Z_ (((((dU false 32 x).getD 0 []==mU)&&decide (1<(dU false 32 x).length)&&decide ((dU false 32 x).length<=9))&&((dU false 32 x).drop 1).all aJ)=true->sO (W.drop 1) 1 ((dU false 32 x).drop 1) []=F):=by
    intro h;rw[I.o];unfold abq;rw[h];rfl
   clear I;have HVn:Z_ (∀y∈dU false 32 x,y.length<=9000):=λy z=>by have:=(Lr false 32 x).1 y z;omega
   generalize dU false 32 x=V at *;obtain⟨av,cap,rfl⟩:=Sk.shape;obtain⟨g,hav,hg,IE,Fz⟩:∃g,av=some (zA g)/\wr.heap.size<=g/\g<A.heap.size/\V.length<=cap:=by
    rcases Sk.2 with⟨_,e⟩|⟨g,c,cur,e,hb,hh,h3,_⟩
    .omega
    simp at e;obtain⟨rfl,rfl⟩:=e;exact⟨g,rfl,hb,(a0c.1 hh).1,h3⟩
   subst hav;have su:=aj (Sk.rs (by omega));have cv0:zC A g 0 (zT (V.getD 0 [])):=Sk.cell 0 (by omega);have Y:=aj (Hcb.o.aC bW (by simp));have c0:zC A l.heap.size 0 zN:=Y.o.cell 0;have f0:=Y.o.fz 0;have Yg:=aj bW;have xg:=bW.size;have Kt:g≠l.heap.size:=by omega
   have ayO:l.heap.size≠g:=by omega
   obtain⟨q,hq⟩:∃q,V.length=q+1:=⟨V.length-1,by omega⟩;have NZ:(V.drop 1).length=q:=by rw[a2F];omega
   have HVd:Z_ (∀y∈V.drop 1,y.length<=9000):=λy z=>HVn.o y (a1f z)
   have HRd:Z_ (RS (wr.heap.size) A (.slice (some (zB g 1)) q (cap-1)) (V.drop 1)):=by
    have:=su.o.drop2 1 (by omega);rw[hq]at this;exact this
   clear Sk bW HVn;generalize V.drop 1=s at *;generalize V.getD 0 []=M at *
   by_cases kL:cap=1
   .subst kL
    have EC:q=0:=by omega
    subst EC;have E:Z_ (sF t=.error (2,1)):=HE.o _ (akA.o (by rw[a0f (by omega:¬ 1<V.length)];simp));cases b1:(M==mU)
    all_goals
     have IG:Z_ (RS wr.heap.size ((A.setCell (zA l.heap.size) (zS g 1 1)).setCell (zA l.heap.size) (zS g 0 0)) (zS g 0 0) s):=by
      have f5:aB [l.heap.size] A ((A.setCell (zA l.heap.size) (zS g 1 1)).setCell (zA l.heap.size) (zS g 0 0)):=((aB.refl _ _).setCell (by simp) _).setCell (by simp) _;exact RS.aC (⟨some (zA g),0,by simp;omega,by omega,by omega,λj hj=>by omega⟩) f5 (by simp;omega)
     have Hc5:Z_ (sw ((A.setCell (zA l.heap.size) (zS g 1 1)).setCell (zA l.heap.size) (zS g 0 0)) l.heap.size (zS g 0 0) (.pointer none) zN):=(Y.o.set0 _).set0 _;have F5:Z_ (aB [] l ((A.setCell (zA l.heap.size) (zS g 1 1)).setCell (zA l.heap.size) (zS g 0 0))):=((NJ.o.trans Yg).setCell (.inr (a0b _)) _).setCell (.inr (a0b _)) _;have Fu:g<((A.setCell (zA l.heap.size) (zS g 1 1)).setCell (zA l.heap.size) (zS g 0 0)).heap.size:=by rw[uN,uN];exact IE
     go_wp2_with fail
     generalize ((A.setCell (zA l.heap.size) (zS g 1 1)).setCell (zA l.heap.size) (zS g 0 0))=w5 at *;go_loopg [9,10] 0 (λk P vk wq=>∃(j:Nat),j+k=0/\vk=zI j/\P=.bool (false&&(s.take j).all aJ)/\aB [] w5 wq)
     case atStart=>exact⟨0,by omega,rfl,by first | rfl|(simp;done)|(simp;omega),aB.refl _ _⟩
     case round =>
     obtain⟨j,lU,Uc,U,J⟩:=hrel;subst Uc U;have C:=aj J;have N:=aj (Hc5.o.aC J (by simp));have HRq:=aj (IG.o.aC J (by simp));have cq:zC wr l.heap.size 0 (zS g 0 0):=N.o.cell 0;clear J
     by_cases hj:j<0
     .omega
     have hjq:j=0:=by omega
     have hdj:decide ((j:Int)<(0:Int))=false:=a0f (by omega);have G:Z_ ((s.take j).all aJ=s.all aJ):=by
      show _=_;rw[a0C (by omega)]
     go_wp2;go_ret3
     rw[E.o];exact⟨by simp[IQ],Hf.o.trans (F5.o.trans C)⟩
   have oN:2<=cap:=by omega
   by_cases jk:(M==mU)=true/\0<q/\q+1<=9
   .obtain⟨b1,pQ,hq9⟩:=jk
    have b2:decide ((1:Int)<(V.length:Int))=true:=a0g (by omega);have IG:Z_ (RS wr.heap.size ((A.setCell (zA l.heap.size) (zS g (q+1) cap)).setCell (zA l.heap.size) (.slice (some (zB g 1)) q (cap-1))) (.slice (some (zB g 1)) q (cap-1)) s):=by
     have f5:aB [l.heap.size] A ((A.setCell (zA l.heap.size) (zS g (q+1) cap)).setCell (zA l.heap.size) (.slice (some (zB g 1)) q (cap-1))):=((aB.refl _ _).setCell (by simp) _).setCell (by simp) _;exact RS.aC (HRd.o) f5 (by simp;omega)
    have Hc5:Z_ (sw ((A.setCell (zA l.heap.size) (zS g (q+1) cap)).setCell (zA l.heap.size) (.slice (some (zB g 1)) q (cap-1))) l.heap.size (.slice (some (zB g 1)) q (cap-1)) (.pointer none) zN):=(Y.o.set0 _).set0 _;have F5:Z_ (aB [] l ((A.setCell (zA l.heap.size) (zS g (q+1) cap)).setCell (zA l.heap.size) (.slice (some (zB g 1)) q (cap-1)))):=((NJ.o.trans Yg).setCell (.inr (a0b _)) _).setCell (.inr (a0b _)) _;have Fu:g<((A.setCell (zA l.heap.size) (zS g (q+1) cap)).setCell (zA l.heap.size) (.slice (some (zB g 1)) q (cap-1))).heap.size:=by rw[uN,uN];exact IE
    go_wp2_with fail
    generalize ((A.setCell (zA l.heap.size) (zS g (q+1) cap)).setCell (zA l.heap.size) (.slice (some (zB g 1)) q (cap-1)))=w5 at *;go_loopg [9,10] q (λk P vk wq=>∃(j:Nat),j+k=q/\vk=zI j/\P=.bool (true&&(s.take j).all aJ)/\aB [] w5 wq)
    case atStart=>exact⟨0,by omega,rfl,by first | rfl|(simp;done)|(simp;omega),aB.refl _ _⟩
    case round =>
    obtain⟨j,lU,Uc,U,J⟩:=hrel;subst Uc U;have C:=aj J;have N:=aj (Hc5.o.aC J (by simp));have HRq:=aj (IG.o.aC J (by simp));have cq:zC wr l.heap.size 0 (.slice (some (zB g 1)) q (cap-1)):=N.o.cell 0;clear J
    by_cases hj:j<q
    .obtain⟨m2,rfl⟩:∃m2,gk=m2+1:=⟨gk-1,by omega⟩
     have hdj:decide ((j:Int)<(q:Int))=true:=a0g (by omega);obtain⟨g',o',Ty,-,-,-,aO⟩:=HRq.o.Ay (by omega);simp only[Option.some.injEq,Addr.mk.injEq,a2u]at Ty;obtain⟨rfl,rfl⟩:=Ty;have cj:=aO j (by omega);have hnm':(s.getD j []).length<=9000:=HVd.o _ (by rw[a0x,a0a (by omega)];exact a0u _);have G:Z_ ((s.take (j+1)).all aJ=((s.take j).all aJ&&aJ (s.getD j []))):=by
      show _=_;rw[a0F (by omega:j<s.length),a2c,a0x,a0a (by omega:j<s.length)];simp
     clear aO;generalize s.getD j []=nn at *;generalize (s.take j).all aJ=okb at *;cases okb
     all_goals
      go_wp2_with (first | (go_at_call 18;refine(nH nn _ (by omega)).mono ?_;rintro e w' ⟨rfl,rfl⟩))
      go_roundg m2
      case measure=>omega
      case rel=>exact⟨j+1,by omega,by go_num,by rw[G.o];simp,C⟩
    have hjq:j=q:=by omega
    have hdj:decide ((j:Int)<(q:Int))=false:=a0f (by omega);have G:Z_ ((s.take j).all aJ=s.all aJ):=by
     show _=_;rw[a0C (by omega)]
    rw[G.o];clear G;cases fI:s.all aJ
    .have E:Z_ (sF t=.error (2,1)):=HE.o _ (akA.o (by simp[fI]))
     go_wp2;go_ret3
     rw[E.o];exact⟨by simp[IQ],Hf.o.trans (F5.o.trans C)⟩
    have E:Z_ (sO (W.drop 1) 1 s []=F):=au9.o (by rw[b1,a0g (by omega:1<V.length),a0g (by omega:V.length<=9),fI];rfl);go_wp2;go_roundg m
    case measure=>omega
    case rel =>
     refine⟨1,_,_,s,[],by have:=Hi0.o;omega,by go_num,?_,N,λh=>by omega,λ_=>rfl,by omega,by simp,E,F5.o.trans C⟩;have hzq:=C.o.size;exact⟨HRq.o.base (by omega),World.ownsRow_nil _ _ _ _,by simp,by simp,by simp,by simp,by simp,by simp,by simp[Value.ownBlock];omega,by simp[Value.ownBlock],by simp,by simp[Value.ownBlock];omega⟩
   have E:Z_ (sF t=.error (2,1)):=HE.o _ (akA.o (by
    rw[a2p];intro h;simp only[a0O,a0U]at h;exact jk ⟨h.1.1.1,by omega,by omega⟩))
   rcases(show(M==mU)=false\/((M==mU)=true/\q<1)\/((M==mU)=true/\0<q/\9<q+1) by
    by_cases h1:(M==mU)=true
    .by_cases h2:q<1
     .exact .inr (.inl ⟨h1,h2⟩)
     exact .inr (.inr ⟨h1,by omega,by have:¬ q+1<=9:=λh=>jk ⟨h1,by omega,h⟩
                                      omega⟩)
    exact .inl (by simpa using h1)) with b1|⟨b1,EC⟩|⟨b1,pQ,hq9⟩
   all_goals
    clear jk;have IG:Z_ (RS wr.heap.size ((A.setCell (zA l.heap.size) (zS g (q+1) cap)).setCell (zA l.heap.size) (.slice (some (zB g 1)) q (cap-1))) (.slice (some (zB g 1)) q (cap-1)) s):=by
     have f5:aB [l.heap.size] A ((A.setCell (zA l.heap.size) (zS g (q+1) cap)).setCell (zA l.heap.size) (.slice (some (zB g 1)) q (cap-1))):=((aB.refl _ _).setCell (by simp) _).setCell (by simp) _;exact RS.aC (HRd.o) f5 (by simp;omega)
    have Hc5:Z_ (sw ((A.setCell (zA l.heap.size) (zS g (q+1) cap)).setCell (zA l.heap.size) (.slice (some (zB g 1)) q (cap-1))) l.heap.size (.slice (some (zB g 1)) q (cap-1)) (.pointer none) zN):=(Y.o.set0 _).set0 _;have F5:Z_ (aB [] l ((A.setCell (zA l.heap.size) (zS g (q+1) cap)).setCell (zA l.heap.size) (.slice (some (zB g 1)) q (cap-1)))):=((NJ.o.trans Yg).setCell (.inr (a0b _)) _).setCell (.inr (a0b _)) _;have Fu:g<((A.setCell (zA l.heap.size) (zS g (q+1) cap)).setCell (zA l.heap.size) (.slice (some (zB g 1)) q (cap-1))).heap.size:=by rw[uN,uN];exact IE
    go_wp2_with fail
    generalize ((A.setCell (zA l.heap.size) (zS g (q+1) cap)).setCell (zA l.heap.size) (.slice (some (zB g 1)) q (cap-1)))=w5 at *;go_loopg [9,10] q (λk P vk wq=>∃(j:Nat),j+k=q/\vk=zI j/\P=.bool (false&&(s.take j).all aJ)/\aB [] w5 wq)
    case atStart=>exact⟨0,by omega,rfl,by first | rfl|(simp;done)|(simp;omega),aB.refl _ _⟩
    case round =>
    obtain⟨j,lU,Uc,U,J⟩:=hrel;subst Uc U;have C:=aj J;have N:=aj (Hc5.o.aC J (by simp));have HRq:=aj (IG.o.aC J (by simp));have cq:zC wr l.heap.size 0 (.slice (some (zB g 1)) q (cap-1)):=N.o.cell 0;clear J
    by_cases hj:j<q
    .first
     | omega
     | obtain⟨m2,rfl⟩:∃m2,gk=m2+1:=⟨gk-1,by omega⟩
       have hdj:decide ((j:Int)<(q:Int))=true:=a0g (by omega);obtain⟨g',o',Ty,-,-,-,aO⟩:=HRq.o.Ay (by omega);simp only[Option.some.injEq,Addr.mk.injEq,a2u]at Ty;obtain⟨rfl,rfl⟩:=Ty;have cj:=aO j (by omega);have hnm':(s.getD j []).length<=9000:=HVd.o _ (by rw[a0x,a0a (by omega)];exact a0u _);have G:Z_ ((s.take (j+1)).all aJ=((s.take j).all aJ&&aJ (s.getD j []))):=by
        show _=_;rw[a0F (by omega:j<s.length),a2c,a0x,a0a (by omega:j<s.length)];simp
       clear aO;generalize s.getD j []=nn at *;generalize (s.take j).all aJ=okb at *;cases okb
       all_goals
        go_wp2_with (first | (go_at_call 18;refine(nH nn _ (by omega)).mono ?_;rintro e w' ⟨rfl,rfl⟩))
        go_roundg m2
        case measure=>omega
        case rel=>exact⟨j+1,by omega,by go_num,by rw[G.o];simp,C⟩
    have hjq:j=q:=by omega
    have hdj:decide ((j:Int)<(q:Int))=false:=a0f (by omega);have G:Z_ ((s.take j).all aJ=s.all aJ):=by
     show _=_;rw[a0C (by omega)]
    go_wp2;go_ret3
    rw[E.o];exact⟨by simp[IQ],Hf.o.trans (F5.o.trans C)⟩
  -- a route
  have IJ:((i:Int)==0)=false:=a0j.2 (by omega);have Ic:(i==0)=false:=a0j.2 O;have hX:X.length+1=i:=H1.o (by omega);have I:Z_ (F=match yY x with | none=>.error (i+1)|some r=>sO (W.drop (i+1)) (i+1) L (X.map (·.2.2)++[r])):=by
   show _=_;rw[<-Gu.o,JM.o,al1.o]
   conv=>lhs;unfold sO
   rw[Ic];rfl
  clear Gu JM al1;obtain⟨al,cl,Af⟩:=aW B.o.lp;rw[a0y]at Af;subst Af;rcases hr:yY x with _|r
  .have E:Z_ (sF t=.error (2,i+1)):=HE.o _ (by rw[I.o,hr])
   have Hr:=aj hr;clear I hr Ic;go_wp2_with fail
   refine(Xq x wr (by omega)).mono ?_;rintro e H ⟨hp,Z⟩;rw[Hr.o]at hp;obtain⟨p,rfl⟩:=hp;have oF:=aj Z;clear Z;go_wp2;go_ret3
   rw[E.o];exact⟨by simp[IQ],Hfw.o.trans oF⟩
  have E:Z_ (sO (W.drop (i+1)) (i+1) L (X.map (·.2.2)++[r])=F):=by show _=_;rw[I.o,hr]
  have Hr:=aj hr;clear I hr Ic;go_wp2_with fail
  refine(Xq x wr (by omega)).mono ?_;rintro e H ⟨hp,Z⟩;rw[Hr.o]at hp;obtain⟨b,⟨Ma,ek,vt0,vt1,vt2,iJ,YJ,vk,vd,alY⟩,hbz,rfl,lZ⟩:=hp;have aqX:=aj lZ;have oF:=aj Z;have gD:=Z.size;have jR:=lZ.at_.lt;have d9:zC H b 9 (zI alY):=lZ.at_.cell 9;have z9:=lZ.at_.fz 9;have Pd:=aj (Hcb.o.aC Z (by simp));have c2:zC H l.heap.size 2 (.slice al X.length cl):=Pd.o.cell 2;have f2:=Pd.o.fz 2;have bJ:b≠l.heap.size:=by omega
  have hne':l.heap.size≠b:=by omega
  have ag:Value.ownBlock (.slice al X.length cl)≠some l.heap.size:=λe=>by have:=B.o.lp.lt _ e;omega
  have rH:∀u o,Z_ (aB [] wr ((H.setCell (zB b 9) u).alloc o)):=λu o=>(oF.o.setCell (.inr hbz) _).alloc _
  have g2:∀u o,zC ((H.setCell (zB b 9) u).alloc o) l.heap.size 2 (.slice al X.length cl):=λu o=>((((aB.refl [b] H).setCell (p:=(zB b 9)) (by simp) u).alloc o).cell (p:=(zB l.heap.size 2)) (by simp;omega) (by simp;omega)).trans c2
  have g3:∀u o,((H.setCell (zB b 9) u).alloc o).frozen? (zB l.heap.size 2)=false:=λu o=>((((aB.refl [b] H).setCell (p:=(zB b 9)) (by simp) u).alloc o).frozen (p:=(zB l.heap.size 2)) (by simp;omega) (by simp;omega)).trans f2
  clear lZ Z;go_wp2_with (first | (at_builtin;refine abH rfl rfl (l.heap.size+1) (.slice al X.length cl) (X.map (·.1)) b H.heap.size rfl ((B.o.TF (rH _ _).o).lp) rfl (Ja (uN)) (by simp;omega) (by simp;omega) ?_;intro g4 Kq w4 hs4 Sl Aq;have c4:=(Sl.cell_far (zB l.heap.size 2) (by simp;omega) (Ne.symm ag)).trans (g2 _ _);have z4:=(Sl.frozen_far (zB l.heap.size 2) (by simp;omega) (Ne.symm ag)).trans (g3 _ _);have Hs4:=aj hs4;have Hg4:=aj Sl;have Hb4:=aj Aq;clear hs4 Sl Aq))
  go_roundg m
  case measure=>omega
  case rel =>
   have hRB:qz (H.setCell (zB b 9) (zI ((i:Int)+1))) b ⟨Ma,ek,vt0,vt1,vt2,iJ,YJ,vk,vd,(i:Int)+1⟩:=aqX.o.at_.set 9 _ _ rfl;have at7:aB [b] H (H.setCell (zB b 9) (zI ((i:Int)+1))):=(aB.refl _ _).setCell (by simp) _;have hRQ:Dq (l.heap.size+1) ((H.setCell (zB b 9) (zI ((i:Int)+1))).alloc (.cells #[zP b] 57)) b ⟨Ma,ek,vt0,vt1,vt2,iJ,YJ,vk,vd,(i:Int)+1⟩ r:=by
    have q:=aqX.o;refine Dq.aC (S:=[]) (Dq.base (base:=wr.heap.size) ⟨hRB,q.rc,jJ q.Im at7 ?_,q.t0,q.t1,q.t2,jJ q.ifs at7 ?_,q.on,q.d⟩ (by omega)) ((aB.refl _ _).alloc _) (by simp) (by simp)
    .intro k hk;simp at hk;subst hk;exact .inr ⟨_,_,_,q.at_,by decide⟩
    intro k hk;simp at hk;subst hk;exact .inr ⟨_,_,_,q.at_,by decide⟩
   have Q4:=QI.snoc (B.o.TF (rH (zI ((i:Int)+1)) (.cells #[zP b] 57)).o) (x:=(b,⟨Ma,ek,vt0,vt1,vt2,iJ,YJ,vk,vd,(i:Int)+1⟩,r)) hRQ aqX.o.vk (by simp;omega) (λy z=>by have:=B.o.lt y z;simp;omega) (by simp;omega) (λe=>by have:=B.o.vrt _ e;simp at this;omega) (λe=>by have:=B.o.lp.lt _ e;simp at this;omega) Hg4.o Hs4.o Hb4;rw[a0y,hX]at Q4;refine⟨i+1,vr,zS g4 i Kq,L,_,by omega,by go_num,Q4.awR 2 _,?_,λh=>by omega,λ_=>by simp;omega,hL,?_,?_,?_⟩
   .exact sw.set2 ((Hcb.o.aC (rH _ _).o (by simp)).aC (aB.fo Hg4) (by rw[a0H];exact ag)) _
   .intro y z
    rw[a0e,a0w]at z;rcases z with z|rfl
    .exact HXd.o y z
    have:=au8 Hr;simp;omega
   .rw[a0P];exact E
   exact((NJ.o.trans (rH _ _).o).grown Hg4.o (λk hk=>.inr (by have:=B.o.lp.lt _ hk;omega))).setCell (.inr (a0b _)) _
 -- the end
 have EF:i=n:=by omega
 subst EF;have gJ:decide ((i:Int)<(i:Int))=false:=a0f (by omega);have ci:zC wr gw i (zT (W.getD i [])):=rJ.cell i (by omega);have I:Z_ (F=if !((W.getD i []).isEmpty)||i==0 then .error (i+1) else .ok (L,X.map (·.2.2))):=by
  show _=_;rw[<-Gu.o,a0k (by omega:i<W.length),a0i (by omega),a0x,a0a (by omega:i<W.length)];unfold sO;rfl
 generalize W.getD i []=x at *;obtain⟨ar,cr,hvr⟩:∃a c,vr=.slice a L.length c:=by
  obtain⟨a,c,e,_⟩:=T.rs;exact⟨a,c,e⟩
 obtain⟨al,cl,Af⟩:=aW T.lp;rw[a0y]at Af;subst hvr Af;clear T kG h0 h1 hXd iD bH rJ Gu;cases D:(x == [])
 .have E:Z_ (sF t=.error (2,i+1)):=HE.o _ (by
   rw[I.o];have:x.isEmpty=false:=by
    cases x with
    | nil=>simp at D
    | cons=>rfl
   rw[this];rfl)
  clear I;go_wp2;go_ret3
  rw[E.o];exact⟨by simp[IQ],Hfw⟩
 by_cases O:i=0
 .have e0:((i:Int)==0)=true:=by simp[O]
  have E:Z_ (sF t=.error (2,i+1)):=HE.o _ (by rw[I.o,O];simp);have ayP:i<=0:=by omega
  clear I O;go_wp2;go_ret3
  rw[E.o];exact⟨by simp[IQ],Hfw⟩
 have e0:((i:Int)==0)=false:=a0j.2 (by omega);have hxe:x=[]:=by simpa using D
 have E:Z_ (sF t=if (xh L (X.map (·.2.2))).1=0 then .ok (L,X.map (·.2.2)) else .error (xh L (X.map (·.2.2)))):=HK.o _ _ (by rw[I.o,hxe];simp[O]);have hX:X.length+1=i:=H1.o (by omega);clear I hxe;go_wp2_with fail
 refine(aky l.heap.size (l.heap.size+1) (.slice ar L.length cr) (.slice al X.length cl) L X wr Hcb.o (λw' f=>B.o.kept f) (λx D=>⟨B.o.rq x D,B.o.vk x D⟩) B.o.row (λx D=>by have:=B.o.gt x D;omega) B.o.nd hL (by omega) HXd).mono ?_;rintro e H ⟨rfl,Z,aua⟩;have axg:=aj aua;have oF:=aj Z;have Gf:=Z.size;clear aua Z;have aub:Z_ (aB [] w H):=by
  refine Hf.o.trans ((NJ.o.nil (S:=l.heap.size::X.map (·.1))).trans oF.o |>.mono ?_);intro k hk hm;rw[a0l,a0q]at hm;rcases hm with rfl|⟨x,D,rfl⟩
  .omega
  have:=B.o.gt x D;omega
 unfold grE;generalize hg:xh L (X.map (·.2.2))=f at *;have Hg:=aj hg;clear hg;obtain⟨f1,f2⟩:=f
 by_cases aZ:f1=0
 .subst aZ
  have e2:=aqV (by rw[Hg.o]);rw[Hg.o]at e2;simp at e2;subst e2;go_wp2;go_ret3
  rw[E.o];obtain⟨K,oN,hK,axh⟩:=axg.o (by first | trivial|rfl|simp);have hxd:xd (X.map (λx=>(x.1,{ x.2.1 with vk:=K x.1 },x.2.2)))=xd X:=by simp[xd,Function.comp_def]
  refine⟨⟨l.heap.size,l.heap.size+1,_,_,_,X.map (λx=>(x.1,{ x.2.1 with vk:=K x.1 },x.2.2)),rfl,oN,(B.o.kept oF).1,?_,?_,?_,⟨fM,by omega,?_,?_,?_,?_,?_⟩⟩,aub⟩
  .have:=(B.o.kept oF).2
   simpa[Function.comp_def] using this
  .intro y z
   rw[a0q]at z;obtain⟨x,D,rfl⟩:=z;exact B.o.rqs oF.o hK x D
  .simp[Function.comp_def]
  .intro i y z
   rw[a0Q]at z;cases hxi:X[i]? with
   | none=>rw[hxi]at z;simp at z
   | some x =>
     rw[hxi]at z;simp at z;subst z;exact B.o.row i x hxi
  .have:=B.o.nd
   simpa[Function.comp_def] using this
  .intro y z
   rw[a0q]at z;obtain⟨x,D,rfl⟩:=z;have:=B.o.gt x D;exact this
  .simp[Function.comp_def]
  intro y z;rw[a0q]at z;obtain⟨x,D,rfl⟩:=z;rw[hxd];exact wQ (axh x D) (by omega)
 simp only[aZ,a0I];go_wp2;go_ret3
 rw[E.o];simp only[aZ,a0I];exact⟨rfl,aub⟩
theorem abM(n:LB):∀(L a:List LB),lJ n L (a,true)=(a++L,true)
 | [],a=>by simp[lJ]
 | x::L,a=>by unfold lJ;simp only[a2O,Bool.false_and];rw[a0n (by simp),abM n L];simp
theorem Xu(n:LB):∀(L a:List LB),(if (lJ n L (a,false)).2 then (lJ n L (a,false)).1 else (lJ n L (a,false)).1++[n])=a++ins n L
 | [],a=>by simp[lJ,ins]
 | x::L,a=>by
   have e:lJ n (x::L) (a,false)=lJ n L (if n<x then (a++[n]++[x],true) else (a++[x],false)):=by
    conv=>lhs;unfold lJ
    rw[aqh];simp
   rw[e];unfold ins
   by_cases h:n<x
   .grind [abM]
   simp only[a0n h];have:=Xu n L (a++[x]);rw[this];simp
theorem akB{n:LB}:uf L n=ins n L:=by simp[Xu,uf]
def glue(p:LB):List LB->List LB
 | []=>[p]
 | h::r=>(p++h)::r
theorem ze{q:LB}:glue p (glue q W)=glue (p++q) W:=by cases W<;>simp[glue]
def oD(q:Bool)(c:UInt8):LB->Bool->Bool->List LB
 | [],_,_=>[[]]
 | x::r,i,true=>glue [x] (oD q c r i false)
 | x::r,i,false =>
   if (if q&&x==34 then !i else i)&&x==92 then glue [x] (oD q c r (if q&&x==34 then !i else i) true)
   else if x==c&&!(if q&&x==34 then !i else i) then []::oD q c r (if q&&x==34 then !i else i) false
   else glue [x] (oD q c r (if q&&x==34 then !i else i) false)
theorem abN:glue p W≠[]:=by cases W<;>simp[glue]
theorem Db(q:Bool)(c:UInt8)(l:LB)(i e:Bool):oD q c l i e≠[]:=by
 cases l with
 | nil=>cases e<;>simp[oD]
 | cons x r =>
   cases e with
   | true=>unfold oD;exact abN
   | false =>
     unfold oD;generalize (if (q&&x==34)=true then !i else i)=i1
     by_cases a:(i1&&x==92)=true
     .grind [abN]
     grind [abN]
theorem Gv(q:Bool)(c:UInt8):∀(k:Nat) (l:LB) (i:Bool) (t:LB) (out:List LB),l.length<k->jy q c k l i t out=out++glue t (oD q c l i false)
 | 0,l,i,t,out,h=>by omega
 | k+1,[],i,t,out,h=>by unfold jy oD;simp[glue]
 | k+1,x::r,i,t,out,h=>by
   simp only[a0r]at h;unfold jy oD;dsimp only;generalize (if (q&&x==34)=true then !i else i)=i1
   by_cases a:(i1&&x==92)=true
   .rw[a0m a]
    cases r with
    | nil =>
      have j:i1=true:=by simp at a;exact a.1
      subst j;rw[a0n (by simp),a0n (by simp),Gv q c k [] _ _ _ (by simp at h |-;omega)];simp[oD,glue]
    | cons d f=>rw[a0m (by simp[a])];rw[List.drop_succ_cons,a2j,Gv q c k f _ _ _ (by simp at h |-;omega)];simp only[oD,ze,a2J,a3w]
   rw[a0n a,a0n (by intro e;apply a;simp only[a0O]at e |-;exact e.1)]
   by_cases b:(x==c&&!i1)=true
   .rw[a0m b,a0m b,Gv q c k r _ _ _ (by omega)]
    have:glue [] (oD q c r i1 false)=oD q c r i1 false:=by
     cases g:oD q c r i1 false with
     | nil=>exact(Db q c r i1 false g).elim
     | cons=>rfl
    rw[this];simp[glue]
   rw[a0n b,a0n b,Gv q c k r _ _ _ (by omega),ze]
theorem Ue{q:Bool}(c:UInt8):dU q c l=oD q c l false false:=by
 unfold dU;rw[Gv q c _ _ _ _ _ (a3j _),a0V];cases h:oD q c l false false with
 | nil=>exact(Db q c l false false h).elim
 | cons=>rfl
def oo:LB->Bool->Bool->LB × LB
 | [],_,_=>([],[])
 | x::r,i,true=>(x::(oo r i false).1,(oo r i false).2)
 | x::r,i,false =>
   if (if x==34 then !i else i)&&x==92 then (x::(oo r (if x==34 then !i else i) true).1,(oo r (if x==34 then !i else i) true).2)
   else if x==32&&!(if x==34 then !i else i) then ([],x::r)
   else (x::(oo r (if x==34 then !i else i) false).1,(oo r (if x==34 then !i else i) false).2)
def W0(l:LB):List LB:=oD true 32 l false false
def tw:LB->List LB
 | []=>[]
 | _::r=>W0 r
theorem Ad(x:UInt8):tw (x::r)=W0 r:=rfl
theorem al2:tw []=[]:=rfl
def bd(l:LB):Bool:=match l with | []=>true|x::_=>x==32
theorem Uf:∀(l:LB) (i e:Bool),oD true 32 l i e=(oo l i e).1::tw (oo l i e).2
 | [],i,e=>by cases e<;>rfl
 | x::r,i,true=>by unfold oD oo;rw[Uf r i false];rfl
 | x::r,i,false=>by
   unfold oD oo;simp only[a3k];generalize d:(if (x==34)=true then !i else i)=i1
   by_cases b:(i1&&x==92)=true
   .rw[a0m b,a0m b,Uf r i1 true];rfl
   rw[a0n b,a0n b]
   by_cases a:(x==32&&!i1)=true
   .rw[a0m a,a0m a]
    have c:i1=false:=by simp at a;exact a.2
    subst c;rfl
   rw[a0n a,a0n a,Uf r i1 false];rfl
theorem Mb:∀(l:LB) (i e:Bool),l=(oo l i e).1++(oo l i e).2/\bd (oo l i e).2=true
 | [],i,e=>by cases e<;>simp[oo,bd]
 | x::r,i,true=>by unfold oo;have:=Mb r i false;exact⟨by simp;exact this.1,this.2⟩
 | x::r,i,false=>by
   unfold oo;generalize c:(if (x==34)=true then !i else i)=i1
   by_cases a:(i1&&x==92)=true
   .rw[a0m a]
    have:=Mb r i1 true;exact⟨by simp;exact this.1,this.2⟩
   rw[a0n a]
   by_cases b:(x==32&&!i1)=true
   .grind [bd]
   rw[a0n b];have:=Mb r i1 false;exact⟨by simp;exact this.1,this.2⟩
def fw(l:LB):LB:=(oo l false false).1
def wG(l:LB):LB:=(oo l false false).2
theorem EM(l:LB):W0 l=fw l::tw (wG l):=Uf l false false
theorem Nj(l:LB):l=fw l++wG l:=(Mb l false false).1
theorem afS(l:LB):bd (wG l)=true:=(Mb l false false).2
theorem yj(l:LB)(h:bd l=true):fw l=[]/\wG l=l:=by
 cases l with
 | nil=>exact⟨rfl,rfl⟩
 | cons x r =>
   have:x=32:=by simpa[bd] using h
   subst this;exact⟨rfl,rfl⟩
def clean(p:LB):Bool:=p.all λx=>!(x==32)&&!(x==34)
def ma:∀(p s:LB),clean p=true->fw (p++s)=p++fw s/\wG (p++s)=wG s
 | [],s,_=>⟨rfl,rfl⟩
 | x::p,s,h=>by
   unfold clean at h;simp only[a1P,a0O,a1j]at h;have a:=ma p s h.2;have c:=h.1.1;have b:=h.1.2;have:oo (x::(p++s)) false false=(x::(oo (p++s) false false).1,(oo (p++s) false false).2):=by
    conv=>lhs;unfold oo
    rw[b,c];rfl
   unfold fw wG at *;rw[a0L,this];exact⟨by simp[a.1],a.2⟩
def QQ(p:LB)(W:List LB):Bool:=decide (1<W.length)&&(W.getD 0 []==p)
def asJ:(tw l).length=0↔l=[]:=by
 cases l with
 | nil=>simp[tw]
 | cons x r=>rw[Ad,EM];simp
def aih {l:LB}(h:bd l=true)(a:l≠[]):∃r,l=32::r:=by
 cases l with
 | nil=>exact(a rfl).elim
 | cons x r=>simp[bd]at h;subst h;exact⟨r,rfl⟩
def fC(h:aQ p l=true):l=p++aK p l:=by unfold aQ at h;unfold aK;rw[a0m h];have:=a2y.1 h;obtain⟨t,rfl⟩:=this;simp
theorem qF(p s:LB):aQ p (p++s)=true/\aK p (p++s)=s:=by simp[aQ,aK]
theorem akC(p l:LB)(b:clean p=true)(c:bd l=true):QQ p (tw l)=aQ (32::(p++[32])) l:=by
 cases l with
 | nil=>simp[QQ,tw,aQ]
 | cons x r =>
   have:x=32:=by simpa[bd] using c
   subst this;rw[a0T]
   constructor
   .intro h
    unfold QQ at h;rw[Ad,EM]at h;simp only[a0r,a0O,a0U,a0W]at h;have g:wG r≠[]:=λe=>by rw[e,al2]at h;simp at h
    obtain⟨a,i⟩:=aih (afS r) g;have f:fw r=p:=by simpa using h.2
    have:=Nj r;rw[f,i]at this;rw[this];have d:=(qF (32::(p++[32])) a).1;simpa using d
   intro h;have e:=fC h;generalize aK (32::(p++[32])) (32::r)=a at e;have j:r=p++32::a:=by simpa using e
   subst j;unfold QQ;have:=ma p (32::a) b;have hb:=yj (32::a) rfl;rw[Ad,EM,this.1,this.2,hb.1,hb.2,Ad,EM];simp
def abO(p l:LB)(b:clean p=true)(h:aQ (32::(p++[32])) l=true):(tw l).getD 1 []=fw (aK (32::(p++[32])) l)/\(tw l).drop 2=tw (wG (aK (32::(p++[32])) l)):=by
 have e:=fC h;generalize aK (32::(p++[32])) l=a at e;subst e;have c:tw (32::(p++[32])++a)=p::W0 a:=by
  have d:(32::(p++[32])++a)=32::(p++32::a):=by simp
  rw[d];show W0 (p++32::a)=_;have:=ma p (32::a) b;have hb:=yj (32::a) rfl;rw[EM,this.1,this.2,hb.1,hb.2,Ad];simp
 rw[c,EM];simp
theorem Ug(p l:LB)(h:bd l=false):aQ (32::p) l=false:=by
 cases l with
 | nil=>simp[bd]at h
 | cons x r =>
   unfold bd at h;have:(32==x)=false:=by grind
   simp[aQ,List.isPrefixOf,this]
theorem aqY(h:bd l=false):aK (32::p) l=l:=by have:=Ug p l h;unfold aQ at this;unfold aK;rw[a0n (by simp[this])]
theorem anR(c:UInt8):(!(bK c)||(!(c==32)&&!(c==34)&&!(c==44)&&!(c==45)))=true:=vO (p:=λc=>!(bK c)||(!(c==32)&&!(c==34)&&!(c==44)&&!(c==45))) (by decide +kernel) c
theorem anS(c:UInt8):(!(nG c)||(!(c==32)&&!(c==34)&&decide (48<=c.toNat)&&decide (c.toNat<=57)))=true:=vO (p:=λc=>!(nG c)||(!(c==32)&&!(c==34)&&decide (48<=c.toNat)&&decide (c.toNat<=57))) (by decide +kernel) c
theorem Mc {c:UInt8}(h:bK c=true):c≠32/\c≠34/\c≠44/\c≠45:=by grind [anR]
theorem abP {c:UInt8}(h:nG c=true):c≠32/\c≠34/\48<=c.toNat/\c.toNat<=57:=by grind [anS]
def nS(p:α->Bool):∀(l:List α),(l.takeWhile p).all p=true
 | []=>rfl
 | x::r=>by simp_all
theorem vJ(p:α->Bool):∀(l:List α) (x:α) (r:List α),l.dropWhile p=x::r->p x=false
 | [],x,r,h=>by simp at h
 | y::l,x,r,h=>by
   rw[List.dropWhile_cons]at h;cases a:p y
   .grind
   rw[a]at h;simp at h;exact vJ p l x r h
theorem Nk {p:UInt8->Bool}(a:∀c,p c=true->c≠32/\c≠34)(l:LB)(h:l.all p=true):clean l=true:=by grind [clean]
theorem Md(x:UInt8)(s:LB)(h:bd (x::s)=false):∃h,fw (x::s)=x::h:=by grind [bd,fw,oo]
theorem Dc {s:LB}(h:bd s=false):∃x r,s=x::r/\x≠32:=by
 cases s with
 | nil=>simp[bd]at h
 | cons x r=>exact⟨x,r,rfl,by simpa[bd] using h⟩
theorem Gw(a:LB)(x:UInt8)(b:LB)(h:bK x=false):aJ (a++x::b)=false:=by grind [aJ,bK]
theorem aqZ:aJ (fw r)=(aJ (r.takeWhile bK)&&bd (r.dropWhile bK))/\(bd (r.dropWhile bK)=true->fw r=r.takeWhile bK/\wG r=r.dropWhile bK):=by
 have a:clean (r.takeWhile bK)=true:=Nk (p:=bK) (λc h=>⟨(Mc h).1,(Mc h).2.1⟩) _ (nS _ _);have e:r.takeWhile bK++r.dropWhile bK=r:=a1J;have h:=ma (r.takeWhile bK) (r.dropWhile bK) a;rw[e]at h;have hd:=vJ bK r;generalize r.takeWhile bK=n at *;generalize r.dropWhile bK=s at *;cases hb:bd s
 .obtain⟨x,s',rfl,d⟩:=Dc hb
  obtain⟨f,b⟩:=Md x s' hb;refine⟨?_,by simp⟩;rw[h.1,b,Gw _ _ _ (hd x s' rfl)];simp
 simp_all[yj,hb]
theorem aq0(r:LB):(aJ (fw r)||fw r == [45])=((eZ r).2.1&&bd (eZ r).2.2)/\((eZ r).2.1=true->bd (eZ r).2.2=true->fw r=(eZ r).1/\wG r=(eZ r).2.2):=by
 unfold eZ
 by_cases ht:aQ [45] r=true
 .rw[a0m ht]
  have e:=fC ht;generalize aK [45] r=r' at *;subst e;have h:=ma [45] r' (by decide);rw[h.1,h.2];cases hb:bd r'
  .obtain⟨x,s',rfl,c⟩:=Dc hb
   obtain⟨a,b⟩:=Md x s' hb;rw[b];have:aJ ([45]++x::a)=false:=by have:=Gw [] 45 (x::a) (by decide);simpa using this
   rw[this];simp
  simp[yj,hb]
 grind [fw,Nj,qF,aqZ]
def yl(D:LB)(n:Nat):Nat:=D.foldl (λn c=>n*10+(c.toNat-48)) n
def abQ:∀(D:LB) (n:Nat),n*10 ^ D.length<=yl D n
 | [],n=>by simp[yl]
 | c::D,n=>by have:=abQ D (n*10+(c.toNat-48));unfold yl at *;simp only[a1R,a0r,Nat.pow_succ];refine a0h ?_ this;rw[a1b (10 ^ D.length) 10,<-a0Z];exact a0z _ (by omega)
def aii:∀(D:LB) (n:Nat),D.all nG=true->yl D n<(n+1)*10 ^ D.length
 | [],n,_=>by simp[yl]
 | c::D,n,h=>by simp only[a1P,a0O]at h;have a:=abP h.1;have:=aii D (n*10+(c.toNat-48)) h.2;unfold yl at *;simp only[a1R,a0r,Nat.pow_succ];refine a0t this ?_;rw[a1b (10 ^ D.length) 10,<-a0Z];exact a0z _ (by omega)
theorem abR:∀(D:LB) (n:Nat),D.all nG=true->Ap D (n:Int)=(yl D n:Int)
 | [],n,_=>rfl
 | c::D,n,h=>by
   simp only[a1P,a0O]at h;have b:=abP h.1;have a:lW c.toNat=true:=h.1;unfold Ap;rw[a0m a];have:(10*(n:Int)+c.toNat-48)=((n*10+(c.toNat-48):Nat):Int):=by omega
   rw[this,abR D _ h.2]
   rfl
def aeh:∀(D s:LB) (n:Nat),D.all nG=true->(∀x r,s=x::r->nG x=false)->n<=99999->(if yl D n<=99999 then uP (D++s) n=(yl D n,true,s) else (uP (D++s) n).2.1=false)
 | [],s,n,_,b,d=>by
   have a:yl [] n=n:=rfl;rw[a0V,a,a0m d];cases s with
   | nil=>rfl
   | cons x r=>unfold uP;rw[a0n (by rw[b x r rfl];simp)]
 | c::D,s,n,h,b,d=>by
   simp only[a1P,a0O]at h;rw[a0L];unfold uP;rw[a0m h.1];have a:yl (c::D) n=yl D (n*10+(c.toNat-48)):=rfl
   by_cases hb:99999<n*10+(c.toNat-48)
   .rw[a0m hb]
    have:=abQ D (n*10+(c.toNat-48));have e:1<=10 ^ D.length:=a2P (by simp);have f:n*10+(c.toNat-48)<=(n*10+(c.toNat-48))*10 ^ D.length:=a2r _ e;rw[a0n (by rw[a];omega)]
   rw[a0n hb,a];exact aeh D s _ h.2 b (by omega)
theorem asK(r:LB):decide (0<=iR (fw r))=((lI r).2.1&&bd (lI r).2.2)/\((lI r).2.1=true->bd (lI r).2.2=true->iR (fw r)=((lI r).1:Int)/\wG r=(lI r).2.2):=by
 unfold lI
 by_cases ht:aQ [48] r=true
 .rw[a0m ht]
  have e:=fC ht;generalize aK [48] r=r' at *;subst e;have h:=ma [48] r' (by decide);rw[h.1,h.2];cases hb:bd r'
  .obtain⟨x,s',rfl,j⟩:=Dc hb
   obtain⟨k,i⟩:=Md x _ hb;rw[i];refine⟨?_,by simp⟩;have:iR ([48]++x::k)=-1:=by simp[iR,hd]
   rw[this];simp
  simp[yj,hb,iR,Ap,hd,nG,lW]
 rw[a0n ht];have w:clean (r.takeWhile nG)=true:=Nk (p:=nG) (λc h=>⟨(abP h).1,(abP h).2.1⟩) _ (nS _ _);have e:r.takeWhile nG++r.dropWhile nG=r:=a1J;have h:=ma (r.takeWhile nG) (r.dropWhile nG) w;rw[e]at h;have o:=vJ nG r;have d:=nS nG r
 by_cases f:lW (hd r)=true
 .rw[a0n (by simp[f])]
  have y:∃c D,r.takeWhile nG=c::D/\c≠48:=by
   cases r with
   | nil=>simp[hd,lW]at f
   | cons c r'=>have q:nG c=true:=f;refine⟨c,r'.takeWhile nG,by rw[List.takeWhile_cons,q];rfl,λe=>?_⟩;subst e;exact ht (qF [48] r').1
  have t:=aeh (r.takeWhile nG) (r.dropWhile nG) 0 d (λx r' h=>o x r' h) (by omega);rw[e]at t;generalize r.takeWhile nG=D at *;generalize r.dropWhile nG=s at *;obtain⟨c,a,rfl,g⟩:=y;have G:=aii (c::a) 0 d;have u:10 ^ a.length<=yl (c::a) 0:=by
   have F:=abQ a (0*10+(c.toNat-48));have E:yl (c::a) 0=yl a (0*10+(c.toNat-48)):=rfl;simp only[a1P,a0O]at d;have C:=abP d.1;have B:c.toNat≠48:=λe=>g (a1w.1 (by simpa using e))
   have b:1<=0*10+(c.toNat-48):=by omega
   have m:1*10 ^ a.length<=(0*10+(c.toNat-48))*10 ^ a.length:=a0z _ b;omega
  have l:∀z,iR ((c::a)++z)=if z=[] then (if (c::a).length<=5 then (yl (c::a) 0:Int) else -1) else iR ((c::a)++z):=by
   intro z
   by_cases hz:z=[]
   .subst hz
    rw[a0m rfl,a0R];unfold iR;have A:(hd (c::a)==48)=false:=by rw[a0j];intro e;apply g;apply a1w.1;have:(c.toNat:Int)=48:=e;show c.toNat=48;omega
    rw[A,d]
    by_cases b:(c::a).length<=5
    .rw[a0m b,a0f (by omega)]
     have:=abR (c::a) 0 d;simpa using this
    rw[a0n b,a0g (by omega)];simp
   rw[a0n hz]
  have b:(c::a).length<=5↔yl (c::a) 0<=99999:=by
   constructor
   .intro b
    have:(0+1)*10 ^ (c::a).length<=(0+1)*10 ^ 5:=a0o _ (a1r (by omega) b);omega
   intro b;apply Classical.byContradiction;intro m;have:10 ^ 5<=10 ^ a.length:=a1r (by omega) (by simp at m;omega);omega
  cases hb:bd s
  .obtain⟨x,s',rfl,j⟩:=Dc hb
   obtain⟨k,i⟩:=Md x s' hb;have:iR (fw r)=-1:=by grind [iR,nG]
   rw[this]
   by_cases v:yl (c::a) 0<=99999
   .grind
   grind
  have n:=yj s hb;rw[h.1,h.2,n.1,n.2,l [],a0m rfl]
  by_cases v:yl (c::a) 0<=99999
  .grind
  grind
 rw[a0m (by simp[f])];refine⟨?_,by simp⟩;have:iR (fw r)=-1:=by
  cases r with
  | nil=>rfl
  | cons x r' =>
    have j:nG x=false:=by
     have:lW (hd (x::r'))=false:=by simpa using f
     exact this
    cases hb:bd (x::r')
    .obtain⟨k,i⟩:=Md x r' hb
     rw[i];unfold iR;simp[j]
    rw[(yj _ hb).1];rfl
 rw[this];simp
theorem aei:∀(L acc:List LB),Asc acc->L.foldl oH acc=L.foldl lM acc
 | [],acc,_=>rfl
 | n::L,acc,h=>by
   simp only[a1R];have e:oH acc n=lM acc n/\Asc (oH acc n):=by grind [oH,lM,akB,ahQ,adT]
   rw[<-e.1];exact aei L _ e.2
theorem aq1:DV L=Ed L:=aei L [] (by simp[Asc])
def C0(l:LB):List LB:=oD false 44 l false false
theorem al3:C0 []=[[]]:=rfl
theorem aej:C0 (44::r)=[]::C0 r:=by
 unfold C0;conv=>lhs;unfold oD
 rfl
theorem aij(x:UInt8)(h:x≠44):C0 (x::r)=glue [x] (C0 r):=by
 unfold C0;conv=>lhs;unfold oD
 simp[h]
theorem afT:∀(p s:LB),(∀x∈p,x≠44)->C0 (p++s)=glue p (C0 s)
 | [],s,_=>by
   cases h:C0 s with
   | nil=>exact(Db _ _ _ _ _ h).elim
   | cons=>simp[h,glue]
 | x::p,s,h=>by simp_all[aij,afT,ze]
theorem asL(l:LB):1<=(C0 l).length:=by grind [C0,Db]
theorem VI(r:LB):fw (44::r)=44::fw r/\wG (44::r)=wG r:=by have:=ma [44] r (by decide);simpa using this
def al4(s:LB)(h:aQ [44] s=false)(hb:bd s=false):∃x s',s=x::s'/\x≠32/\x≠44:=by obtain⟨x,s',rfl,a⟩:=Dc hb;refine⟨x,s',rfl,a,λe=>?_⟩;subst e;have:=(qF [44] s').1;simp at this;rw[this]at h;cases h
def Xv(k:Nat)(acc:List LB)(a:LB):List LB × Bool × LB :=
 if !(aJ (a.takeWhile bK))||decide (4<=acc.length) then ([],false,a.dropWhile bK) else uQ k (acc++[a.takeWhile bK]) (a.dropWhile bK)
def aq2:∀(k:Nat) (acc:List LB) (l:LB),5<=k+acc.length->acc.length<=4 ->
 (if (C0 (fw l)).all aJ&&decide (acc.length+(C0 (fw l)).length<=4) then Xv k acc l=(acc++C0 (fw l),true,wG l) else ((Xv k acc l).2.1&&bd (Xv k acc l).2.2)=false):=by
 intro k
 induction k with
 | zero=>intro acc l B A;omega
 | succ k t =>
 intro acc l B A;have w:clean (l.takeWhile bK)=true:=Nk (p:=bK) (λc h=>⟨(Mc h).1,(Mc h).2.1⟩) _ (nS _ _);have I:∀x∈l.takeWhile bK,x≠44:=λx u=>(Mc (a1d.1 (nS bK l) x u)).2.2.1
 have e:l.takeWhile bK++l.dropWhile bK=l:=a1J;have h:=ma (l.takeWhile bK) (l.dropWhile bK) w;rw[e]at h;have r:=vJ bK l;unfold Xv;generalize l.takeWhile bK=n at *;generalize l.dropWhile bK=s at *;rw[h.1,h.2,afT n _ I];have f:∀x s',s=x::s'->x≠44->x≠32->(glue n (C0 (fw s))).all aJ=false:=by
  intro x s' es b a;subst es;obtain⟨C,G⟩:=Md x s' (by simpa[bd] using a);rw[G,aij x b,ze];cases hz:C0 C with
  | nil=>exact(Db _ _ _ _ _ hz).elim
  | cons y Y=>simp only[glue,a1P];rw[a0M,a1h,Gw n x y (r x s' rfl)];rfl
 by_cases d:(!(aJ n)||decide (4<=acc.length))=true
 .rw[a0m d,a0n]
  .simp
  rw[a1a]at d;intro hh;rw[a0O]at hh;rcases d with g|z
  ·
   have i:aJ n=false:=by simpa using g
   cases hb:bd s
   .by_cases ht:aQ [44] s=true
    .have es:=fC ht
     rw[a1h]at es;rw[es,(VI _).1,aej]at hh;simp[glue,i]at hh
    obtain⟨x,s',es,a,b⟩:=al4 s (by simpa using ht) hb;rw[f x s' es b a]at hh;simp at hh
   simp_all[yj,hb,al3,hh,glue]
  have:4<=acc.length:=by simpa using z
  have m:=asL (fw s);have v:(glue n (C0 (fw s))).length=(C0 (fw s)).length:=by
   cases hz:C0 (fw s) with
   | nil=>rw[hz]at m;simp at m
   | cons=>rfl
  have:=hh.2;rw[v]at this;simp at this;omega
 rw[a0n d];simp only[a1a,not_or,a1j,a0U]at d;have g:aJ n=true:=by simpa using d.1
 have H:acc.length<4:=by omega
 have o:(acc++[n]).isEmpty=false:=by cases acc<;>rfl
 by_cases ht:aQ [44] s=true
 ·
  have es:=fC ht;rw[a1h]at es;have j:uQ (k+1) (acc++[n]) s=Xv k (acc++[n]) (aK [44] s):=by
   conv=>lhs;unfold uQ
   unfold Xv;rw[o,ht]
   rfl
  rw[j];generalize aK [44] s=s' at *;have:=t (acc++[n]) s' (by simp;omega) (by simp;omega);rw[es,(VI s').1,(VI s').2,aej];have F:acc.length+(C0 (fw s')).length+1=(acc++[n]).length+(C0 (fw s')).length:=by simp;omega
  have E:glue n ([]::C0 (fw s'))=n::C0 (fw s'):=by simp[glue]
  have D:acc++n::C0 (fw s')=(acc++[n])++C0 (fw s'):=by simp
  rw[E,a1P,g,a3k,a0r,<-a2M,F,D];exact this
 have q:aQ [44] s=false:=by simpa using ht
 have j:uQ (k+1) (acc++[n]) s=(acc++[n],true,s):=by
  conv=>lhs;unfold uQ
  rw[o,q]
  rfl
 rw[j];cases hb:bd s
 .obtain⟨x,s',es,a,b⟩:=al4 s q hb
  rw[f x s' es b a];simp
 rw[(yj s hb).1,(yj s hb).2,al3];have:glue n [[]]=[n]:=by simp[glue]
 rw[this,a0m (by simp[g];omega)]
theorem aq3(r:LB):((C0 (fw r)).all aJ&&decide ((C0 (fw r)).length<=4))=((gL r).2.1&&bd (gL r).2.2)/\((gL r).2.1=true->bd (gL r).2.2=true->C0 (fw r)=(gL r).1/\wG r=(gL r).2.2):=by
 have h:=aq2 5 [] r (by simp) (by simp);have e:gL r=Xv 5 [] r:=by unfold gL uQ Xv;simp
 rw[e];simp only[a1e,a1n,a0V]at h
 by_cases a:((C0 (fw r)).all aJ&&decide ((C0 (fw r)).length<=4))=true
 .grind [afS]
 grind
end
section
variable {α:Type} {Z:LN} {w w0 w1 w4:World} {gg kb:Nat} {V V' V1 V2:V6} {U U' U1 U2:V4} {r r':RD} {s':CS} {t l rc:LB} {d:Nat} {told:Bool} {names W:List LB} {t0 t1 t2:Int} {C:List CR}
theorem anT(c:UInt8):(if nG c then ((c-48:UInt8),true) else if 97<=c/\c<=102 then (c-97+10,true) else (0,false))=(if 0<=lL c then (UInt8.ofNat (lL c).toNat,true) else (0,false)):=by have:=vO (p:=λc=>decide ((if nG c then ((c-48:UInt8),true) else if 97<=c/\c<=102 then (c-97+10,true) else (0,false))=(if 0<=lL c then (UInt8.ofNat (lL c).toNat,true) else (0,false)))) (by decide +kernel) c;exact a2q this
theorem Ej(c:UInt8){r:LB}:gK (c::r)=if 0<=lL c then (UInt8.ofNat (lL c).toNat,true,r) else (0,false,c::r):=by grind [anT,gK,nG,lL]
theorem aek{a b:Int}(c:0<=a)(hb:0<=b):UInt8.ofNat a.toNat*16+UInt8.ofNat b.toNat=UInt8.ofNat (16*a+b).toNat:=by
 have:(16*a+b).toNat=a.toNat*16+b.toNat:=by omega
 rw[this,UInt8.ofNat_add,UInt8.ofNat_mul]
 rfl
theorem afU(x:UInt8)(h:x≠34)(a:x≠92):oo (x::t) true false=(x::(oo t true false).1,(oo t true false).2):=by
 conv=>lhs;unfold oo
 have c:(x==34)=false:=by simpa using h
 have b:(x==92)=false:=by simpa using a
 rw[c,b];simp
def abS(x:UInt8)(t:LB):oo (92::x::t) true false=(92::x::(oo t true false).1,(oo t true false).2):=by
 conv=>lhs;unfold oo
 simp only[show((92:UInt8)==34)=false from rfl];rw[a0m (by rfl)]
 conv=>lhs;unfold oo
 rfl
def akD(t:LB):oo (34::t) true false=(34::(oo t false false).1,(oo t false false).2):=by
 conv=>lhs;unfold oo
 rfl
theorem anU:oo (34::t) false false=(34::(oo t true false).1,(oo t true false).2):=by
 conv=>lhs;unfold oo
 rfl
theorem Nl(a b x y:UInt8):aQ [a,b] (x::y::t)=(a==x&&b==y):=by simp[aQ,List.isPrefixOf]
theorem take1(a x:UInt8):aQ [a] (x::t)=(a==x):=by simp[aQ,List.isPrefixOf]
theorem anV(a b x:UInt8)(h:a≠x):aQ [a,b] (x::t)=false:=by grind [aQ]
theorem rest_of {p l s:LB}(h:l=p++s):aK p l=s:=by subst h;exact(qF p s).2
theorem anW(l:LB)(a:(pN l).2.1=true)(o:aQ [34] l=false):∃e,l=e++(pN l).2.2/\1<=e.length/\(∀j m acc,dR (j+1) (e++m) acc=dR j m (acc++[(pN l).1]))/\(∀t,oo (e++t) true false=(e++(oo t true false).1,(oo t true false).2)):=by
 unfold pN at *
 by_cases k:aQ [92,34] l=true
 .rw[a0m k]
  have e:=fC k
  exact⟨[92,34],e,by simp,λj m acc=>by conv=>lhs;unfold dR
                                       rfl,λt=>by have:=abS 34 t;simpa using this⟩
 rw[a0n k]at a |-
 by_cases i:aQ [92,92] l=true
 .rw[a0m i]
  have e:=fC i
  exact⟨[92,92],e,by simp,λj m acc=>by conv=>lhs;unfold dR
                                       rfl,λt=>by have:=abS 92 t;simpa using this⟩
 rw[a0n i]at a |-
 by_cases h:aQ [92,120] l=true
 .rw[a0m h]at a |-
  have e:=fC h;generalize aK [92,120] l=r at *;subst e;unfold Ex at *;dsimp only at *;cases r with
  | nil=>simp[gK]at a
  | cons x r =>
    rw[Ej]at a |-
    by_cases d:0<=lL x
    .rw[a0m d]at a |-
     dsimp only at *;cases r with
     | nil=>simp[gK]at a
     | cons y r =>
       rw[Ej]at a |-
       by_cases b:0<=lL y
       .rw[a0m b]at a |-
        dsimp only;refine⟨[92,120,x,y],by simp,by simp,λj m acc=>?_,λt=>?_⟩
        .rw[aek d b]
         conv=>lhs;unfold dR
         have d1:decide (lL x<0)=false:=a0f (by omega);have u:decide (lL y<0)=false:=a0f (by omega);simp[d1,u,mR]
        have g:∀z:UInt8,0<=lL z->z≠34/\z≠92:=by intro z hz;have:=vO (p:=λc=>!(decide (0<=lL c))||(!(c==34)&&!(c==92))) (by decide +kernel) z;simp[hz]at this;exact this
        have:=abS 120 (x::y::t);rw[afU x (g x d).1 (g x d).2,afU y (g y b).1 (g y b).2]at this;simpa using this
       grind
    grind
 rw[a0n h]at a |-;cases l with
 | nil=>simp at a
 | cons c r =>
   dsimp only at *
   by_cases f:(!(mR c.toNat)||c==92)=true
   .grind
   rw[a0n f];simp[a1a,not_or,a1j,a2X,a0W]at f;have n:c≠34:=λe=>by subst e;rw[take1]at o;simp at o
   refine⟨[c],rfl,by simp,λj m acc=>?_,λt=>?_⟩
   .conv=>lhs;unfold dR
    simp only[a1h];have s:(c==34)=false:=by simpa using n
    have q:(c==92)=false:=by simpa using f.2
    rw[s,q,f.1];rfl
   grind [afU]
theorem abT:∀(k:Nat) (acc l v s:LB),acc.length<=40->tZ k acc l=(v,true,s)->∃m,l=m++34::s/\(∀j,m.length<j->dR j m acc=some v)/\(∀t,oo (m++34::t) true false=(m++34::(oo t false false).1,(oo t false false).2))/\v.length<=40
 | 0,acc,l,v,s,_,h=>by simp[tZ]at h
 | k+1,acc,l,v,s,p,h=>by
   unfold tZ at h
   by_cases a:aQ [34] l=true
   .rw[a0m a]at h
    simp at h;obtain⟨rfl,rfl⟩:=h;have e:=fC a;refine⟨[],by simpa using e,λj c=>?_,λt=>by simpa using akD t,p⟩;obtain⟨j,rfl⟩:∃b,j=b+1:=⟨j-1,by simp at c;omega⟩
    rfl
   rw[a0n a]at h
   by_cases d:(!(pN l).2.1||decide (40<=acc.length))=true
   .grind
   rw[a0n d]at h;simp only[a1a,not_or,a1j,a2X,a0U]at d;obtain⟨e,he,o,i,r⟩:=anW l d.1 (by simpa using a);obtain⟨m,n,c,q,g⟩:=abT k _ _ v s (by simp;omega) h;refine⟨e++m,by rw[a0M,<-n];exact he,λj f=>?_,λt=>?_,g⟩
   .obtain⟨j,rfl⟩:∃b,j=b+1:=⟨j-1,by omega⟩
    rw[i,c j (by simp at f;omega)]
   grind
theorem akE(m v:LB)(h:dR (m.length+2) m []=some v)(a:v.length<=40):gV (34::(m++[34]))=(v,true):=by
 unfold gV;have f:decide ((34::(m++[34])).length<2)=false:=a0f (by simp);have e:(hd (34::(m++[34]))==34)=true:=rfl;have d:((34::(m++[34])).getLast?==some 34)=true:=by grind
 have c:((34::(m++[34])).take ((34::(m++[34])).length-1)).drop 1=m:=by simp
 have b:(34::(m++[34])).length=m.length+2:=by simp
 rw[f,e,d,c,b,h];simp[a]
theorem akF(l v s:LB)(h:qm l=(v,true,s)):∃q,l=34::q++s/\gV (34::q)=(v,true)/\(∀t,fw (34::q++t)=34::q++fw t/\wG (34::q++t)=wG t):=by
 unfold qm at h
 by_cases ht:aQ [34] l=true
 .rw[a0m ht]at h
  obtain⟨m,d,c,a,b⟩:=abT _ _ _ v s (by simp) h;refine⟨m++[34],by rw[(fC ht),d];simp,akE m v (c _ (by omega)) b,λt=>?_⟩;have f:(34::(m++[34])++t)=34::(m++34::t):=by simp
  unfold fw wG;rw[f,anU,a];simp
 grind
theorem ael(j:Nat)(c:UInt8)(r acc v:LB)(h:dR (j+1) (c::r) acc=some v):∃e n m,c::r=e++m/\1<=e.length/\dR j m (acc++[n])=some v/\∀t,pN (e++t)=(n,true,t)/\aQ [34] (e++t)=false:=by
 unfold dR at h
 by_cases l:(c==34||!(mR c.toNat))=true
 .grind
 rw[a0n l]at h;simp[a1a,not_or,a1j,a2X,a0W]at l
 by_cases b:(c==92)=true
 .rw[a0m b]at h
  have:c=92:=by simpa using b
  subst this;cases r with
  | nil=>simp at h
  | cons d g =>
    dsimp only at h
    by_cases f:(d==120)=true
    .rw[a0m f]at h
     have:d=120:=by simpa using f
     subst this
     match g,h with
     | [],h=>simp at h
     | [x],h=>simp at h
     | x::y::o,h =>
       dsimp only at h
       by_cases a:(decide (lL x<0)||decide (lL y<0))=true
       .grind
       rw[a0n a]at h;simp[a1a,not_or,a0U]at a;have k:0<=lL x:=by omega
       have i:0<=lL y:=by omega
       refine⟨[92,120,x,y],_,o,by simp,by simp,h,λt=>⟨?_,by simp[take1]⟩⟩;unfold pN;simp[a0L,a0V];rw[Nl,Nl,Nl];have q:aK [92,120] (92::120::x::y::t)=x::y::t:=rest_of rfl;rw[q,a0n (by decide),a0n (by decide),a0m (by decide)];unfold Ex;dsimp only;rw[Ej,a0m k];dsimp only;rw[Ej,a0m i,aek k i]
       rfl
    rw[a0n f]at h
    by_cases a:(!(d==34)&&!(d==92))=true
    .grind
    rw[a0n a]at h;refine⟨[92,d],d,g,by simp,by simp,h,λt=>⟨?_,by simp[take1]⟩⟩;unfold pN;simp[a0L,a0V];rw[Nl,Nl]
    by_cases hd:d=34
    .subst hd
     rw[a0m (by decide)];exact congrArg _ (congrArg _ (rest_of rfl))
    have p:d=92:=by simp at a;exact a hd
    subst p;rw[a0n (by decide),a0m (by decide)];exact congrArg _ (congrArg _ (rest_of rfl))
 rw[a0n b]at h;have:c≠92:=by simpa using b
 refine⟨[c],c,r,rfl,by simp,h,λt=>⟨?_,?_⟩⟩
 .grind [pN,anV]
 grind [take1]
def ail:∀(j:Nat) (m acc v:LB),dR j m acc=some v->acc.length<=v.length
 | 0,m,acc,v,h=>by simp[dR]at h
 | j+1,[],acc,v,h=>by simp[dR]at h;subst h;omega
 | j+1,c::r,acc,v,h=>by obtain⟨e,b,m,_,_,a,_⟩:=ael j c r acc v h;have:=ail j m _ v a;simp at this;omega
def Xx:∀(j k:Nat) (m acc v s:LB),dR j m acc=some v->v.length<=40->m.length<k->tZ k acc (m++34::s)=(v,true,s)
 | 0,k,m,acc,v,s,h,_,_=>by simp[dR]at h
 | j+1,0,m,acc,v,s,h,_,f=>by omega
 | j+1,k+1,[],acc,v,s,h,_,_=>by simp[dR]at h;subst h;unfold tZ;have:=qF [34] s;simp[a1h]at this;rw[a0V,this.1,a0m rfl,this.2]
 | j+1,k+1,c::r,acc,v,s,h,b,f=>by
   obtain⟨e,l,m,he,g,a,ht⟩:=ael j c r acc v h;have d:=ail j m _ v a;simp[a0p,a0X]at d;rw[he,a0M];unfold tZ;have:(c::r).length=e.length+m.length:=by rw[he];simp
   rw[(ht _).2,(ht _).1,a0n (by simp),a0n (by simp;omega)];exact Xx j k m _ v s a b (by omega)
theorem anX(q v:LB)(h:gV q=(v,true)):∃m,q=34::(m++[34])/\dR q.length m []=some v/\v.length<=40:=by
 unfold gV at h
 by_cases b:(decide (q.length<2)||!(hd q==34)||!(q.getLast?==some 34))=true
 .grind
 rw[a0n b]at h;simp only[a1a,not_or,a0U,a1j,a2X,a0W]at b;obtain⟨⟨g,n⟩,p⟩:=b;have e:q=34::(((q.take (q.length-1)).drop 1)++[34]):=by
  cases q with
  | nil=>simp at g
  | cons c r =>
    have j:c=34:=by apply a1w.1;have:(c.toNat:Int)=34:=n;show c.toNat=34;omega
    subst j;have d:r≠[]:=λe=>by subst e;simp at g
    have l:r.getLast d=34:=by grind
    have f:=a2t d;rw[l]at f;have k:(List.take ((34::r).length-1) (34::r)).drop 1=r.dropLast:=by grind
    rw[k,f]
 cases a:dR q.length ((q.take (q.length-1)).drop 1) [] with
 | none=>rw[a]at h;simp at h
 | some o=>rw[a]at h;simp at h;obtain⟨rfl,i⟩:=h;exact⟨_,e,a,i⟩
def Xy(q v s:LB)(h:gV q=(v,true)):qm (q++s)=(v,true,s)/\∃a,q=34::a:=by
 obtain⟨m,rfl,c,b⟩:=anX q v h;refine⟨?_,_,rfl⟩;have e:(34::(m++[34])++s)=34::(m++34::s):=by simp
 rw[e];unfold qm;have:=qF [34] (m++34::s);simp only[a1h]at this;rw[this.1,a0m rfl,this.2];exact Xx _ _ m [] v s c b (by simp;omega)
def qG(m:CM):RM:=(m.1,jr m.2.1,m.2.2)
def aim(h:(jq l).2.1=true):l=jr (jq l).1++(jq l).2.2:=by
 unfold jq at *
 by_cases c:aQ [61,126] l=true
 .rw[a0m c];exact fC c
 rw[a0n c]at h |-
 by_cases b:aQ [33,126] l=true
 .rw[a0m b];exact fC b
 rw[a0n b]at h |-
 by_cases a:aQ [33,61] l=true
 .rw[a0m a];exact fC a
 rw[a0n a]at h |-;exact fC h
theorem ain(k:Nat)(h:k<=3):k=0\/k=1\/k=2\/k=3:=by omega
theorem afV(k:Nat)(a:k<=3):jq (jr k++34::t)=(k,true,34::t):=by grind [ain,jr,jq,Nl,take1,aK,rest_of]
def aem(k:Nat):∃x t,jr k=x::t/\(x=61\/x=33):=by
 unfold jr
 split
 .exact⟨_,_,rfl,.inr rfl⟩
 split
 .exact⟨_,_,rfl,.inl rfl⟩
 split
 .exact⟨_,_,rfl,.inr rfl⟩
 exact⟨_,_,rfl,.inl rfl⟩
def afW(k:Nat):clean (jr k)=true:=by
 unfold jr
 split
 .decide
 split
 .decide
 split<;>decide
def aen {p:UInt8->Bool}(n:LB)(x:UInt8)(t:LB)(b:n.all p=true)(a:p x=false):(n++x::t).takeWhile p=n/\(n++x::t).dropWhile p=x::t:=by simp_all
theorem anY(c:UInt8):(!(bK c)||qy c)=true:=vO (p:=λc=>!(bK c)||qy c) (by decide +kernel) c
theorem akG(n:LB)(h:n.all bK=true):n.all qy=true:=by grind [anY]
theorem aeo(n:LB)(h:aJ n=true):n.all bK=true:=by grind [aJ]
theorem akH(n:LB)(k:Nat)(q v:LB)(d:aJ n=true)(g:k<=3)(hq:gV q=(v,true)):rV (n++(jr k++q))=((n,jr k,v),true):=by
 obtain⟨_,a,rfl⟩:=Xy q v [] hq;have h:=akG n (aeo n d);obtain⟨x,t,e,f⟩:=aem k;have b:qy x=false:=by rcases f with rfl|rfl<;>decide
 have c:=aen n x (t++34::a) h b;rw[<-a0L,<-e]at c;unfold rV;rw[c.1,c.2];dsimp only;rcases ain k g with rfl|rfl|rfl|rfl
 .have e:jr 0++34::a=61::34::a:=rfl
  rw[e];have s2:ui (61::34::a)=false:=by simp[ui]
  have s1:CJ (61::34::a)=true:=by simp[CJ,hd]
  rw[s2,s1];simp[hq,d,jr]
 .grind [jr,ui]
 .grind [jr,ui]
 grind [jr,ui]
def axk(r:LB)(h:CJ r=true):∃t,r=61::t:=by
 unfold CJ at h;cases r with
 | nil=>simp at h
 | cons c t=>simp only[a0O,a0W]at h;have:(c.toNat:Int)=61:=h.2;have:c=61:=a1w.1 (by show c.toNat=61;omega);exact⟨t,by rw[this]⟩
theorem aq4(h:LB)(m:RM)(e:rV h=(m,true)):∃n k q v,h=n++(jr k++q)/\k<=3/\aJ n=true/\gV q=(v,true)/\m=(n,jr k,v):=by
 have d:h.takeWhile qy++h.dropWhile qy=h:=a1J;unfold rV at e;dsimp only at e;generalize h.takeWhile qy=n at *;generalize h.dropWhile qy=r at *
 by_cases c:ui r=true
 .rw[a0m c]at e
  simp only[Prod.mk.injEq,a0O]at e;obtain⟨rfl,g,b⟩:=e;unfold ui at c;simp only[a0O,a0U,a1a,a0W]at c;have f:r=r.take 2++r.drop 2:=(a1C 2 r).symm;have hq:gV (r.drop 2)=((gV (r.drop 2)).1,true):=by rw[<-g]
  rcases c.2 with(a|a)|a
  .exact⟨n,2,r.drop 2,_,by rw[<-d];conv=>lhs;rw[f,a]
                           rfl,by omega,b,hq,by rw[a];rfl⟩
  .exact⟨n,3,r.drop 2,_,by rw[<-d];conv=>lhs;rw[f,a]
                           rfl,by omega,b,hq,by rw[a];rfl⟩
  exact⟨n,1,r.drop 2,_,by rw[<-d];conv=>lhs;rw[f,a]
                          rfl,by omega,b,hq,by rw[a];rfl⟩
 rw[a0n c]at e
 by_cases i:CJ r=true
 .rw[a0m i]at e
  obtain⟨t,rfl⟩:=axk r i;simp only[Prod.mk.injEq,a0O]at e;obtain⟨rfl,g,b⟩:=e;have hq:gV t=((gV t).1,true):=by grind
  exact⟨n,0,t,_,by rw[<-d];rfl,by omega,b,hq,rfl⟩
 grind
theorem aio(n:LB)(k:Nat)(q v s:LB)(g:aJ n=true)(i:k<=3)(hq:gV q=(v,true)):kF (n++(jr k++q)++s)=((n,k,v),true,s):=by
 have f:=Xy q v s hq;obtain⟨b,rfl⟩:=f.2;obtain⟨x,t,e,h⟩:=aem k;have c:bK x=false:=by rcases h with rfl|rfl<;>decide
 have d:=aen n x (t++34::(b++s)) (aeo n g) c;rw[<-a0L,<-e]at d;have j:n++(jr k++34::b)++s=n++(jr k++34::(b++s)):=by simp
 rw[j];unfold kF;dsimp only;rw[d.1,d.2,afV k i];dsimp only;have a:=f.1;rw[a0L]at a;rw[a,g];rfl
theorem asM(r:LB):(rV (fw r)).2=((kF r).2.1&&bd (kF r).2.2)/\((kF r).2.1=true->bd (kF r).2.2=true->(rV (fw r)).1=qG (kF r).1/\wG r=(kF r).2.2):=by
 have fwd:(kF r).2.1=true->bd (kF r).2.2=true->rV (fw r)=(qG (kF r).1,true)/\wG r=(kF r).2.2:=by
  intro f g;unfold kF at *;dsimp only at *;simp only[a0O]at f;obtain⟨⟨b,d⟩,t⟩:=f;have B:r.takeWhile bK++r.dropWhile bK=r:=a1J;have x:clean (r.takeWhile bK)=true:=Nk (p:=bK) (λc h=>⟨(Mc h).1,(Mc h).2.1⟩) _ (nS _ _);have A:=aim d;have C:=adf (r.dropWhile bK);generalize r.takeWhile bK=n at *;generalize r.dropWhile bK=o at *;generalize E:jq o=K at *;obtain⟨k,kb,l2⟩:=K;dsimp only at *;generalize y:qm l2=V at *;obtain⟨v,D,s⟩:=V;dsimp only at *;subst t;obtain⟨q,z,u,w⟩:=akF l2 v s y;have m:=ma n (jr k++(34::q++s)) x;have l:=ma (jr k) (34::q++s) (afW k);have j:=w s;have i:=yj s g;have a:r=n++(jr k++(34::q++s)):=by rw[<-B,A,z]
  rw[a,m.1,m.2,l.1,l.2,j.1,j.2,i.1,i.2,a0R,akH n k (34::q) v b C u];exact⟨rfl,rfl⟩
 have bwd:(rV (fw r)).2=true->(kF r).2.1=true/\bd (kF r).2.2=true:=by intro h;obtain⟨n,k,q,v,e,d,b,hq,_⟩:=aq4 (fw r) (rV (fw r)).1 (by rw[<-h]);have a:=Nj r;rw[e]at a;rw[a,aio n k q v (wG r) b d hq];exact⟨rfl,afS r⟩
 refine⟨?_,λf g=>?_⟩
 .grind
 grind
def S5(l:LB):Option Bool:=if (aK iq l).isEmpty then some (aQ iq l) else none
theorem ava(h:bd l=false):S5 l=none:=by grind [S5,aqY,aK,iq,Dc]
def VJ(W:List LB):Option Bool:=if (W.length==1)&&(W.getD 0 []==EI) then some true else if W.isEmpty then some false else none
theorem avb(l:LB)(h:bd l=true):S5 l=VJ (tw l):=by
 cases l with
 | nil=>rfl
 | cons x r =>
   have:x=32:=by simpa[bd] using h
   subst this;rw[Ad,EM];unfold VJ S5
   by_cases a:aQ iq (32::r)=true
   .have e:=fC a
    have b:r=EI++aK iq (32::r):=by grind [EI,aK,iq]
    rw[a];generalize aK iq (32::r)=s at *;subst b;have f:=ma EI s (by decide);rw[f.1,f.2];cases s with
    | nil=>rfl
    | cons y s =>
      simp only[a1I];rw[a0n (by simp)];cases hb:bd (y::s)
      .obtain⟨i,b⟩:=Md y s hb
       rw[b];rw[a0n]
       .rfl
       simp
      simp[yj,hb,Ad,EM]
   have c:aK iq (32::r)=32::r:=by unfold aQ at a;unfold aK;rw[a0n a]
   rw[c];simp only[a1I];rw[a0n (by simp),a0n]
   .rfl
   intro hh;apply a;simp only[a0r,a0O,a0W]at hh;have g:wG r=[]:=(asJ).1 (by omega);have d:fw r=EI:=by simpa using hh.2
   have:=Nj r;rw[g,d,a0R]at this;rw[this];decide
theorem afX(k:Nat)(W:List LB)(acc:List RM)(h:QQ wIf W=false):(if (dO (k+1) W acc).2.2 then some ((dO (k+1) W acc).1,(dO (k+1) W acc).2.1) else none)=if acc.length<=4 then (VJ W).map (λb=>(acc,b)) else none:=by grind [dO,QQ,VJ,EI]
theorem Xz:∀(k:Nat) (W:List LB) (acc:List RM),4<acc.length->(dO k W acc).2.2=false
 | 0,W,acc,h=>rfl
 | k+1,W,acc,h=>by
   unfold dO
   split
   .split
    .exact Xz k _ _ (by simp;omega)
    rfl
   grind
def S4g(k:Nat)(acc:List CM)(l:LB):Option (List CM × Bool):=if (wP k acc l).2.1 then (S5 (wP k acc l).2.2).map (λb=>((wP k acc l).1,b)) else none
def R4g(k:Nat)(acc:List RM)(W:List LB):Option (List RM × Bool):=if (dO k W acc).2.2 then some ((dO k W acc).1,(dO k W acc).2.1) else none
theorem aip(k:Nat)(acc:List CM)(l:LB)(h:bd l=false):S4g (k+1) acc l=none:=by grind [S4g,wP,aQ,tq,Ug,ava]
theorem aep:∀(k k2:Nat) (acc:List CM) (l:LB),6<=k+acc.length->acc.length<=4->bd l=true->(tw l).length<k2->(S4g k acc l).map (λx=>(x.1.map qG,x.2))=R4g k2 (acc.map qG) (tw l)
 | 0,k2,acc,l,s,r,_,_=>by omega
 | k+1,0,acc,l,s,r,hb,y=>by omega
 | k+1,k2+1,acc,l,s,r,hb,y=>by
   have c:QQ wIf (tw l)=aQ tq l:=akC wIf l (by decide) hb
   by_cases ht:aQ tq l=true
   .have p:=abO wIf l (by decide) ht
    have u:(tw l).getD 1 []=fw (aK tq l):=p.1;have m:(tw l).drop 2=tw (wG (aK tq l)):=p.2;rw[ht]at c;have hlen:1<(tw l).length:=by grind [QQ]
    have q:=asM (aK tq l);have g:R4g (k2+1) (acc.map qG) (tw l)=if (rV (fw (aK tq l))).2 then R4g k2 (acc.map qG++[(rV (fw (aK tq l))).1]) (tw (wG (aK tq l))) else none:=by
     unfold R4g;have e:dO (k2+1) (tw l) (acc.map qG)=if (rV (fw (aK tq l))).2 then dO k2 (tw (wG (aK tq l))) (acc.map qG++[(rV (fw (aK tq l))).1]) else (acc.map qG,false,false):=by
      conv=>lhs;unfold dO
      unfold QQ at c;rw[c,u,m];rfl
     rw[e]
     by_cases v:(rV (fw (aK tq l))).2=true
     .grind
     grind
    have w:S4g (k+1) acc l=if !(kF (aK tq l)).2.1||decide (4<=acc.length) then none else S4g k (acc++[(kF (aK tq l)).1]) (kF (aK tq l)).2.2:=by
     unfold S4g;have e:wP (k+1) acc l=if !(kF (aK tq l)).2.1||decide (4<=acc.length) then (acc,false,(kF (aK tq l)).2.2) else wP k (acc++[(kF (aK tq l)).1]) (kF (aK tq l)).2.2:=by
      conv=>lhs;unfold wP
      rw[ht];rfl
     rw[e]
     by_cases v:(!(kF (aK tq l)).2.1||decide (4<=acc.length))=true
     .grind
     grind
    rw[g,w,q.1];generalize z:kF (aK tq l)=X at *;obtain⟨x,f,d⟩:=X;dsimp only at *;cases f
    .simp
    cases i:bd d
    .by_cases a:4<=acc.length
     .simp[a]
     obtain⟨n,rfl⟩:∃n,k=n+1:=⟨k-1,by omega⟩;rw[a0n (by simp[a]),aip _ _ _ i];simp
    have j:=q.2 rfl i
    by_cases a:4<=acc.length
    .have:R4g k2 (acc.map qG++[(rV (fw (aK tq l))).1]) (tw (wG (aK tq l)))=none:=by unfold R4g;rw[Xz _ _ _ (by simp;omega)];rfl
     rw[this];simp[a]
    rw[a0n (by simp[a]),j.1,j.2];have o:=aep k k2 (acc++[x]) d (by simp;omega) (by simp;omega) i (by
     have:(tw d).length=(tw l).length-2:=by rw[<-j.2,<-m,a2F]
     omega)
    rw[a0P]at o;rw[o];simp
   have t:aQ tq l=false:=by simpa using ht
   rw[t]at c;have h:=afX k2 (tw l) (acc.map qG) c;have g:R4g (k2+1) (acc.map qG) (tw l)=(VJ (tw l)).map (λb=>(acc.map qG,b)):=by grind [R4g]
   rw[g];unfold S4g wP;rw[t];simp only[a0A,a0I,a0G];rw[avb l hb];cases VJ (tw l)<;>simp
def S4(l:LB):Option (List CM × Bool):=S4g 6 [] l
theorem avc(h:bd l=false):S4 l=none:=aip 5 [] l h
def R4(W:List LB):Option (List RM × Bool):=R4g (W.length+1) [] W
theorem avd(l:LB)(h:bd l=true):(S4 l).map (λx=>(x.1.map qG,x.2))=R4 (tw l):=aep 6 _ [] l (by simp) (by simp) h (a3j _)
theorem abU(p:LB)(c:clean p=true)(F:LB->Int->Option α)(G:List LB->Int->Option α)(hF:∀l n,bd l=false->F l n=none)(hG:∀l n,bd l=true->F l n=G (tw l) n)(l:LB)(hb:bd l=true) :
 (if (bZ (32::(p++[32])) l).2.1 then F (bZ (32::(p++[32])) l).2.2 (bZ (32::(p++[32])) l).1 else none)=(if QQ p (tw l) then (if decide (iR ((tw l).getD 1 [])<0) then none else G ((tw l).drop 2) (iR ((tw l).getD 1 []))) else G (tw l) (-1)):=by
 rw[akC p l c hb];unfold bZ
 by_cases ht:aQ (32::(p++[32])) l=true
 .have b:=abO p l c ht
  have d:=asK (aK (32::(p++[32])) l);simp only[a0m ht];rw[b.1,b.2];generalize aK (32::(p++[32])) l=r at *;generalize e:lI r=N at *;obtain⟨n,a,nr⟩:=N;dsimp only at *;cases a
  .grind
  grind
 grind
def akI(p:LB)(F:LB->Int->Option α)(hF:∀l n,bd l=false->F l n=none)(l:LB)(hb:bd l=false) :
 (if (bZ (32::p) l).2.1 then F (bZ (32::p) l).2.2 (bZ (32::p) l).1 else none)=none:=by simp_all[bZ,Ug,hb]
theorem by_step(F:LB->Bool->List LB->Option α)(G:List LB->Bool->List LB->Option α)(hF:∀l t n,bd l=false->F l t n=none)(hG:∀l t n,bd l=true->F l t n=G (tw l) t n)(l:LB)(hb:bd l=true) :
 (if (lK l).ok then F (lK l).rest (lK l).tells (lK l).names else none)=(match qX (tw l) with | none=>none|some (told,names,W)=>G W told names):=by
 have q:=akC wBy l (by decide) hb;have c:QQ wBy (tw l)=aQ [32,98,121,32] l:=q;unfold qX;unfold QQ at c;rw[c];unfold lK
 by_cases ht:aQ [32,98,121,32] l=true
 .have k:=abO wBy l (by decide) ht
  have m:(tw l).getD 1 []=fw (aK [32,98,121,32] l):=k.1;have o:(tw l).drop 2=tw (wG (aK [32,98,121,32] l)):=k.2;simp only[a0m ht];rw[m,o];generalize aK [32,98,121,32] l=r at *
  by_cases b:aQ [45] r=true
  .simp only[a0m b]
   have e:=fC b;generalize aK [45] r=s at *;subst e;have f:=ma [45] s (by decide);rw[f.1,f.2];cases a:bd s
   .obtain⟨x,s',rfl,_⟩:=Dc a
    obtain⟨d,w⟩:=Md x s' a;rw[w];simp only[a0G];rw[hF _ _ _ a];have i:([45]++x::d == [45])=false:=by simp
    rw[i];have v:(dU false 44 ([45]++x::d)).all aJ=false:=by
     rw[Ue];have:=afT [45] (x::d) (by simp);unfold C0 at this;rw[this];cases hz:oD false 44 (x::d) false false with
     | nil=>exact(Db _ _ _ _ _ hz).elim
     | cons y Y=>have:=Gw [] 45 y (by decide);simp only[glue,a1P];rw[a0V]at this;rw[a1h,this];rfl
    rw[v];simp
   simp_all[yj,hG]
  simp only[a0n b];have i:(fw r == [45])=false:=by grind [Nj,qF]
  rw[i];have p:=aq3 r;have u:dU false 44 (fw r)=C0 (fw r):=Ue _;rw[u,p.1];generalize gL r=z at *;obtain⟨A,g,j⟩:=z;dsimp only at *;cases g
  .simp
  cases h:bd j
  .simp[hF j _ _ h]
  simp_all[aq1,hG]
 grind
def qN(c:CR):RR:=⟨c.rc,c.tb,c.jM,c.wt,c.ev,c.rp,c.ifs.map qG,c.co,c.d⟩
def F0(d:Nat)(rc:LB)(told:Bool)(names:List LB)(t0 t1 t2:Int)(l:LB):Option RR:=(S4 l).map λx=>⟨rc,told,names,t0,t1,t2,x.1.map qG,x.2,d⟩
def G0(d:Nat)(rc:LB)(told:Bool)(names:List LB)(t0 t1 t2:Int)(W:List LB):Option RR:=(R4 W).map λx=>⟨rc,told,names,t0,t1,t2,x.1,x.2,d⟩
theorem aq5(l:LB)(h:bd l=false):F0 d rc told names t0 t1 t2 l=none:=by grind [F0,avc]
def ave(l:LB)(h:bd l=true):F0 d rc told names t0 t1 t2 l=G0 d rc told names t0 t1 t2 (tw l):=by unfold F0 G0;rw[<-avd l h];cases S4 l<;>rfl
def F1(d:Nat)(rc:LB)(told:Bool)(names:List LB)(t0 t1:Int)(l:LB):Option RR:=if (bZ rO l).2.1 then F0 d rc told names t0 t1 (bZ rO l).1 (bZ rO l).2.2 else none
def F2(d:Nat)(rc:LB)(told:Bool)(names:List LB)(t0:Int)(l:LB):Option RR:=if (bZ pV l).2.1 then F1 d rc told names t0 (bZ pV l).1 (bZ pV l).2.2 else none
def F3(d:Nat)(rc:LB)(told:Bool)(names:List LB)(l:LB):Option RR:=if (bZ qo l).2.1 then F2 d rc told names (bZ qo l).1 (bZ qo l).2.2 else none
def VK(d:Nat)(rc:LB)(told:Bool)(names:List LB)(k:Nat)(a:Int × Int × Int)(W:List LB):Option RR:=match nO k a W with | none=>none|some (a,W2)=>G0 d rc told names a.1 a.2.1 a.2.2 W2
def aq6(l:LB)(h:bd l=false):F1 d rc told names t0 t1 l=none:=by have:=akI (rW++[32]) (λl n=>F0 d rc told names t0 t1 n l) (λl n h=>aq5 l h) l h;exact this
def aq7(l:LB)(h:bd l=false):F2 d rc told names t0 l=none:=by have:=akI (vQ++[32]) (λl n=>F1 d rc told names t0 n l) (λl n h=>aq6 l h) l h;exact this
theorem aq8(l:LB)(h:bd l=false):F3 d rc told names l=none:=by have:=akI (Az++[32]) (λl n=>F2 d rc told names n l) (λl n h=>aq7 l h) l h;exact this
theorem VL{k:Nat}(a:Int × Int × Int):VK d rc told names (k+1) a W=if QQ (alP k) W then (if decide (iR (W.getD 1 [])<0) then none else VK d rc told names k (aqi k a (iR (W.getD 1 []))) (W.drop 2)) else VK d rc told names k a W:=by
 unfold VK;have e:nO (k+1) a W=if QQ (alP k) W then (if decide (iR (W.getD 1 [])<0) then none else nO k (aqi k a (iR (W.getD 1 []))) (W.drop 2)) else nO k a W:=by
  conv=>lhs;unfold nO
  rfl
 rw[e]
 by_cases b:QQ (alP k) W=true
 .grind
 simp only[a0n b]
def avf(l:LB)(h:bd l=true):F1 d rc told names t0 t1 l=VK d rc told names 1 (t0,t1,-1) (tw l):=by have:=abU rW (by decide) (λl n=>F0 d rc told names t0 t1 n l) (λW n=>VK d rc told names 0 (t0,t1,n) W) (λl n h=>aq5 l h) (λl n h=>ave l h) l h;rw[VL];exact this
def avg(l:LB)(h:bd l=true):F2 d rc told names t0 l=VK d rc told names 2 (t0,-1,-1) (tw l):=by have:=abU vQ (by decide) (λl n=>F1 d rc told names t0 n l) (λW n=>VK d rc told names 1 (t0,n,-1) W) (λl n h=>aq6 l h) (λl n h=>avf l h) l h;rw[VL];exact this
def avh(l:LB)(h:bd l=true):F3 d rc told names l=VK d rc told names 3 (-1,-1,-1) (tw l):=by have:=abU Az (by decide) (λl n=>F2 d rc told names n l) (λW n=>VK d rc told names 2 (n,-1,-1) W) (λl n h=>aq7 l h) (λl n h=>avg l h) l h;rw[VL];exact this
def F4(d:Nat)(rc:LB)(l:LB):Option RR:=if (lK l).ok then F3 d rc (lK l).tells (lK l).names (lK l).rest else none
theorem avi(h:bd l=false):F4 d rc l=none:=by grind [F4,lK,Ug,aq8]
def G4(d:Nat)(rc:LB)(W:List LB):Option RR:=match qX W with | none=>none|some (told,names,W1)=>VK d rc told names 3 (-1,-1,-1) W1
theorem avj(d:Nat)(rc:LB)(l:LB)(h:bd l=true):F4 d rc l=G4 d rc (tw l) :=
 by_step (λl t n=>F3 d rc t n l) (λW t n=>VK d rc t n 3 (-1,-1,-1) W) (λl t n h=>aq8 l h) (λl t n h=>avh l h) l h
def F5(d:Nat)(l:LB):Option RR:=if (eZ l).2.1 then F4 d (eZ l).1 (eZ l).2.2 else none
theorem avk{r:LB}:F5 d r=if aJ (fw r)||(fw r == [45]) then G4 d (fw r) (tw (wG r)) else none:=by
 have h:=aq0 r;rw[h.1];unfold F5;generalize eZ r=z at *;obtain⟨c,a,b⟩:=z;dsimp only at *;cases a
 .simp
 cases hb:bd b
 .simp[avi hb]
 simp_all[hb,avj]
theorem anZ:(gM t).map qN=if aQ lC (bO t).2 then F5 (bO t).1 (aK lC (bO t).2) else none:=by
 rw[aat];unfold F5 F4 F3 F2 F1 F0 S4 S4g;have m:srA t=eZ (aK lC (bO t).2):=rfl;have eb:srB t=lK (srA t).2.2:=rfl;have i:Ym t=dN (srB t).rest:=rfl;have em:srM t=wP 6 [] (Ym t).rest:=rfl
 by_cases l:aQ lC (bO t).2=true
 .rw[a0m l,a0m l,<-m]
  by_cases k:(srA t).2.1=true
  .rw[a0m k,a0m k,<-eb]
   by_cases j:(srB t).ok=true
   .rw[a0m j,a0m j]
    generalize n:Ym t=c at *;unfold dN at i;dsimp only at i;subst i;dsimp only at *;generalize bZ qo (srB t).rest=a at *;generalize bZ pV a.2.2=b at *;generalize bZ rO b.2.2=c at *
    by_cases h:a.2.1=true
    .by_cases d:b.2.1=true
     .by_cases g:c.2.1=true
      .rw[a0m (by simp[h,d,g]),a0m h,a0m d,a0m g,<-em]
       by_cases f:(srM t).2.1=true
       .rw[a0m f,a0m f]
        unfold S5
        by_cases e:(aK iq (srM t).2.2).isEmpty=true
        .rw[a0m e,a0m e];rfl
        rw[a0n e,a0n e];rfl
       rw[a0n f,a0n f];rfl
      rw[a0n (by simp[g]),a0m h,a0m d,a0n g];rfl
     rw[a0n (by simp[d]),a0m h,a0n d];rfl
    grind
   grind
  grind
 grind
theorem avl:rtW d W=if decide (W.length<2)||!(W.getD 0 []==Bn) then none else if aJ (W.getD 1 [])||(W.getD 1 [] == [45]) then G4 d (W.getD 1 []) (W.drop 2) else none:=by
 unfold rtW
 by_cases a:(decide (W.length<2)||!(W.getD 0 []==Bn))=true
 .rw[a0m a,a0m a]
 rw[a0n a,a0n a]
 by_cases b:(aJ (W.getD 1 [])||(W.getD 1 [] == [45]))=true
 .rw[a0m b,a0n (by intro h;simp only[a0O,a1j]at h;rw[h.1,h.2]at b;simp at b)]
  unfold G4;cases qX (W.drop 2) with
  | none=>rfl
  | some x =>
    obtain⟨told,names,e⟩:=x;dsimp only;unfold VK;cases nO 3 (-1,-1,-1) e with
    | none=>rfl
    | some y =>
      obtain⟨f,c⟩:=y;dsimp only;unfold G0 R4 R4g
      by_cases g:(dO (c.length+1) c []).2.2=true
      .grind
      grind
 grind
theorem an0:yY t=(gM t).map qN:=by
 rw[anZ];unfold yY;rw[avl,Ue];generalize (bO t).2=l;generalize (bO t).1=d;have g:oD true 32 l false false=fw l::tw (wG l):=EM l;rw[g]
 by_cases h:aQ lC l=true
 .rw[a0m h]
  have e:=fC h;generalize aK lC l=r at *;have i:l=Bn++32::r:=e;subst i;have f:=ma Bn (32::r) (by decide);have b:=yj (32::r) rfl;rw[f.1,f.2,b.1,b.2,Ad,EM,avk];simp;intro h;omega
 rw[a0n h,a0m];simp only[a1a,a0U,a0r,a1j,List.getD_cons_zero]
 by_cases c:fw l=Bn
 .left
  by_cases a:wG l=[]
  .rw[a,al2];simp
  exfalso
  obtain⟨r,e⟩:=aih (afS l) a;apply h;have:=Nj l;rw[c,e]at this;rw[this];exact(qF lC r).1
 right;simpa using c
def D0(c:UInt8)(l:LB):List LB:=oD false c l false false
theorem Y3(c:UInt8):D0 c []=[[]]:=rfl
theorem VM(c:UInt8){r:LB}:D0 c (c::r)=[]::D0 c r:=by
 unfold D0;conv=>lhs;unfold oD
 simp
theorem Uh(c x:UInt8)(r:LB)(h:x≠c):D0 c (x::r)=glue [x] (D0 c r):=by
 unfold D0;conv=>lhs;unfold oD
 simp[h]
theorem Me(c:UInt8)(l:LB):D0 c l≠[]:=Db _ _ _ _ _
theorem afY(c:UInt8):∀(p s:LB),(∀x∈p,x≠c)->D0 c (p++s)=glue p (D0 c s)
 | [],s,_=>by
   cases h:D0 c s with
   | nil=>exact(Me c s h).elim
   | cons=>simp[h,glue]
 | x::p,s,h=>by simp_all[Uh,afY,ze]
theorem aud(c:UInt8):dU false c l=D0 c l:=Ue _
def aiq(c:UInt8)(l:LB):∃h W,D0 c l=h::W/\(∀x r,l=x::r->x≠c->∃d,h=x::d):=by
 cases l with
 | nil=>exact⟨[],[],rfl,by simp⟩
 | cons x r =>
   by_cases a:x=c
   .subst a;exact⟨[],D0 x r,VM _,λy r' e b=>by simp at e;exact(b e.1.symm).elim⟩
   cases hz:D0 c r with
   | nil=>exact(Me c r hz).elim
   | cons y Y=>exact⟨x::y,Y,by rw[Uh c x r a,hz];rfl,λz r' e _=>by simp at e;exact⟨y,by rw[e.1]⟩⟩
theorem aq9:∀(k:Nat) (acc:List LB) (l:LB),9<=k+acc.length->acc.length<=8 ->
 DW (k+1) acc l=(match l with
  | []=>if 0<acc.length then some acc else none
  | x::r=>if x=32/\(D0 32 r).all aJ/\acc.length+(D0 32 r).length<=8 then some (acc++D0 32 r) else none):=by
 intro k
 induction k with
 | zero=>intro acc l o m;omega
 | succ k j =>
 intro acc l o m;unfold DW;cases l with
 | nil =>
   have:aQ [32] []=false:=rfl;rw[this]
   by_cases p:0<acc.length<;>simp[p]
 | cons x r =>
   by_cases c:x=32
   .subst c
    have ht:=qF [32] r;rw[a1h]at ht;rw[a0m ht.1];dsimp only;rw[ht.2];have e:r.takeWhile bK++r.dropWhile bK=r:=a1J;have f:∀x∈r.takeWhile bK,x≠32:=λx c=>(Mc (a1d.1 (nS bK r) x c)).1
    have i:=vJ bK r;have t:D0 32 r=glue (r.takeWhile bK) (D0 32 (r.dropWhile bK)):=by rw[<-afY 32 _ _ f,e]
    rw[t];generalize r.takeWhile bK=n at *;generalize r.dropWhile bK=s at *;obtain⟨h,W,a,hh⟩:=aiq 32 s;rw[a];simp only[glue,a1P,a0r];have u:aJ (n++h)=true->aJ n=true/\(s=[]\/∃r',s=32::r'):=by
     intro b;cases s with
     | nil=>rw[Y3]at a;simp at a;obtain⟨rfl,_⟩:=a;rw[a0R]at b;exact⟨b,.inl rfl⟩
     | cons y s' =>
       by_cases g:y=32
       .grind [VM]
       obtain⟨q,rfl⟩:=hh y s' rfl g;rw[Gw n y q (i y s' rfl)]at b;cases b
    by_cases d:(!(aJ n)||decide (8<=acc.length))=true
    .grind
    rw[a0n d];simp only[a1a,not_or,a1j,a2X,a0U]at d;rw[j (acc++[n]) s (by simp;omega) (by simp;omega)];cases s with
    | nil=>rw[Y3]at a;simp at a;obtain⟨rfl,rfl⟩:=a;simp[d.1];omega
    | cons y s' =>
      dsimp only
      by_cases g:y=32
      .grind [VM,D0,aJ]
      grind
   grind [aQ,take1]
theorem ara(t:LB):abq t=iW t:=by
 unfold abq iW;rw[aud]
 by_cases ht:aQ mU t=true
 .rw[a0m ht]
  have e:=fC ht;generalize aK mU t=l at *;subst e;rw[afY 32 mU l (by decide),aq9 9 [] l (by simp) (by simp)];cases l with
  | nil=>rfl
  | cons x r =>
    dsimp only
    by_cases a:x=32
    .grind [VM,D0,Me,glue,mU,aJ]
    obtain⟨h,W,f,hh⟩:=aiq 32 (x::r);obtain⟨i,rfl⟩:=hh x r rfl a;rw[f,a0n (by simp[glue]),a0n (λh=>a h.1)]
 rw[a0n ht,a0n];intro hh;apply ht;simp only[a0O,a0W]at hh;have b:=hh.1.1.1;have g:1<(D0 32 t).length:=by simpa using hh.1.1.2
 have key:∀(l:LB) (h:LB) (W:List LB),D0 32 l=h::W->∃s,l=h++s:=by
  intro l
  induction l with
  | nil=>intro h W e;rw[Y3]at e;simp at e;exact⟨[],by rw[e.1];rfl⟩
  | cons x r c =>
    intro h W e
    by_cases a:x=32
    .simp_all[VM]
    rw[Uh 32 x r a]at e;cases hz:D0 32 r with
    | nil=>exact(Me _ _ hz).elim
    | cons y Y=>rw[hz]at e;simp[glue]at e;obtain⟨s,d⟩:=c y Y hz;exact⟨s,by rw[<-e.1,d];rfl⟩
 cases hz:D0 32 t with
 | nil=>exact(Me _ _ hz).elim
 | cons h W =>
   rw[hz]at b;have:h=mU:=by simpa using b
   subst this;obtain⟨s,rfl⟩:=key t _ W hz;exact(qF mU s).1
def al6(x:Except Nat (List LB × List CR)):Except Nat (List LB × List RR):=match x with | .error n=>.error n | .ok (L,C)=>.ok (L,C.map qN)
theorem avm{x:LB}(a:W≠[]){i:Nat}{L:List LB}{R:List RR}:sO (x::W) i L R=if i==0 then (match abq x with | none=>.error 1|some L'=>sO W 1 L' R) else (match yY x with | none=>.error (i+1)|some r=>sO W (i+1) L (R++[r])):=by
 cases W with
 | nil=>exact(a rfl).elim
 | cons y W=>conv=>lhs;unfold sO
             rfl
theorem Nn:∀(l:LB) (i:Nat) (cur:LB) (L:List LB) (C:List CR),sO (glue cur (D0 10 l)) i L (C.map qN)=al6 (yw l (i+1) cur L C)
 | [],i,cur,L,C=>by grind [Y3,glue,sO,yw,al6]
 | c::r,i,cur,L,C=>by
   unfold yw
   by_cases f:c=10
   .subst f
    rw[VM];simp only[glue,a0R];have b:((10:UInt8)==10)=true:=rfl;rw[avm (Me _ _),b,ara,an0];simp only[a0G];have d:D0 10 r=glue [] (D0 10 r):=by
     cases h:D0 10 r with
     | nil=>exact(Me _ _ h).elim
     | cons=>rfl
    by_cases a:i=0
    .subst a
     rw[a0m (by rfl),a0m (by rfl)];cases e:iW cur with
     | none=>rfl
     | some k=>dsimp only;rw[d];exact Nn r 1 [] k C
    have j:(i==0)=false:=by simpa using a
    have g:(i+1==1)=false:=by simpa using a
    rw[j,g];simp only[a0A,a0I];cases e:gM cur with
    | none=>rfl
    | some x=>simp only[a1x];rw[d];have:=Nn r (i+1) [] L (C++[x]);rw[a0P]at this;exact this
   simp_all[Uh,ze,Nn]
theorem akJ:sO (dU false 10 t) 0 [] []=al6 (oV t):=by
 have:=Nn t 0 [] [] [];have a:glue [] (D0 10 t)=D0 10 t:=by
  cases h:D0 10 t with
  | nil=>exact(Me _ _ h).elim
  | cons=>rfl
 rw[a]at this;rw[aud];exact this
theorem air:∀(C:List CR) (i:Nat) (a:Nat),0<i->pX (C.map qN) i (a+1)=lD C i a
 | [],i,a,_=>rfl
 | c::C,i,a,g=>by
   rw[a0E];unfold pX lD;have b:(i==0)=false:=by rw[a0j];omega
   have f:uX i (qN c)=false:=by unfold uX;rw[b];rfl
   rw[f,b];have hd:(qN c).d=c.d:=rfl;simp only[a0A,a0I];have e:((!false&&!(qY i (a+1) (qN c)))||decide (5<(qN c).d)||decide (16<=i))=(!(jN (c.d:Int) (a:Int))||decide (16<=i)):=by grind [qY,jN,hd]
   rw[e,hd,air C (i+1) c.d (by omega)]
theorem an1:pX (C.map qN) 0 0=lD C 0 0:=by
 cases C with
 | nil=>rfl
 | cons c C =>
   rw[a0E];unfold pX lD;have a:uX 0 (qN c)=nW c:=by simp[uX,nW,qN]
   have hb:qY 0 0 (qN c)=false:=by unfold qY;rfl
   have hd:(qN c).d=c.d:=rfl;rw[a,hb,hd];have e:((!(nW c)&&!false)||decide (5<c.d)||decide (16<=0))=(!(if (0==0)=true then nW c else jN (c.d:Int) 0)||decide (16<=0)):=by grind [nW]
   rw[e,air C 1 c.d (by omega)]
theorem an3:uJ (C.map qN)=iX C:=by simp[uJ,iX,an1]
theorem ais(L:List LB):∀(C:List CR) (i:Nat),lN L (C.map qN) i=xM L C i
 | [],i=>rfl
 | c::C,i=>by rw[a0E];unfold lN xM;rw[ais L C (i+1)];rfl
def axl(x:Except (Nat × Nat) (List LB × List CR)):Except (Nat × Nat) (List LB × List RR):=match x with | .error n=>.error n | .ok (L,C)=>.ok (L,C.map qN)
theorem arb:sF t=axl (jH t):=by
 unfold sF jH
 by_cases a:1200<t.length
 .rw[a0m a,a0m a];rfl
 rw[a0n a,a0n a,akJ];cases oV t with
 | error n=>rfl
 | ok x =>
   obtain⟨L,C⟩:=x;simp only[al6];have e:xh L (C.map qN)=if 0<iX C then (3,iX C) else if 0<mr L C then (4,mr L C) else (0,0):=by grind [xh,mr,an3,ais,iX,mq,xM]
   rw[e]
   by_cases c:0<iX C
   .simp only[a0m c];rfl
   simp only[a0n c]
   by_cases b:0<mr L C
   .simp only[a0m b];rfl
   simp only[a0n b];rfl
def asN(c:CR)(h:xN c)(hd:c.d<=5):alQ (qN c):=by
 refine⟨by show c.d<=9000;omega,?_,h.byl,λn f=>xO (h.jM n f),h.wt,h.ev,h.rp,by show(c.ifs.map qG).length<=4;rw[a0y];exact h.ifl,λm i=>?_⟩
 .rcases h.rc with e|e
  .show c.rc.length<=8;rw[e];simp
  exact xO e
 have a:m∈c.ifs.map qG:=i;rw[a0q]at a;obtain⟨x,b,rfl⟩:=a;have g:=h.ifs x b;exact⟨xO g.name,by show(jr x.2.1).length<=2;unfold jr;split<;>(try split)<;>(try split)<;>simp,g.val⟩
def KS.own {s:CS}(h:KS Z w0 kb w V U s)(i:Nat)(a:∀ca cq,(Gm V U s ca cq)[i]?=some r):OW r.ty r.k w0.heap.size w r.v r.vs:=by obtain⟨ca,cq,g⟩:=h.g;exact g.rw.asz i r (a ca cq)
theorem KS.lo {s:CS}(h:KS Z w0 kb w V U s):kb<w0.heap.size/\w0.heap.size<=w.heap.size:=by obtain⟨ca,cq,g⟩:=h.g;exact⟨g.lo,g.fr.size⟩
theorem KS.put{s:CS}(h:KS Z w0 kb w V U s)(f:aB [] w w1)(i:Nat)(r r':RD)(d:∀ca cq,(Gm V U s ca cq)[i]?=some r)(l:∀ca cq,(Gm V U s ca cq).set i r'=Gm V' U' s' ca cq)(c:s'.a=s.a)(b:s'.q=s.q)
 (e:w1.grownBy w4 r.v.ownBlock) (ho:OW r'.ty r'.k w0.heap.size w4 r'.v r'.vs) (hb:r'.v.ownBlock=some gg) (t:r.v.ownBlock=some gg\/gg=w1.heap.size) (o:Nat) (v:Value) (n:(VD V U).setIfInBounds o v=VD V' U'):KS Z w0 kb (w4.setCell (zB kb o) v) V' U' s':=by
 have y:=h.own i d;obtain⟨ca,cq,g⟩:=h.g;have z:=g.lo;have x:=g.aC f (by simp);have j:=x.grow i (d ca cq) e ho hb t;rw[l]at j;have u:=j.aC (S:=[kb]) ((aB.refl [kb] _).setCell (p:=(zB kb o)) (.inl (by simp)) v) (by simp);refine⟨((h.row.aC f (by simp)).grown e (λr m=>by have:=(y.lt m).1;omega)).set o v n,ca,cq,?_⟩;rw[c,b];exact u
def Mf(V:V6)(U:V4):LN:=[V.n,V.c,U.x,V.a,V.t,U.q].flatMap λv=>v.ownBlock.toList
theorem Np(V:V6)(U:V4)(s:CS)(ca cq:List (Array Value)):owns (Gm V U s ca cq)=Mf V U:=rfl
structure KF(kb:Nat)(w:World)(V:V6)(U:V4)(w':World)(V':V6)(U':V4):Prop where
 f:aB (kb::Mf V U) w w'
 asz:∀g∈Mf V' U',g∈Mf V U\/w.heap.size<=g
theorem KF.refl(kb:Nat)(w:World)(V:V6)(U:V4):KF kb w V U w V U:=⟨zK,λg h=>.inl h⟩
theorem KF.trans{c:World}(h:KF kb w V U w1 V1 U1)(k:KF kb w1 V1 U1 c V2 U2):KF kb w V U c V2 U2:=by
 refine⟨h.f.over k.f ?_,λg d=>?_⟩
 .intro x b
  rcases a0l.1 b with rfl|b
  .exact .inr (by simp)
  rcases h.asz x b with a|a
  .exact .inr (by simp[a])
  exact .inl a
 rcases k.asz g d with a|a
 .exact h.asz g a
 exact .inr (a0h h.f.size a)
def KF.of(h:aB [] w w1):KF kb w V U w1 V U:=⟨zK.over h (by simp),λg a=>.inl a⟩
theorem KF.put{s:CS} {ca cq ca' cq':List (Array Value)}(f:aB [] w w1)(i:Nat)(c:(Gm V U s ca cq)[i]?=some r)(l:(Gm V U s ca cq).set i r'=Gm V' U' s' ca' cq')(n:w1.grownBy w4 r.v.ownBlock)(hb:r'.v.ownBlock=some gg)(a:r.v.ownBlock=some gg\/gg=w1.heap.size)(o:Nat)(v:Value):KF kb w V U (w4.setCell (zB kb o) v) V' U':=by
 have k:i<(Gm V U s ca cq).length:=(a0d.1 c).1;refine⟨((((aB.refl _ w).over f (by simp))).grown n (λg m=>.inl ?_)).setCell (p:=(zB kb o)) (.inl (by simp)) v,λg d=>?_⟩
 .rw[<-Np V U s ca cq]
  exact a0l.2 (.inr (oK.2 ⟨i,r,c,m⟩))
 rw[<-Np V' U' s' ca' cq',<-l]at d;obtain⟨j,t,b,ht⟩:=oK.1 d
 by_cases e:j=i
 .subst e
  rw[List.getElem?_set_self k]at b;cases b
  rw[hb]at ht;cases ht
  rcases a with a|a
  .exact .inl (by rw[<-Np V U s ca cq];exact oK.2 ⟨j,r,c,a⟩)
  exact .inr (by rw[a];exact f.size)
 rw[List.getElem?_set_ne (λh=>e h.symm)]at b;exact .inl (by rw[<-Np V U s ca cq];exact oK.2 ⟨j,t,b,ht⟩)
theorem KS.off {S:LN}{w':World} {s:CS}(h:KS Z w0 kb w V U s)(f:aB S w w')(c:∀g∈S,g∈Z)(a:∀g∈S,w0.heap.size<=g)(ho:∀g∈S,g∉Mf V U):KS Z w0 kb w' V U s:=by have d:=h.lo.1;obtain⟨ca,cq,g⟩:=h.g;exact⟨h.row.aC f (λb=>by have:=a kb b;omega),ca,cq,g.off f c a ho⟩
def arc(a b:jd):QE a b=(a.n==b.n&&(a.k==b.k&&a.x==b.x)):=rfl
def RW.tst {A:LN} {v:Value} {L:List jd}(h:RW A 3 w v (tc L)):∃a cap,v=.slice a L.length cap/\∀(j:Nat) (c:j<L.length),∃g off,a=some (zB g off)/\g<w.heap.size/\zC w g (off+j*3) (zI (L[j].n:Nat))/\zC w g (off+j*3+1) (zI (L[j].k:Nat))/\zC w g (off+j*3+2) (zI (L[j].x:Nat)):=by obtain⟨a,cap,e,m,f⟩:=h;rw[YX]at e;refine⟨a,cap,e,λj c=>?_⟩;obtain⟨g,off,i,l,d,b⟩:=f j (by rw[YX];exact c);exact⟨g,off,i,d,b 0 _ (by simp[tc,kV]),b 1 _ (by simp[tc,kV]),b 2 _ (by simp[tc,kV])⟩
def Ui(w0:World)(kb:Nat)(w:World)(V:V6)(U:V4)(s:CS)(h:KS Z w0 kb w V U s)(x:jd)(dY:s.t.length<=1000) :
 zF 54 #[zP kb,.agg (kV x)] w λe w'=>e=zR (zI (C6 s.t x:Nat))/\∃V',KS Z w0 kb w' V' U { s with t:=pE s.t x }/\(V'.r=V.r/\V'.i=V.i)/\KF kb w V U w' V' U:=by
 obtain⟨J,M,N,vt,vr,L⟩:=V;have hO:=h.own 4 (λca cq=>rfl);obtain⟨a,cap,rfl,r⟩:=(hO.rw (A:=[]) (by simp)).tst;have c3:=h.row.c 3;simp at c3;have O:=aj hO;have HK:=aj h;have jU:=h.lo;have YG:=h.row.lt;obtain⟨f,d,b⟩:=x;simp only[kV];delta zF;go_in
 go_wp2_with fail
 go_loopg [13] s.t.length (λk P wr=>∃j:Nat,j+k=s.t.length/\P=zI j/\aB [] w wr/\Z_ (wr.heap[w.heap.size]?=some (Obj.cells #[zI f,zI d,zI b] 113))/\Z_ (∀i (n:i<j) (E:i<s.t.length),QE s.t[i] ⟨f,d,b⟩=false))
 case atStart=>exact⟨0,by omega,rfl,(aB.refl _ _).alloc _,bD _ _,λi n=>by omega⟩
 case round =>
  obtain⟨j,_,rfl,hF,I,u⟩:=hrel;have F:=aj hF;have:=hF.size;have B:=I.o;have:zC wr w.heap.size 0 (zI f):=by simp[World.cell?,B]
  have:zC wr w.heap.size 1 (zI d):=by simp[World.cell?,B]
  have:zC wr w.heap.size 2 (zI b):=by simp[World.cell?,B]
  have W:=(a0c.1 B).1;have:=hF.at YG c3
  by_cases aL:j<s.t.length
  .have gJ:decide ((j:Int)<(s.t.length:Int))=true:=a0g (by omega)
   obtain⟨g,off,rfl,Y,q0,q1,q2⟩:=(aj r).o j aL;have t0:=hF.at Y q0;have t1:=hF.at Y q1;have t2:=hF.at Y q2;have:g<wr.heap.size:=by omega
   have q:=arc s.t[j] ⟨f,d,b⟩;have m:Z_ (QE s.t[j] ⟨f,d,b⟩=true->C6 s.t ⟨f,d,b⟩=j):=λhe=>asB aL (λi n=>u.o i n (by omega)) he
   have l:Z_ (QE s.t[j] ⟨f,d,b⟩=false->∀i (n:i<j+1) (E:i<s.t.length),QE s.t[i] ⟨f,d,b⟩=false):=λhe i n jc=>by
    by_cases e:i=j
    .subst e;exact he
    exact u.o i (by omega) jc
   generalize X:s.t[j]=tj at *;obtain⟨C,ak,ax⟩:=tj;simp only at t0 t1 t2 q
   by_cases e1:C=f
   .subst e1
    by_cases e2:ak=d
    .subst e2
     by_cases e3:ax=b
     .subst e3
      have D:Z_ (C6 s.t ⟨C,ak,ax⟩=j):=m.o (by rw[q];simp);have HA:Z_ (pE s.t ⟨C,ak,ax⟩=s.t):=by show _=_;unfold pE;rw[a0n];rw[D.o];omega
      go_wp2;go_ret;rw[D.o,HA.o];exact⟨rfl,_,HK.o.aC (F.o.alloc _),⟨rfl,rfl⟩,KF.of (F.o.alloc _)⟩
     have z:Z_ (∀i (n:i<j+1) (E:i<s.t.length),QE s.t[i] ⟨C,ak,b⟩=false):=l.o (by rw[q];simp[e3]);go_wp2;go_roundg (gk-1)
     case measure=>omega
     case rel=>exact⟨j+1,by omega,by go_num,F.o.alloc _,((aB.refl [] _).alloc _ |>.block w.heap.size W (by simp)).trans I,z⟩
    have z:Z_ (∀i (n:i<j+1) (E:i<s.t.length),QE s.t[i] ⟨C,d,b⟩=false):=l.o (by rw[q];simp[e2]);go_wp2;go_roundg (gk-1)
    case measure=>omega
    case rel=>exact⟨j+1,by omega,by go_num,F.o.alloc _,((aB.refl [] _).alloc _ |>.block w.heap.size W (by simp)).trans I,z⟩
   have z:Z_ (∀i (n:i<j+1) (E:i<s.t.length),QE s.t[i] ⟨f,d,b⟩=false):=l.o (by rw[q];simp[e1]);go_wp2;go_roundg (gk-1)
   case measure=>omega
   case rel=>exact⟨j+1,by omega,by go_num,F.o.alloc _,((aB.refl [] _).alloc _ |>.block w.heap.size W (by simp)).trans I,z⟩
  have:decide ((j:Int)<(s.t.length:Int))=false:=a0f (by omega);have D:Z_ (C6 s.t ⟨f,d,b⟩=s.t.length):=anz (λi n=>u.o i (by omega) n);have HA:Z_ (pE s.t ⟨f,d,b⟩=s.t++[⟨f,d,b⟩]):=by show _=_;unfold pE;rw[a0m D.o]
  have T:Z_ ((tc s.t).length=s.t.length):=YX;have Dt:Z_ (∀r,Value.ownBlock (.slice a s.t.length cap)=some r->r≠kb):=λr hr=>by have:=(O.o.lt hr).1;omega
  have v:=aj (HK.o.aC hF);have:=v.o.row.fz 3;have:=jU.2;have:kb<wr.heap.size:=by omega
  go_wp2_with fail
  go_region_law ((refine CU (by rfl) 50 113 3 24 anv Tryz.underlying50 (by rfl) (by omega) (by rfl) w0.heap.size (.slice a s.t.length cap) (tc s.t) wr.heap.size (kV ⟨f,d,b⟩) (0,0) (by rfl) ((aj (O.o.aC hF (by simp))).o.aC (S:=[]) (((aB.refl [] _).alloc _).drew) (by simp)) (by rfl) (by rfl) (by exact bD _ _) (akj _) (by rw[T.o];omega) (by rw[T.o];omega) (by simp;omega) (wr.heap.size+1) (by simp) ?_;intro gg y w4 G H bq _;rw[T.o]at G |-;have R4:=aj ((v.o.row.aC (S:=[]) (((aB.refl [] _).alloc _).drew) (by simp)).grown H Dt);have k3:=R4.o.c 3;have y3:=R4.o.fz 3;simp at k3))
  all_goals
   rw[aqr]at G;have K5:=aj (v.o.put (((aB.refl [] _).alloc _).drew) 4 ⟨113,3,.slice a s.t.length cap,tc s.t⟩ ⟨113,3,zS gg (s.t.length+1) y,tc (s.t++[⟨f,d,b⟩])⟩ (V':=⟨J,M,N,zS gg (s.t.length+1) y,vr,L⟩) (U':=U) (s':={ s with t:=s.t++[⟨f,d,b⟩] }) (λca cq=>rfl) (λca cq=>rfl) rfl rfl H G rfl (by simpa using bq) 3 (zS gg (s.t.length+1) y) rfl);have KF5:Z_ (KF kb w ⟨J,M,N,.slice a s.t.length cap,vr,L⟩ U (w4.setCell (zB kb 3) (zS gg (s.t.length+1) y)) ⟨J,M,N,zS gg (s.t.length+1) y,vr,L⟩ U):=KF.put (s:=s) (s':={ s with t:=s.t++[⟨f,d,b⟩] }) (ca:=[]) (cq:=[]) (ca':=[]) (cq':=[]) ((F.o.alloc _).drew) 4 (r:=⟨113,3,.slice a s.t.length cap,tc s.t⟩) (r':=⟨113,3,zS gg (s.t.length+1) y,tc (s.t++[⟨f,d,b⟩])⟩) rfl rfl H rfl (by simpa using bq) _ _;have m3:=K5.o.row.c 3;simp at m3;go_wp2;go_ret;rw[D.o,HA.o];exact⟨congrArg Ending.returned (by go_num),_,K5,⟨rfl,rfl⟩,KF5⟩
def RCP(re:LB->Nat)(bI:LB->gz)(v:LB):Prop :=
 ∀w:World,zF 93 #[zT v] w λe w'=>aB [] w w'/\∃cs:Array Value,cs.size=259/\cs.all (·.oneCell')=true/\e=zQ #[.agg cs,zI (re v:Nat)]/\(re v=0->∀A:LN,(∀g∈A,g<w.heap.size)->dV adY A w' [cs] [bI v])
def KV(V V':V6)(U U':V4):Prop:=V'.r=V.r/\V'.i=V.i/\U'.rt=U.rt/\U'.l=U.l
theorem KV.refl(V:V6)(U:V4):KV V V U U:=⟨rfl,rfl,rfl,rfl⟩
theorem KV.trans(h:KV V V1 U U1)(k:KV V1 V2 U1 U2):KV V V2 U U2:=⟨k.1.trans h.1,k.2.1.trans h.2.1,k.2.2.1.trans h.2.2.1,k.2.2.2.trans h.2.2.2⟩
def NAQ(Z:LN)(re:LB->Nat)(bI:LB->gz)(w0:World)(kb:Nat)(w:World)(V:V6)(U:V4)(s:CS)(v:LB)(e:Ending)(w':World):Prop :=
 (iL s.x v<s.x.length/\e=zQ #[zI (iL s.x v:Nat),zI 0]/\KS Z w0 kb w' V U s/\KF kb w V U w' V U) \/
 (iL s.x v=s.x.length/\re v=0/\e=zQ #[zI s.x.length,zI 0]/\∃V' U',KS Z w0 kb w' V' U' { s with x:=s.x++[v],a:=s.a++[bI v] }/\KV V V' U U'/\KF kb w V U w' V' U') \/
 (iL s.x v=s.x.length/\re v≠0/\e=zQ #[zI 0,zI (re v:Nat)]/\aB [kb] w0 w'/\KF kb w V U w' V U)
def KS.fr {s:CS}(h:KS Z w0 kb w V U s):aB [kb] w0 w:=by obtain⟨ca,cq,g⟩:=h.g;exact g.fr
def KG.ait {rs:List RD} {ca:List (Array Value)} {c:List gz} {cq:List (Array Value)} {b:List (List (Nat × Bool))}(h:KG Z w0 kb w rs ca c cq b):∀g∈kb::owns rs,g<w.heap.size:=by
 intro g a;rcases a0l.1 a with rfl|a
 .exact a0t h.lo h.fr.size
 obtain⟨i,r,d,ho⟩:=oK.1 a;exact((h.rw.asz i r d).lt ho).2
def VN {rs:List RD}(i:Nat)(f:rs[i]?=some r)(hb:r'.v.ownBlock=some gg):∀g∈Z++kb::owns (rs.set i r'),g∈Z++kb::owns rs\/g=gg:=by
 have d:i<rs.length:=(a0d.1 f).1;intro g a;rcases a0e.1 a with a|a
 .exact .inl (a0e.2 (.inl a))
 rcases a0l.1 a with rfl|a
 .exact .inl (by simp)
 obtain⟨j,s,b,c⟩:=oK.1 a
 by_cases e:j=i
 .subst e
  rw[List.getElem?_set_self d]at b;cases b
  rw[hb]at c;exact .inr (Option.some.inj c).symm
 rw[List.getElem?_set_ne (λh=>e h.symm)]at b;exact .inl (a0e.2 (.inr (a0l.2 (.inr (oK.2 ⟨j,s,b,c⟩)))))
def VP{g:Nat} {rs:List RD}(i:Nat)(a:rs[i]?=some r)(ho:r.v.ownBlock=some g):g∈Z++kb::owns rs:=a0e.2 (.inr (a0l.2 (.inr (oK.2 ⟨i,r,a,ho⟩))))
def Jb(Z:LN)(re:LB->Nat)(bI:LB->gz)(w0:World)(kb:Nat)(w:World)(V:V6)(U:V4)(s:CS)(h:KS Z w0 kb w V U s)(hZ:∀g∈Z,g<w.heap.size)(v:LB)(hv:RCP re bI v)(hx:s.x.length<=1000)(hsa:s.a.length<=1000) :
 zF 73 #[zP kb,zT v] w (NAQ Z re bI w0 kb w V U s v):=by
 obtain⟨vn,vc,va,vt,vr,vi⟩:=V;obtain⟨rt,ux,uq,ul⟩:=U;have hO:OW 9 1 w0.heap.size w ux (sc s.x):=h.own 2 (r:=⟨9,1,ux,sc s.x⟩) (λca cq=>rfl);have N1:=aj (VE w ux [] s.x v (hO.rw (by simp)) (by omega));obtain⟨ax,cx,he⟩:=hO.shape;rw[iC]at he;subst he;have c7:=h.row.c 7;simp at c7;have hfl:=Eg s.x v;have HK:=aj h;have jU:=h.lo;have YG:=h.row.lt;have HV:=aj hv;clear h hO hv
 by_cases hfd:iL s.x v<s.x.length
 ·have gJ:decide ((iL s.x v:Int)<(s.x.length:Int))=true:=a0g (by omega)
  have HFD:=aj hfd;clear hfd hfl;generalize hf:iL s.x v=fx at *;have HF:=aj hf;clear hf;go_enter Tryz.func73,Tryz.ntmps73
  go_wp2_with fail
  refine(N1.o).mono ?_;rintro e w1 ⟨rfl,rfl⟩;go_wp2;go_ret2;exact .inl ⟨by rw[HF.o];exact HFD,by rw[HF.o];rfl,HK,KF.refl _ _ _ _⟩
 have Lf:iL s.x v=s.x.length:=by omega
 rw[Lf]at N1;have HFE:=aj Lf;clear hfd hfl Lf;have N2:=aj (HV.o w);go_enter Tryz.func73,Tryz.ntmps73
 go_wp2_with fail
 refine(N1.o).mono ?_;rintro e w1' ⟨rfl,rfl⟩;clear N1;go_wp2_with fail
 refine(N2.o).mono ?_;clear N2;rintro e w1 ⟨qh,cs,pY,fI,rfl,iG⟩;obtain⟨W3,dY,al7,hh3,xg⟩:∃W3,(storeCells (zA w1.heap.size) cs.toList).run Tryz.prog (w1.alloc (Obj.cells Tryz.zeroCells119 119))=.ok () W3/\Z_ (aB [] w1 W3)/\Z_ (W3.heap[w1.heap.size]?=some (.cells cs 119 (0,0)))/\W3.heap.size=w1.heap.size+1:=by
  have hh:(w1.alloc (Obj.cells Tryz.zeroCells119 119)).heap[w1.heap.size]?=some (.cells Tryz.zeroCells119 119 (0,0)):=bD _ _;exact⟨_,vX hh (by rw[pY,jZ]) fI,((aB.refl [] w1).alloc _).over (aB.setRow _ _ _) (by simp),vW hh,by simp[World.setRow]⟩
 have HZ3:=aj xg;clear xg;have F13:=aj (qh.trans al7);have ayQ:=F13.o.size;have K3:=aj (HK.o.aC F13);have k7:=K3.o.row.c 7;simp at k7;have kz7:=K3.o.row.fz 7
 by_cases Gg:re v=0
 ·have bJ:((re v:Int)==0)=true:=by rw[Gg];rfl
  have al8:Z_ (∀A:LN,(∀g∈A,g<w.heap.size)->dV adY A W3 [cs] [bI v]):=λA hA=>(iG Gg A hA).aC al7.o (by simp)
  have HRE:=aj Gg;rw[Gg];have II:=aj pY;have adL:=aj fI;have fM:=qh.size;clear iG qh fI al7 bJ c7 Gg;have OX:=aj (K3.o.own 2 (r:=⟨9,1,.slice ax s.x.length cx,sc s.x⟩) (λca cq=>rfl));have HOB:Z_ (∀r,Value.ownBlock (.slice ax s.x.length cx)=some r->w0.heap.size<=r/\r<w.heap.size):=λr hr=>⟨(OX.o.lt hr).1,((HK.o.own 2 (r:=⟨9,1,.slice ax s.x.length cx,sc s.x⟩) (λca cq=>rfl)).lt hr).2⟩
  have gT:=jU.2;have hk0:=jU.1;go_upto_region 7 with fail
  go_cut [6] (λv6 wc=>True/\v6=zI s.x.length/\∃ux ca cq,KR wc kb ⟨vn,vc,va,vt,vr,vi⟩ ⟨rt,ux,uq,ul⟩/\KG Z w0 kb wc (Gm ⟨vn,vc,va,vt,vr,vi⟩ ⟨rt,ux,uq,ul⟩ { s with x:=s.x++[v] } ca cq) ca s.a cq s.q/\wc.heap[w1.heap.size]?=some (.cells cs 119 (0,0))/\dV adY (Z++kb::owns (Gm ⟨vn,vc,va,vt,vr,vi⟩ ⟨rt,ux,uq,ul⟩ { s with x:=s.x++[v] } ca cq)) wc [cs] [bI v]/\KF kb w ⟨vn,vc,va,vt,vr,vi⟩ ⟨rt,.slice ax s.x.length cx,uq,ul⟩ wc ⟨vn,vc,va,vt,vr,vi⟩ ⟨rt,ux,uq,ul⟩)
  case first =>
   go_wp2_with (at_builtin;refine ant rfl rfl w0.heap.size (.slice ax s.x.length cx) s.x W3.heap.size v rfl (OX.o.aC (S:=[]) ((aB.refl [] _).alloc _) (by simp)) rfl (by simp) (by omega) (by simp;omega) ?_;intro g2 aU w4 Mr Sl aue AO;have O4:=aj Mr;have G4:=aj Sl;have R4:=aj ((K3.o.row.aC (S:=[]) ((aB.refl [] _).alloc _) (by simp)).grown G4.o (λr hr=>by have:=(HOB.o r hr).1;omega));have j7:=R4.o.c 7;have jz:=R4.o.fz 7;simp at j7;have HOR:=aj aue;clear Mr Sl aue)
   go_meet;have K4:=K3.o.put ((aB.refl [] _).alloc _) 2 ⟨9,1,.slice ax s.x.length cx,sc s.x⟩ ⟨9,1,zS g2 (s.x.length+1) aU,sc (s.x++[v])⟩ (V':=⟨vn,vc,va,vt,vr,vi⟩) (U':=⟨rt,zS g2 (s.x.length+1) aU,uq,ul⟩) (s':={ s with x:=s.x++[v] }) (λca cq=>rfl) (λca cq=>rfl) rfl rfl G4.o O4.o rfl HOR.o 7 (zS g2 (s.x.length+1) aU) rfl;obtain⟨ca,cq,g4⟩:=K4.g;obtain⟨ca0,cq0,g0⟩:=HK.o.g;have RA:=(al8.o (Z++kb::owns (Gm ⟨vn,vc,va,vt,vr,vi⟩ ⟨rt,.slice ax s.x.length cx,uq,ul⟩ s ca0 cq0)) (λg hg=>by rcases a0e.1 hg with hg|hg;exact hZ g hg;exact g0.ait g hg)).aC (S:=[]) ((aB.refl [] _).alloc (Obj.cells #[zT v] 9)) (by simp);have RA2:=RA.turn (B:=Z++kb::owns (Gm ⟨vn,vc,va,vt,vr,vi⟩ ⟨rt,zS g2 (s.x.length+1) aU,uq,ul⟩ { s with x:=s.x++[v] } ca cq)) G4.o (λr hr=>VP 2 (r:=⟨9,1,.slice ax s.x.length cx,sc s.x⟩) rfl hr) HOR.o (VN (rs:=Gm ⟨vn,vc,va,vt,vr,vi⟩ ⟨rt,.slice ax s.x.length cx,uq,ul⟩ s ca0 cq0) 2 (r:=⟨9,1,.slice ax s.x.length cx,sc s.x⟩) (r':=⟨9,1,zS g2 (s.x.length+1) aU,sc (s.x++[v])⟩) rfl rfl);have FB:aB [kb] w4 (w4.setCell (zB kb 7) (zS g2 (s.x.length+1) aU)):=(aB.refl [kb] _).setCell (p:=(zB kb 7)) (.inl (by simp)) _;refine⟨trivial,rfl,_,ca,cq,K4.row,g4,?_,RA2.aC FB (by simp),KF.put (s:=s) (s':={ s with x:=s.x++[v] }) (ca:=[]) (cq:=[]) (ca':=[]) (cq':=[]) (F13.o.alloc _) 2 (r:=⟨9,1,.slice ax s.x.length cx,sc s.x⟩) (r':=⟨9,1,zS g2 (s.x.length+1) aU,sc (s.x++[v])⟩) rfl rfl G4.o rfl HOR.o 7 _⟩;have h3:=HZ3.o;have e1:(W3.alloc (Obj.cells #[zT v] 9)).heap[w1.heap.size]?=some (.cells cs 119 (0,0)):=(((aB.refl [] W3).alloc _).block w1.heap.size (by omega) (by simp)).trans hh3;have e2:w4.heap[w1.heap.size]?=some (.cells cs 119 (0,0)):=(G4.o.block w1.heap.size (by simp;omega) (λe=>by have:=(HOB.o _ e.symm).2;omega)).trans e1;exact(FB.block w1.heap.size (a0c.1 e2).1 (by simp;omega)).trans e2
  case rest =>
   obtain⟨_,rfl,ux,ca,cq,hKR,hKG,hH,hRA,auf⟩:=hcut;have KFC:=aj auf;clear auf;have hOA:OW 119 259 w0.heap.size wc va (fZ ca):=hKG.rw.asz 3 ⟨119,259,va,fZ ca⟩ rfl;have ayR:ca.length<=1000:=by rw[hKG.ai.1];exact hsa
   obtain⟨aa,cva,heA⟩:=hOA.shape;rw[jA]at heA;subst heA;have OA:=aj hOA;have mI:=aj (jA ca);have HKR:=aj hKR;have HKG:=aj hKG;have HH:=aj hH;have HRA:=aj hRA;have hkc:=hKR.lt;have Il:=hKG.fr.size;have c2:=hKR.c 2;have z2:=hKR.fz 2;simp at c2;have ag:Value.ownBlock (.slice aa ca.length cva)≠some kb:=λe=>by have:=(OA.o.lt e).1;omega
   have g2z:∀o:Obj,(wc.drew.alloc o).frozen? (zB kb 2)=false:=λo=>((((aB.refl [] wc).drew).alloc o).frozen (p:=(zB kb 2)) hkc (by simp)).trans z2
   clear hOA hKR hKG hH hRA K3 k7 kz7 OX HOB;go_wp2_with fail
   refine wp_region_any (by kernel_rfl) ?_
   change wpAny _ _ _ _ _ _ _ (World.drew _)
   refine wpAny_take (i:=0) (v:=?v0) rfl (by kernel_rfl) (by kernel_rfl) (by kernel_rfl) (λ_ _ _ h=>h) (Or.inl ⟨by rfl,?h0⟩) ?_
   case h0 =>
    intro w;go_simp;with_reducible rfl
   refine wpAny_take (i:=1) (v:=?v1) rfl (by kernel_rfl) (by kernel_rfl) (by kernel_rfl) (λ_ _ _ h=>h) (Or.inl ⟨by rfl,?h1⟩) ?_
   case h1 =>
    intro w;go_simp;with_reducible rfl
   refine wpAny_take (i:=2) (v:=?v2) rfl (by kernel_rfl) (by kernel_rfl) (by kernel_rfl) (λ_ _ _ h=>h) (Or.inl ⟨by rfl,?h2⟩) ?_
   case h2 =>
    intro w;go_simp;with_reducible rfl
   refine wpAny_take (i:=3) (v:=?v3) rfl (by kernel_rfl) (by kernel_rfl) (by kernel_rfl) (λ_ _ _ h=>h) (Or.inl ⟨by rfl,?h3⟩) ?_
   case h3 =>
    intro w;go_simp;with_reducible rfl
   refine wpAny_take (i:=4) (v:=?v4) rfl (by kernel_rfl) (by kernel_rfl) (by kernel_rfl) (λ_ _ _ h=>h) (Or.inl ⟨by rfl,?h4⟩) ?_
   case h4 =>
    intro w;go_simp;with_reducible rfl
   refine wpAny_ready (rs:=[5,6]) (by kernel_rfl) (by simp) ?_;refine AllReady.cons rfl (λK hK=>?_) (AllReady.cons rfl (λK hK=>?_) AllReady.nil)
   focus
    go_simp
    refine hK _ _ ?_;clear hK K;refine wpAny_ready (rs:=[6]) (by kernel_rfl) (by simp) ?_;refine AllReady.cons rfl (λK hK=>?_) AllReady.nil;refine Lx (by rfl) (by rfl) w1.heap.size (by rfl) cs (rY HH.o II) ?_;refine hK _ _ ?_;clear hK K;refine wpAny_ready (rs:=[7]) (by kernel_rfl) (by simp) ?_;refine AllReady.cons rfl (λK hK=>?_) AllReady.nil;refine AA (by rfl) (by rfl) cs (by rfl) II.o ?_
   rotate_left
   refine Lx (by rfl) (by rfl) w1.heap.size (by rfl) cs (rY HH.o II) ?_;refine hK _ _ ?_;clear hK K;refine wpAny_ready (rs:=[5,7]) (by kernel_rfl) (by simp) ?_;refine AllReady.cons rfl (λK hK=>?_) (AllReady.cons rfl (λK hK=>?_) AllReady.nil)
   focus
    go_simp
    refine hK _ _ ?_;clear hK K;refine wpAny_ready (rs:=[7]) (by kernel_rfl) (by simp) ?_;refine AllReady.cons rfl (λK hK=>?_) AllReady.nil;refine AA (by rfl) (by rfl) cs (by rfl) II.o ?_
   rotate_left
   refine AA (by rfl) (by rfl) cs (by rfl) II.o ?_;refine hK _ _ ?_;clear hK K;refine wpAny_ready (rs:=[5]) (by kernel_rfl) (by simp) ?_;refine AllReady.cons rfl (λK hK=>?_) AllReady.nil;have c2a:zC (wc.drew.alloc (Obj.cells cs 119)) kb 2 (.slice aa ca.length cva):=((((aB.refl [] wc).drew).alloc _).cell (p:=(zB kb 2)) hkc (by simp)).trans c2;go_simp
   all_goals
    refine hK _ _ ?_;clear hK K;refine wpAny_ready (rs:=[8]) (by kernel_rfl) (by simp) ?_;refine AllReady.cons rfl (λK hK=>?_) AllReady.nil
    (refine CU (by rfl) 49 119 259 312 ahU Tryz.underlying49 jZ (by omega) (by rfl) w0.heap.size (.slice aa ca.length cva) (fZ ca) wc.heap.size cs (0,0) (by rfl) (OA.o.aC (S:=[]) (((aB.refl [] _).drew).alloc _) (by simp)) (by rfl) II.o (by exact bD _ _) adL.o (by rw[mI.o];omega) (by rw[mI.o];omega) (by simp;omega) (wc.heap.size+1) (by simp) ?_;intro gg aU w4 bT aH bq AO;have c4:=(aH.cell_far (zB kb 2) (by simp;omega) (Ne.symm ag));have f4:=(aH.frozen_far (zB kb 2) (by simp;omega) (Ne.symm ag));have f5:=f4.trans (g2z _);rw[mI.o]at bT |-)
    refine hK _ _ ?_;clear hK K;refine wpAny_take (i:=9) (v:=?v9) rfl (by kernel_rfl) (by kernel_rfl) (by kernel_rfl) (λ_ _ _ h=>h) (Or.inl ⟨by rfl,?h9⟩) ?_
    case h9 =>
     intro w;go_simp;try with_reducible rfl
    refine wpAny_take (i:=10) (v:=?v10) rfl (by kernel_rfl) (by kernel_rfl) (by kernel_rfl) (λ_ _ _ h=>h) (Or.inl ⟨by rfl,?h10⟩) ?_
    case h10 =>
     intro w;go_simp;try with_reducible rfl
    refine wpAny_take (i:=11) (v:=?v11) rfl (by kernel_rfl) (by kernel_rfl) (by kernel_rfl) (λ_ _ _ h=>h) (Or.inl ⟨by rfl,?h11⟩) ?_
    case h11 =>
     intro w;go_simp;try with_reducible rfl
    refine wpAny_ready (rs:=[12]) (by kernel_rfl) (by simp) ?_;refine AllReady.cons rfl (λK hK=>?_) AllReady.nil;go_simp
    refine hK _ _ ?_;clear hK K;refine wpAny_done (by kernel_rfl) ?_ _;have G5:=aj aH;have O5:=aj bT;have YK:Z_ (Value.ownBlock (.slice aa ca.length cva)=some gg\/gg=(wc.drew.alloc (Obj.cells cs 119)).heap.size):=bq.imp id (λh=>by rw[h];simp);clear aH bT bq;go_wp2;go_ret2;have F3:aB [] wc (wc.drew.alloc (Obj.cells cs 119)):=((aB.refl [] wc).drew).alloc _;have O6:=O5.o;rw[Gi]at O6;have g5:=(HKG.o.aC F3 (by simp)).grow 3 (r:=⟨119,259,.slice aa ca.length cva,fZ ca⟩) (r':=⟨119,259,zS gg (ca.length+1) aU,fZ (ca++[cs])⟩) rfl G5.o O6 rfl YK;have r5:=(HRA.o.aC F3 (by simp)).turn G5.o (λr hr=>VP 3 (r:=⟨119,259,.slice aa ca.length cva,fZ ca⟩) rfl hr) YK.o (VN 3 (r:=⟨119,259,.slice aa ca.length cva,fZ ca⟩) (r':=⟨119,259,zS gg (ca.length+1) aU,fZ (ca++[cs])⟩) rfl rfl);have g6:KG Z w0 kb w4 (Gm ⟨vn,vc,zS gg (ca.length+1) aU,vt,vr,vi⟩ ⟨rt,ux,uq,ul⟩ { s with x:=s.x++[v],a:=s.a++[bI v] } (ca++[cs]) cq) (ca++[cs]) (s.a++[bI v]) cq s.q:=⟨g5.fr,g5.lo,g5.rw,g5.ai.snoc (r5.2 0 cs (bI v) rfl rfl),g5.qi⟩;have R6:=((HKR.o.aC F3 (by simp)).grown G5.o (λr hr e=>ag (by rw[hr,e]))).set (V':=⟨vn,vc,zS gg (ca.length+1) aU,vt,vr,vi⟩) (U':=⟨rt,ux,uq,ul⟩) 2 (zS gg (ca.length+1) aU) rfl;exact .inr (.inl ⟨HFE,HRE,rfl,_,_,⟨R6,ca++[cs],cq,g6.aC (S:=[kb]) ((aB.refl [kb] _).setCell (p:=(zB kb 2)) (.inl (by simp)) _) (by simp)⟩,⟨rfl,rfl,rfl,rfl⟩,KFC.o.trans (KF.put (s:=s) (s':=s) (ca:=ca) (cq:=cq) (ca':=ca++[cs]) (cq':=cq) F3 3 (r:=⟨119,259,.slice aa ca.length cva,fZ ca⟩) (r':=⟨119,259,zS gg (ca.length+1) aU,fZ (ca++[cs])⟩) rfl rfl G5.o rfl YK.o 2 _)⟩)
 have HRE:=aj Gg;have bJ:((re v:Int) != 0)=true:=by rw[a1M];omega
 have hne':decide ((re v:Int)=0)=false:=a0f (by omega);clear iG qh fI al7;go_wp2;go_ret2;exact .inr (.inr ⟨HFE,HRE,rfl,K3.o.fr,KF.of F13⟩)
end
end Go.Proofs.YtaokcijfoopcoaaGreat
