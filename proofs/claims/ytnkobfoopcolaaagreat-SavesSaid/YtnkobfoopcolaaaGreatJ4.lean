import Derived.Test.YtnkobfoopcolaaaGreatJ3
import Derived.Deep.WholeRow
import Derived.Test.YtnkobfoopcolaaaGreatJ2
import Derived.Test.YtnkobfoopcolaaaGreatJ1
import Derived.Deep.RegionLaw
import Derived.Deep.DeepCutAuto
import Derived.Great.BuildSlice
import Derived.Laws.CopyOwn
import Derived.Laws.MakeOwn
set_option linter.unusedVariables false
set_option linter.unusedSimpArgs false
set_option linter.unnecessarySimpa false
set_option linter.defProp false
set_option maxRecDepth 100000
set_option maxHeartbeats 8000000
namespace Go.Proofs.YtnkobfoopcolaaaGreat
open Go.RowKit
section
variable {α:Type} {ab ak cap fb g i k vb:Nat} {x:RX} {w w' w2 w5:World} {B F L Z nx ps v:LN} {f:FV} {D U:List NF} {X d:NF} {v5 v7 v8 va vn:Value} {n:Int} {St:List LN} {t:LB} {en:Ending}
theorem abh(f L):fv (f::L)=f.cells.toList++fv L:=by simp[fv]
theorem Qw(f:FV):f.cells.toList.length=12:=by simp[FV.cells]
theorem afy:∀L i k f a u,L[i]?=some f->k<12->f.cells.toList.set k u=a.cells.toList->(fv L).set (i*12+k) u=fv (L.set i a)
 | [],i,k,f,a,u,h,_,_=>by simp at h
 | g::L,0,k,f,a,u,h,c,b=>by grind [abh,Qw]
 | g::L,i+1,k,f,a,u,h,c,b=>by
   rw[abh,a1S,abh,<-afy L i k f a u (by simpa using h) c b];rw[a1v _ _ (by rw[Qw];omega),Qw];congr 2;omega
theorem OG{β:Type}(g:α->β):∀(E:List α) i (e a:α),E[i]?=some e->g a=g e->(E.set i a).map g=E.map g
 | [],i,e,a,h,_=>by simp at h
 | x::E,0,e,a,h,b=>by simp at h;subst h;simp[b]
 | x::E,i+1,e,a,h,b=>by simp_all[OG]
theorem abj {E:List α}{j} {e x:α}(h:(E.set i e)[j]?=some x):(i=j/\x=e)\/E[j]?=some x:=by grind
theorem mem_set {E:List α} {e x:α}(h:x∈E.set i e):x=e\/x∈E:=by grind
def TE.memo {base E}{r a:Nat}(h:TE base w fb vb E B ak)(c:E[i]?=some (f,L)) :
 TE base ((w.setCell (zB vb (i*12+10)) (zI a)).setCell (zB vb (i*12+11)) (zI r)) fb vb (E.set i ({ f with ak:=a,lf:=r },L)) B ak:=by
 obtain⟨cap,ht,j⟩:=h.row;have q:=h.vbs;have n:=h.fb;have F:aB [vb] w ((w.setCell (zB vb (i*12+10)) (zI a)).setCell (zB vb (i*12+11)) (zI r)):=(zK.setCell (.inl (by simp)) _).setCell (.inl (by simp)) _;have hlen:(E.set i ({ f with ak:=a,lf:=r },L)).length=E.length:=by simp
 refine⟨⟨cap,?_,?_⟩,?_,?_,h.fb,a0h h.sz F.size⟩
 .rw[hlen];exact ht.aC F (by simp;omega)
 .rw[hlen];have g:(E.map Prod.fst).length=E.length:=by simp
  unfold FL at j |-;rw[g]at j;have o:=(World.ownsRow.stored j (i*12+10) (zI a)).1;have d:=(World.ownsRow.stored o (i*12+11) (zI r)).1;have l:(E.map Prod.fst)[i]?=some f:=by simp[c]
  rw[afy (E.map Prod.fst) i 10 f { f with ak:=a } (zI a) l (by decide) rfl]at d;have m:=(a0d.1 c).1;rw[afy ((E.map Prod.fst).set i { f with ak:=a }) i 11 { f with ak:=a } { f with ak:=a,lf:=r } (zI r) (by simp[m]) (by decide) rfl]at d;rw[List.set_set]at d;have p:(E.set i ({ f with ak:=a,lf:=r },L)).map Prod.fst=(E.map Prod.fst).set i { f with ak:=a,lf:=r }:=by rw[a2d]
  rw[p];simpa using d
 .intro e he;rcases mem_set he with rfl|he
  .exact(h.pl (f,L) (a0B c)).aC F (λk b=>h.wu k (by simp at b;simp[b]))
  exact(h.pl e he).aC F (λk b=>h.wu k (by simp at b;simp[b]))
 intro e he;rcases mem_set he with rfl|he
 .exact h.st (f,L) (a0B c)
 exact h.st e he
theorem TP.memo {E c r}(h:TP E B D ak c)(l:E[i]?=some (f,L))(hd:D[i]?=some d)(p:D[r]?=some (left c d)) :
 TP (E.set i ({ f with ak:=ak,lf:=r },L)) B D ak c:=by
 have k:(E.set i ({ f with ak:=ak,lf:=r },L)).map kz=E.map kz:=OG kz E i (f,L) _ l rfl;refine⟨?_,?_,?_,?_,?_,?_⟩
 .rw[k];exact h.tb
 .intro b hb;rw[k];simpa using h.bu b hb
 .intro j e m he;rw[k];rcases abj he with⟨rfl,rfl⟩|he
  .exact h.lk i (f,L) m l
  exact h.lk j e m he
 .intro j e a he g;rcases abj he with⟨rfl,rfl⟩|he
  .exact h.te i (f,L) a l g
  exact h.te j e a he g
 .intro e he;rcases mem_set he with rfl|he
  .simp
  exact h.al e he
 intro o j e a he g n;rcases abj he with⟨rfl,rfl⟩|he
 .grind
 exact h.mm o j e a he g n
def ST.memo {base c}{r:Nat}(h:ST base w fb vb D ak c U Z)(g:D[i]?=some d)(l:D[r]?=some (left c d)) :
 ST base ((w.setCell (zB vb (i*12+10)) (zI ak)).setCell (zB vb (i*12+11)) (zI r)) fb vb D ak c U Z:=by
 obtain⟨E,B,hE,j,o,q,hz⟩:=h;have s:=(a0d.1 g).1;have p:=j.len;obtain⟨⟨f,L⟩,he⟩:∃e,E[i]?=some e:=⟨E[i]'(by omega),a0a (by omega)⟩;refine⟨_,B,hE.memo he,j.memo he g l,o,q,?_,?_⟩
 .intro k m;have:=hz.1 k m;simpa using this
 intro e b x n cc ex;rcases mem_set b with rfl|b
 .exact hz.2 (f,L) (a0B he) x n cc ex
 exact hz.2 e b x n cc ex
def ST.ask {base c}(c2)(h:ST base w fb vb D ak c U Z):ST base (w.setCell (zB fb 1025) (zI ((ak+1:Nat):Int))) fb vb D (ak+1) c2 U Z:=by
 obtain⟨E,B,hE,a,f,g,hz⟩:=h;refine⟨E,B,hE.agr (ak+1),⟨a.tb,a.bu,a.lk,a.te,λe he=>Nat.le_succ_of_le (a.al e he),?_⟩,f,g,?_,hz.2⟩
 .intro _ i e d he _ j;have:=a.al e (a0B he);omega
 intro k b;have:=hz.1 k b;simpa using this
theorem ST.cells {base c}(h:ST base w fb vb D ak c U Z):zC w fb 1025 (zI ak)/\(∀o,w.frozen? (zB fb o)=false)/\(∀o,w.frozen? (zB vb o)=false):=by obtain⟨E,B,hE,_⟩:=h;obtain⟨cap,ht,b⟩:=hE.row;refine⟨ht.awy,ht.fz,λo=>?_⟩;obtain⟨_,_,cur,a⟩:=hE.vbs;simp[World.frozen?,a]
def anm(d):LfC d:=by
 refine NF.ind ?_ d;intro d y base w fb vb D ak c U Z i k q s z t;obtain⟨f,L,_,K⟩:=k.look q;have:=K.lt;have:=K.tab;have:=K.get.2.2.2.2.2.2.2.2.2.2.1;have:=K.get.2.2.2.2.2.2.2.2.2.2.2;have:=k.cells.1;have:(i:Int)<D.length:=by omega
 by_cases he:f.ak=ak
 .have G:∀nq,RQ base w fb vb D ak c U Z (left c d) (zR (zI (f.lf:Nat))) (w.drewN nq):=λnq=>RQ.here k (zK.drewN _) (K.mem t he);delta zF;go_in;go_wp2_with fail;go_quiet (fail);go_wp2;go_ret;exact G _
 have:=atr he;delta zF;go_in;go_wp2_with fail;go_quiet (fail);go_wp2_with fail;refine((λnq=>acw d y base (w.drewN nq) fb vb D ak c U Z i (k.aY (zK.drewN nq)) q s z t) _).mono ?_;rintro e w2 A;obtain⟨j,R,r,rfl,g,HR,hq⟩:=A;have u:=rU (R:=R) q;obtain⟨J,T,O,h⟩:=g.look u;have u0:=h.tab;have:=h.get.2.2.2.2.2.2.2.2.2.2.1;have:=h.get.2.2.2.2.2.2.2.2.2.2.2;have ul:=h.lt;obtain⟨E,l,a⟩:=g.cells;obtain⟨x,b⟩:∃n,n=(D++R).length:=⟨_,rfl⟩;rw[<-b]at u0 ul;go_wp2_with fail;go_region;have F4:FQ fb vb j w (((w2.setCell (zB j (i*12+10)) (zI ak)).setCell (zB j (i*12+11)) (zI r)).drew):=FQ.trans (FQ.aba ((aB.refl [] w).drewN nq) hq) ⟨((zK.setCell (.inl (by simp)) _).setCell (.inl (by simp)) _).drew,.inl rfl⟩;have H:=(g.memo u HR).aY (zK.drew);go_wp2;go_ret;exact⟨j,R,r,rfl,H,HR,F4⟩
def YE(base w fb vb D ak c c2 U Z)(i:Nat)(d)(h:ST base w fb vb D ak c2 U Z)(f:D[i]?=some d)(b:Fg c U d)(k:c<256)(l:ak<=1000000) :
 zF 135 #[zP fb,zI i,.int .u8 c] w λe w'=>∃a R r,e=zR (zI (r:Nat))/\ST base w' fb a (D++R) (ak+1) c U Z/\(D++R)[r]?=some (left c d)/\FQ fb vb a w w':=by
 have m:=h.cells.1;have o:=h.cells.2.1 1025;have g:=h.ask c;have C:=anm d base _ fb vb D (ak+1) c U Z i g f b k (by omega);have F:=(show FQ fb vb vb w (w.setCell (zB fb 1025) (zI ((ak+1:Nat):Int))) from ⟨zK.setCell (.inl (by simp)) _,.inl rfl⟩);have j:((ak+1:Nat):Int)=(ak:Int)+1:=by omega
 rw[j]at C F;clear h g f b j;delta zF;go_in;go_wp2_with fail;refine C.mono ?_;rintro e w2 ⟨a,R,r,rfl,n,HR,hq⟩;have Q:=F.trans hq;clear hq C;go_wp2;go_ret;exact⟨a,R,r,rfl,n,HR,Q⟩
theorem aB.above {S T a b c}(h:aB T a b)(k:aB S b c)(j:∀x∈S,a.heap.size<=x\/x∈T):aB T a c :=
 ⟨k.os.trans h.os,k.tape.trans h.tape,k.output.trans h.output,a0h h.size k.size,λi d f=>(k.block i (a0t d h.size) (λg=>(j i g).elim (λe=>by omega) f)).trans (h.block i d f)⟩
def ST.aty {base c Z2}(h:ST base w fb vb D ak c U Z)(a:∀k∈Z2,k∈Z):ST base w fb vb D ak c U Z2:=by obtain⟨E,B,l,j,i,g,b⟩:=h;exact⟨E,B,l,j,i,g,λk f=>b.1 k (a k f),λe he x n cc ex d=>b.2 e he x n cc ex (a _ d)⟩
theorem ann(n b):(List.replicate n 0).getD b 0=0:=by grind
theorem ST.start{c}(ht:FT w fb va (List.replicate 1024 0) 0)(a:FL (fb+1) w va [fv0,fv1])(hz:fb+1<=w.heap.size)(l:NF.zero∈U/\NF.one∈U)(k:U.length<=1000000000000):∃vb,ST (fb+1) w fb vb [.zero,.one] 0 c U []:=by
 have f:∃vb cap,va=zS vb 2 cap:=by
  rcases a.2 with⟨_,e⟩|⟨g,cap,cur,e,_⟩
  .simp at e
  grind
 obtain⟨vb,cap,rfl⟩:=f;refine⟨vb,[(fv0,[]),(fv1,[])],List.replicate 1024 0,⟨⟨cap,ht,a⟩,?_,?_,a3j _,hz⟩,⟨⟨rfl,rfl,rfl,rfl,rfl,?_,by simp,?_⟩,?_,?_,?_,?_,?_⟩,?_,k,by simp,by intro e he x n cc ex;simp at he;rcases he with rfl|rfl<;>simp[fv0,fv1]at ex⟩
 .intro e he;simp at he;rcases he with rfl|rfl<;>exact PL.nil _
 .intro e he;simp at he;rcases he with rfl|rfl<;>exact a2S 256
 .grind
 .grind [hd,WC.zero,WC,WC.one]
 .intro b hb;rw[ann];rcases zD mV _ _ 2 with h|⟨j,m,_⟩
  .exact h.symm
  omega
 .grind
 .intro i e d he hd
  match i with
  | 0=>simp at he hd;subst he hd;rfl
  | 1=>simp at he hd;subst he hd;rfl
  | i+2=>simp at he
 .simp[fv0,fv1]
 .omega
 grind
structure AQ(X:NF)(wB wr:World)(ab fb:Nat)(U:List NF)(n:Int)(CL:LN)(vs vn:Value)(I:LN)(St:List LN)(nx:LN)(vb:Nat)(D:List NF)(ak c:Nat):Prop where
 st:ST (fb+1) wr fb vb D ak c U (vs.ownBlock.toList++vn.ownBlock.toList)
 mp:∀(j:Nat) (u:LN),St[j]?=some u->∃r,I[j]?=some r/\D[r]?=some (dW X u)
 il:IL (fb+1) wr vs I
 nl:IL (fb+1) wr vn nx
 ne:∀k,vs.ownBlock=some k->vn.ownBlock≠some k
 au:AB wr ab n CL zN vn
 ln:I.length=St.length
 fr:aB [ab] wB wr
 fe:fb=wB.heap.size
 lo:ab<wB.heap.size
def AQ.find {wB wr CL vs I c}(h:AQ X wB wr ab fb U n CL vs vn I St nx vb D ak c) {r}(m:D[r]?=some (dW X v)):I.findIdx (·==r)=Bi X St v:=by
 have f:=h.ln;have l:=h.st;have o:=h.mp;have i:=l.pP.2.2.2.1;have key:∀j (g:j<I.length) (d:j<St.length),(I[j]==r)=(name (dW X St[j])==name (dW X v)):=by
  intro j g d;obtain⟨q,k,p⟩:=o j St[j] (a0a d);rw[a0a g]at k;simp[Option.some.injEq]at k;rw[k,a0T,a0W,a0W];rw[l.num p m];constructor
  .intro e;rw[e]
  exact UH (i _ (a0B p)).1 (i _ (a0B m)).1
 unfold Bi;clear o l i
 revert f key
 clear h;induction I generalizing St with
 | nil =>
   intro f _;cases St with
   | nil=>rfl
   | cons a b=>simp at f
 | cons a I s =>
   intro f key;cases St with
   | nil=>simp at f
   | cons u St=>have k0:=key 0 (by simp) (by simp);simp[List.getElem_cons_zero]at k0;rw[List.findIdx_cons,List.findIdx_cons,k0];have:=s (by simpa using f) (λj g d=>by have:=key (j+1) (by simpa using g) (by simpa using d);simpa using this);rw[this]
def AB.wu {cl}(h:AB w ab n cl va vn):qV w [ab]:=by intro k a cur fz;simp at a;subst a;rw[h.1];simp
section
variable {X:NF} {wB wr:World} {ab fb:Nat} {U:List NF} {n:Int} {CL:LN} {vs vn:Value} {I:LN} {St:List LN} {nx:LN} {vb:Nat} {D:List NF} {ak c:Nat}
theorem AQ.aY(h:AQ X wB wr ab fb U n CL vs vn I St nx vb D ak c)(f:aB [] wr w2):AQ X wB w2 ab fb U n CL vs vn I St nx vb D ak c :=
 ⟨h.st.aY f,h.mp,fG h.il f (by simp),fG h.nl f (by simp),h.ne,h.au.aC f (by simp),h.ln,h.fr.above f (by simp),h.fe,h.lo⟩
def AQ.turn {b a c2 R}(h:AQ X wB wr ab fb U n CL vs vn I St nx vb D ak c)(p:ST (fb+1) w2 fb b (D++R) a c2 U (vs.ownBlock.toList++vn.ownBlock.toList))(hq:FQ fb vb b wr w2):AQ X wB w2 ab fb U n CL vs vn I St nx b (D++R) a c2:=by
 have n1:=h.st.Vv h.il;have i:=h.st.Vv h.nl;have:=h.st.pP.2.2.2.2.2;have:=h.fe;have:=h.lo;have f:∀(v:Value),fb∉v.ownBlock.toList/\vb∉v.ownBlock.toList->∀k,v.ownBlock=some k->k ∉ [fb,vb]:=λv d k g=>by simp only[a0l,a1U,a2V,not_or];exact⟨λe=>d.1 (by rw[a0H,<-e];omega),λe=>d.2 (by rw[a0H,<-e];omega)⟩
 refine⟨p,?_,mO h.il hq.fr (f vs n1),mO h.nl hq.fr (f vn i),h.ne,h.au.aC hq.fr (by simp;omega),h.ln,h.fr.above hq.fr (by simp;omega),h.fe,h.lo⟩;intro j u l;obtain⟨r,o,m⟩:=h.mp j u l;exact⟨r,o,rU m⟩
def AQ.awI{r o}(h:AQ X wB wr ab fb U n CL vs vn I St nx vb D ak c)(y:D[r]?=some (dW X v))(s:IL (fb+1) w5 (zS g (I.length+1) cap) (I++[r]))(l:(wr.alloc o).grownBy w5 vs.ownBlock)(m:vs.ownBlock=some g\/g=(wr.alloc o).heap.size)(t:g<w5.heap.size) :
 AQ X wB w5 ab fb U n CL (zS g (I.length+1) cap) vn (I++[r]) (St++[v]) nx vb D ak c:=by
 have n1:=h.st.Vv h.il;have G:=h.fe;have E:=h.lo;have C:=h.ln;have K:=h.aY ((aB.refl [] wr).alloc o);have F:=aB.fo l;have b:∀k,k∈vs.ownBlock.toList->fb+1<=k:=λk a=>by rw[a0H]at a;exact(h.il.lt k a).1
 refine⟨h.st.akd l m t n1.1 n1.2,?_,s,mO K.nl F (λk a i=>by rw[a0H]at i;exact h.ne k i a),?_,K.au.aC F (λi=>by have:=b _ i;omega),by simp;omega,K.fr.above F (λx w=>.inl (by have:=b _ w;omega)),h.fe,h.lo⟩
 .intro j u f;by_cases B:j<St.length
  .rw[a0s B]at f;obtain⟨q,A,z⟩:=h.mp j u f;exact⟨q,by rw[a0s (by omega)];omega,z⟩
  have p:=(a0d.1 f).1;simp at p;have:j=St.length:=by omega
  subst this;simp at f;subst f;exact⟨r,by rw[<-C];simp,y⟩
 intro k a d;simp[Value.ownBlock]at a;subst a;rcases m with e|e
 .exact h.ne _ e d
 have:=(h.nl.lt _ d).2;simp at e;omega
def AQ.addN{m o}(h:AQ X wB wr ab fb U n CL vs vn I St nx vb D ak c)(s:IL (fb+1) w5 (zS g (nx.length+1) cap) (nx++[m]))(l:(wr.alloc o).grownBy w5 vn.ownBlock)(p:vn.ownBlock=some g\/g=(wr.alloc o).heap.size)(t:g<w5.heap.size) :
 AQ X wB (w5.setCell (zB ab 258) (zS g (nx.length+1) cap)) ab fb U n CL vs (zS g (nx.length+1) cap) I St (nx++[m]) vb D ak c:=by
 have i:=h.st.Vv h.nl;have w:=h.fe;have v:=h.lo;have hb:=h.st.pP.2.2.2.2.2;have K:=h.aY ((aB.refl [] wr).alloc o);have F:=aB.fo l;have d:∀k,k∈vn.ownBlock.toList->fb+1<=k:=λk b=>by rw[a0H]at b;exact(h.nl.lt k b).1
 have r:=K.au.aC F (λf=>by have:=d _ f;omega);have q:aB [ab] w5 (w5.setCell (zB ab 258) (zS g (nx.length+1) cap)):=zK.setCell (.inl (by simp)) _;have S5:ST (fb+1) w5 fb vb D ak c U (vs.ownBlock.toList++[g]):=by have:=(h.st.aty (λk b=>by simp only[a0e]at b |-;exact b.symm)).akd l p t i.1 i.2;exact this.aty (λk b=>by simp only[a0e]at b |-;exact b.symm)
 refine⟨?_,h.mp,?_,ownsRow_setCell_below s (a:=(zB ab 258)) (by show ab<fb+1;omega) _,?_,r.Ke _,h.ln,(K.fr.above F (λx u=>.inl (by have:=d _ u;omega))).above q (by simp),h.fe,h.lo⟩
 .exact S5.aC q (by simp;omega) (by simp;omega) r.wu
 .refine ownsRow_setCell_below (mO K.il F (λk b f=>by rw[a0H]at f;exact h.ne k b f)) (a:=(zB ab 258)) (by show ab<fb+1;omega) _
 intro k b j;simp[Value.ownBlock]at j;subst j;rcases p with e|e
 .exact h.ne _ b e
 have:=(h.il.lt _ b).2;simp at e;omega
def QL(base:Nat)(w:World)(v:Value)(L:List Bool):Prop:=w.ownsRow base 4 1 v L.length (L.map λb=>.bool b)
def YF(St:List LN)(f:LN->Bool)(j u)(h:St[j]?=some u):(St.take (j+1)).map f=(St.take j).map f++[f u]:=by rw[a1c,h,a0P];rfl
def ahK {R}(h:yz X F k i St nx=R)(a:St.length<=i):R=(true,St,nx):=by
 rw[<-h];cases k with
 | zero=>rfl
 | succ k=>rw[yz,a1Z a]
def ahL(w:World)(e:RX)(F CL:LN)(en:Ending)(w':World):Prop :=
 aB [] w w'/\((oC (bn e) F).1=false->en=zQ #[.agg Tryz.zeroCells100,.bool false]) /\
 ((oC (bn e) F).1=true->∃va vn,en=zQ #[.agg (zI F.length::(nv .u8 CL++[va,vn])).toArray,.bool true]/\QL w.heap.size w' va ((oC (bn e) F).2.1.map λu=>dK (dW (bn e) u))/\IL w.heap.size w' vn (oC (bn e) F).2.2)
def AQ.start{a CL}{b:Nat}(i:ST (w2.heap.size+1) a w2.heap.size vb D 0 0 U [])(f:D[b]?=some X)(h:AB a ab n CL zN zN)(g:aB [ab] w2 a)(e:ab<w2.heap.size)(hz:w2.heap.size+1<=a.heap.size) :
 AQ X w2 (a.alloc (Obj.cells #[zI b] 3)) ab w2.heap.size U n CL (zS a.heap.size 1 1) zN [b] [[]] [] vb D 0 0:=by
 have F:=(aB.refl [] a).alloc (Obj.cells #[zI b] 3);refine⟨?_,?_,?_,World.ownsRow_nil _ _ _ _,by simp[Value.ownBlock],h.aC F (by simp),rfl,g.above F (by simp),rfl,e⟩
 .have:=i.more F (Z2:=[a.heap.size]) (λk d=>by simp at d;subst d;simp);simpa[Value.ownBlock] using this
 .intro j u c;cases j with
  | zero=>simp at c;subst c;exact⟨b,rfl,f⟩
  | succ j=>simp at c
 exact BH (World.ownsRow_lit _ #[zI b] 1 (a0b _) (by unfold maxLen;omega) (by simp)) hz
def adK(X w)(F:LN)(j c St nx)(a:F[j]?=some c):rQ X w (F.drop j) St nx=if Bi X St (w++[c])=40 then (false,St,nx) else rQ X w (F.drop (j+1)) (if Bi X St (w++[c])=St.length then St++[w++[c]] else St) (nx++[Bi X St (w++[c])]):=by have b:=(a0d.1 a).1;have he:=(a0d.1 a).2;rw[a0k b,he,rQ]
structure awJ(e:RX)(F:LN)(wB wr:World)(ab:Nat)(CL:LN)(vs:Value)(i k:Nat)(I:LN)(St:List LN)(nx:LN)(vn:Value)(vb:Nat)(D:List NF)(c:Nat):Prop where
 aq:AQ (bn e) wB wr ab wB.heap.size (D7 e F) F.length CL vs vn I St nx vb D nx.length c
 go:yz (bn e) F k i St nx=oC (bn e) F
 wb:WB St
 le:nx.length<=i*F.length
 il:i<=St.length
structure InQ(e:RX)(F:LN)(wB wr:World)(ab:Nat)(CL:LN)(vs:Value)(i j:Nat)(w:LN)(RW:Bool × List LN × LN)(I:LN)(St:List LN)(nx:LN)(vn:Value)(vb:Nat)(D:List NF)(c:Nat):Prop where
 aq:AQ (bn e) wB wr ab wB.heap.size (D7 e F) F.length CL vs vn I St nx vb D nx.length c
 go:rQ (bn e) w (F.drop j) St nx=RW
 wb:WB St
 le:nx.length<=i*F.length+j
 il:St[i]?=some w
def abk{w:LN} {R:Bool × List LN × LN}(h:yz X F (k+1) i St nx=R)(a:St[i]?=some w) :
 R=(match rQ X w F St nx with | (false,r)=>(false,r)|(true,zY,LZ)=>yz X F k (i+1) zY LZ):=by
 rw[<-h,yz,a];rfl
def ap5{w R}(h:yz X F (k+1) i St nx=R)(c:St[i]?=some w):(rQ X w F St nx).2.1 <+: R.2.1:=by
 have e:=abk h c;rw[e];split
 .rename_i r a;rw[a];exact a0N _
 rename_i b d a;rw[a];exact ady X F k (i+1) b d
theorem Vx(A base w eb e vS S F CL)(hx:XR A w eb e)(hs:BL base w vS S)(hS:S.length<=1000)(hF:gP S 256=F)(hCL:Xa S 256=CL)(ho:tL e)(hd:uO e)(hp:dI e<=40)(ht:jX e<=40)(hn:Dn e<=200) :
 Calls Tryz.prog 119 #[.pointer (some ⟨eb,0,none⟩),vS] w (ahL w e F CL):=by
 obtain⟨asl,aa5,rfl⟩:=aW hs;have HX:=aj hx;have HBS:=aj hs;have HF:=aj hF;have Ao:=aj hCL;clear hx hs hF hCL;have fI:=xH;have ap6:=run_storeCells_new (P:=Tryz.prog) (w.alloc (.cells Tryz.zeroCells100 100)) 100 Tryz.zeroCells100 Tryz.zeroCells100 (by rw[jZ];exact H8) rfl fI;have W:(w.alloc (.cells Tryz.zeroCells100 100)).heap.size=w.heap.size+1:=by simp
 rw[W]at ap6;clear fI W;go_in;go_wp2_with fail;have F1:aB [] w ((w.alloc (.cells Tryz.zeroCells100 100)).alloc (.cells Tryz.zeroCells100 100)):=((aB.refl _ _).alloc _).alloc _;have Jf:AB ((w.alloc (.cells Tryz.zeroCells100 100)).alloc (.cells Tryz.zeroCells100 100)) (w.heap.size+1) 0 (List.replicate 256 0) (.slice none 0 0) (.slice none 0 0):=by
  have:=AB.new (w.alloc (.cells Tryz.zeroCells100 100));have W:(w.alloc (.cells Tryz.zeroCells100 100)).heap.size=w.heap.size+1:=by simp
  rw[W]at this;omega
 have hR1:((w.alloc (.cells Tryz.zeroCells100 100)).alloc (.cells Tryz.zeroCells100 100)).heap[w.heap.size]?=some (.cells Tryz.zeroCells100 100 (0,0)):=by
  rw[((aB.refl [] _).alloc _).block w.heap.size (by simp) (by simp)];exact bD _ _
 have fM:((w.alloc (.cells Tryz.zeroCells100 100)).alloc (.cells Tryz.zeroCells100 100)).heap.size=w.heap.size+2:=by simp
 generalize (w.alloc (.cells Tryz.zeroCells100 100)).alloc (.cells Tryz.zeroCells100 100)=w1 at F1 Jf hR1 fM |-;have sZ:=aj F1;have NQ:=aj hR1;have hSB:=aa6 base (w.heap.size+1) (.slice asl S.length aa5) S F CL (.slice none 0 0) (.slice none 0 0) w1 HF.o Ao.o (fG HBS.o F1 (by simp)) Jf hS (λe=>by have:=(HBS.o.lt _ e).2;omega);clear F1 hR1 Jf ap6;refine hSB.mono ?_;rintro en w2 ⟨_,rfl,X,ahB,aR⟩;obtain⟨_,_,rfl⟩:=aW X;have z2:=aR.size;have UF:=aj X;obtain⟨_,_,e2f,hNf⟩:=xV X;simp only[Value.slice.injEq,a1W]at e2f;obtain⟨rfl,rfl⟩:=e2f;have NFF:=aj hNf;clear hNf;have A2:=aj ahB;have F2:=aj aR;clear X ahB aR hSB;go_wp2_with fail;refine(acv w2).mono ?_;rintro en w3 ⟨va,rfl,hft,hfl,bW⟩;have ayi:=hft.lt;obtain⟨vb0,ap7⟩:=ST.start (c:=0) (U:=D7 e F) hft hfl (by omega) am6 (am4 ho hd hp ht hn (by have:=xW S 256;rw[HF.o]at this;omega));have KX:pO A w w3:=by
  intro k _ ⟨_,_,hk⟩;have aL:k<w.heap.size:=by rcases hk with e|e<;>exact(a0c.1 e).1
  rw[bW.block k (by omega) (by simp),F2.o.block k (by omega) (by simp;omega),sZ.o.block k aL (by simp)]
 have NM:=aj (Le e A (w2.heap.size+1) w3 w2.heap.size vb0 [.zero,.one] 0 0 (D7 e F) [] eb ap7 (HX.o.aY KX) (YS ho hd hp (by omega) am5) hd ho);have S0:=aj ap7;have F3:=aj bW;clear hft hfl bW ap7 KX;go_wp2_with fail;refine(NM.o).mono ?_;rintro en w4 ⟨Dp,R,r0,rfl,alJ,Sn,Z⟩;have z4:=Z.fr.size;have A4:AB w4 (w.heap.size+1) F.length CL (.slice none 0 0) (.slice none 0 0):=(A2.o.aC F3.o (by simp)).aC Z.fr (by have:=S0.o.pP.2.2.2.2.2;simp;omega);have F4:aB [w.heap.size+1] w2 w4:=(F3.o.nil).above Z.fr (by have:=S0.o.pP.2.2.2.2.2;simp;omega);have Q5:=aj (AQ.start alJ Sn A4 F4 (by omega) (by omega));have hFl:F.length<=256:=by have:=xW S 256;rw[HF.o]at this;omega
 have HFb:Z_ (∀f∈F,f<256):=by have:=xW S 256;rw[HF.o]at this;exact this.2
 clear alJ Sn Z A4 F4 NM S0;go_wp2_with fail;go_loopg [10,11] 41 (λk v10 v11 wr=>∃(i:Nat) (I:LN) (St:List LN) (nx:LN) (vn:Value) (vb:Nat) (D:List NF) (c:Nat),i+k=41/\v11=.int .i64 i/\awJ e F w2 wr (w.heap.size+1) CL v10 i k I St nx vn vb D c);case atStart=>exact⟨0,[r0],[[]],[],.slice none 0 0,Dp,_,0,by omega,rfl,⟨Q5,rfl,WB.one,by simp,by simp⟩⟩
 case round =>
  clear Q5;obtain⟨i,I,St,nx,vn,vb,D,c,_,rfl,hq⟩:=hrel;obtain⟨H,Vg⟩:∃H,H=wr:=⟨_,rfl⟩;subst Vg;obtain⟨go,iD⟩:∃go,go=gk:=⟨_,rfl⟩;subst iD;obtain⟨ast,cst,rfl⟩:=aW hq.aq.il;have Q:=aj hq;have KH:=hq.aq.ln;have B:=aj KH;have EH:=hq.wb.1;have PQ:=hq.le;have hIl:I.length<=40:=by omega
  clear hq KH;by_cases aL:i<I.length
  .obtain⟨g1,IE⟩:∃g1,go=g1+1:=⟨go-1,by omega⟩;subst IE;obtain⟨u,Y⟩:∃u,St[i]?=some u:=⟨St[i]'(by have:=B.o;omega),a0a (by have:=B.o;omega)⟩;have Vt:=aj (abk Q.o.go Y);have PRE:=aj (ap5 Q.o.go Y);have ap8:Z_ (u∈(oC (bn e) F).2.1):=a0B (rR PRE.o (rR (Vn (bn e) u F St nx) Y));have IN0:Z_ (InQ e F w2 H (w.heap.size+1) CL (.slice ast I.length cst) i 0 u (rQ (bn e) u F St nx) I St nx vn vb D c):=⟨Q.o.aq,rfl,Q.o.wb,by omega,Y⟩;generalize rQ (bn e) u F St nx=RW at *;clear Y Q hIl;go_wp2_with fail;go_loopg [10,35] F.length (λk v10 v35 wr=>∃(j:Nat) (I:LN) (St:List LN) (nx:LN) (vn:Value) (vb:Nat) (D:List NF) (c:Nat),j+k=F.length/\v35=.int .i64 j/\InQ e F w2 wr (w.heap.size+1) CL v10 i j u RW I St nx vn vb D c);case atStart=>exact⟨0,I,St,nx,vn,vb,D,c,by omega,rfl,IN0⟩
   case round =>
    clear IN0;obtain⟨j,G,d,r,_,Aw,D2,c2,lU,rfl,O⟩:=hrel;obtain⟨as2,cs2,rfl⟩:=aW O.aq.il;obtain⟨an2,cn2,rfl⟩:=aW O.aq.nl;have n:=aj O;have atz:=O.aq.ln;have atA:=aj atz;have atB:=O.wb.1;have ayj:=O.le;have alL:=(a0d.1 O.il).1;have zr:=O.aq.fr.size;have hI2:i<G.length:=by omega
    have ayk:G.length<=40:=by omega
    clear O atz;have hfm:i*F.length<=40*256:=a0D (by omega) hFl;by_cases ng:j<F.length
    .have hFj:F[j]?=some F[j]:=a0a ng;obtain⟨gf,of,rfl,iE,hcf⟩:=NFF.o j ng;have hgf:=(UF.o.lt _ rfl).1;simp only at hgf;have kL:wr.cell? ⟨gf,of+j,none⟩=some (.int .u8 (F[j]:Nat)):=(n.o.aq.fr.cell (p:=⟨gf,of+j,none⟩) iE (by simp;omega)).trans hcf;have hcm:F[j]∈F:=a0u ng;have hc256:=HFb.o _ hcm;obtain⟨q,l,J⟩:=n.o.aq.mp i u n.o.il;obtain⟨gs,rfl⟩:∃g,as2=some ⟨g,0,none⟩:=by
      rcases n.o.aq.il.2 with⟨e1,h1⟩|⟨g,c,cur,e1,_⟩
      .omega
      simp at e1;exact⟨g,e1.1⟩
     have pY:wr.cell? ⟨gs,i,none⟩=some (.int .i64 (q:Nat)):=by
      have:=n.o.aq.il.cell i hI2;rw[a0a hI2]at l;simp only[Option.some.injEq]at l;rw[l]at this;omega
     have RD:=aj (adK (bn e) u F j F[j] d r hFj);have LB:=aj (YE (w2.heap.size+1) wr w2.heap.size Aw D2 r.length F[j] c2 (D7 e F) _ q (dW (bn e) u) n.o.aq.st J (aj5 ho hp ht ap8.o hcm) hc256 (by omega));have hsn:Z_ (left F[j] (dW (bn e) u)=dW (bn e) (u++[F[j]])):=(tK _ _ _).symm;rw[hsn.o]at LB;clear hcf hFj l J hcm hsn;generalize F[j]=cc at *;have ayl:(i:Int)<G.length:=by omega
     go_wp2_with fail;refine(LB.o).mono ?_;rintro en w5 ⟨vb5,_,r5,rfl,atC,hr5,hq5⟩;have N:=aj (n.o.aq.turn atC hq5);have IG:=aj hr5;have ap9:=N.o.find hr5;have FI:=aj7 (.slice (some ⟨gs,0,none⟩) G.length cs2) G r5 w5 (xV N.o.il) (by omega);rw[ap9]at FI;have FI2:=aj FI;have aym:=alx (bn e) d (u++[cc]);have z5:=hq5.fr.size;clear atC hr5 hq5 ap9 FI LB kL pY;have RD2:Z_ (RW=if Bi (bn e) d (u++[cc])=40 then (false,d,r) else rQ (bn e) u (F.drop (j+1)) (if Bi (bn e) d (u++[cc])=d.length then d++[u++[cc]] else d) (r++[Bi (bn e) d (u++[cc])])):=by
      show _=_;rw[<-n.o.go];exact RD
     clear RD;generalize Bi (bn e) d (u++[cc])=V at *;go_wp2_with fail;refine(FI2.o).mono ?_;rintro _ _ ⟨rfl,rfl⟩;by_cases Eu:V=40
     .have M:Z_ (oC (bn e) F=(false,d,r)):=by show _=_;rw[Vt.o,RD2.o,a0m Eu]
      have jW:w5.heap[w.heap.size]?=some (.cells Tryz.zeroCells100 100 (0,0)):=by
       rw[N.o.fr.block w.heap.size (by omega) (by simp),F2.o.block w.heap.size (by omega) (by simp)];exact NQ
      have dY:=vX jW rfl xH;have xZ:=aj (vW (cs:=Tryz.zeroCells100) jW);have FF:Z_ (aB [] w (w5.setRow w.heap.size Tryz.zeroCells100)):=(sZ.o.above ((F2.o.above N.o.fr (by simp))) (by intro x hx;simp at hx;omega)).above (aB.setRow _ _ _) (by simp);subst Eu;clear jW;go_wp2
      (try simp only[Exit.inBlock,Exit.then])
      refine bodyPost_ret (bS rfl _ _ w.heap.size _ rfl (rY xZ.o jZ)) rfl ?_;refine⟨FF,λ_=>rfl,λh=>?_⟩;rw[M.o]at h;simp at h
     have ayn:((V:Int)==40)=false:=by rw[a0j];omega
     have RD3:Z_ (RW=rQ (bn e) u (F.drop (j+1)) (if V=d.length then d++[u++[cc]] else d) (r++[V])):=by
      show _=_;rw[RD2.o,a0n Eu]
     clear RD2 FI2;have hcN:=N.o.au.cN.2;by_cases uD:V=d.length
     .have hnI:V=G.length:=by have:=atA.o;omega
      subst hnI;have RD4:Z_ (rQ (bn e) u (F.drop (j+1)) (d++[u++[cc]]) (r++[G.length])=RW):=by
       show _=_;rw[RD3.o,a0m uD]
      have WB4:=aj (n.o.wb.add (c:=cc) n.o.il (by omega));have IL4:Z_ ((d++[u++[cc]])[i]?=some u):=rR (a1t _ _) n.o.il;clear RD3 uD;go_wp2_with (first | (at_builtin;refine vG _ rfl _ _ rfl (w2.heap.size+1) (.slice (some ⟨gs,0,none⟩) G.length cs2) G r5 w5.heap.size rfl (N.o.il.alloc _) rfl (j6 _ _ _ _ rfl) (by omega) (by simp;omega) ?_;intro gg aU w6 aS m T awK;have A6:=aj (N.o.awI IG.o aS m T awK);have ayo:=A6.o.au.cN.2;have zz6:=A6.o.fr.size;clear aS m T)|(at_builtin;refine vG _ rfl _ _ rfl (w2.heap.size+1) (.slice an2 r.length cn2) r G.length w6.heap.size rfl (A6.o.nl.alloc _) rfl (j6 _ _ _ _ rfl) (by omega) (by simp;omega) ?_;intro g7 atm w7 aS m T aqa;have A7:=aj (A6.o.addN aS m T aqa);have s:=(A6.o.aY ((aB.refl [] w6).alloc _)).au.aC (aB.fo m) (λhm=>by rw[a0H]at hm;have:=(A6.o.nl.lt _ hm).1;omega);have hc7:=s.cN.2;have Nw:=s.fz 258;clear aS m T s));go_roundg (gk-1);case measure=>omega
      case rel=>exact⟨j+1,_,_,_,_,vb5,_,cc,by omega,by go_num,⟨by simpa using A7.o,RD4,WB4,by simp;omega,IL4⟩⟩
     have hnI:V≠G.length:=by have:=atA.o;omega
     have hbI:=atr hnI;have RD4:Z_ (rQ (bn e) u (F.drop (j+1)) d (r++[V])=RW):=by
      show _=_;rw[RD3.o,a0n uD]
     clear RD3 uD;go_wp2_with (first | (at_builtin;refine vG _ rfl _ _ rfl (w2.heap.size+1) (.slice an2 r.length cn2) r V w5.heap.size rfl (N.o.nl.alloc _) rfl (j6 _ _ _ _ rfl) (by omega) (by simp;omega) ?_;intro _ _ _ aS m T aqa;have A7:=aj (N.o.addN aS m T aqa);have s:=(N.o.aY ((aB.refl [] w5).alloc _)).au.aC (aB.fo m) (λhm=>by rw[a0H]at hm;have:=(N.o.nl.lt _ hm).1;omega);have hc7:=s.cN.2;have Nw:=s.fz 258;clear aS m T s));go_roundg (gk-1);case measure=>omega
     case rel=>exact⟨j+1,_,_,_,_,vb5,_,cc,by omega,by go_num,⟨by simpa using A7.o,RD4,n.o.wb,by simp;omega,n.o.il⟩⟩
    have mK:j=F.length:=by omega
    have Li:RW=(true,d,r):=by rw[<-n.o.go,mK,a2H];rfl
    have HGO:Z_ (yz (bn e) F g1 (i+1) d r=oC (bn e) F):=by
     show _=_;have:=Vt.o;rw[Li]at this;exact this.symm
    have hle:r.length<=(i+1)*F.length:=by rw[a0J];omega
    clear Li;go_wp2;go_roundg g1;case measure=>omega
    case rel=>exact⟨i+1,G,d,r,_,Aw,D2,c2,by omega,by go_num,⟨n.o.aq,HGO,n.o.wb,hle,by omega⟩⟩
  have M:Z_ (oC (bn e) F=(true,St,nx)):=ahK Q.o.go (by have:=B.o;omega);have hA0:=Q.o.aq.au;have hFw:aB [w.heap.size+1] w2 H:=Q.o.aq.fr;have jW:H.heap[w.heap.size]?=some (.cells Tryz.zeroCells100 100 (0,0)):=by
   rw[hFw.block w.heap.size (by omega) (by simp),F2.o.block w.heap.size (by omega) (by simp)];exact NQ
  have HA0:=aj hA0;have xZ:=aj jW;have alK:=Dx Q.o.aq.il;clear hA0 jW hFw;obtain⟨an,cn,rfl⟩:=aW Q.o.aq.nl;have hls:=Q.o.aq.st.pP.2.2.2.2.2;go_wp2_with fail;go_loopg [69] I.length (λk v69 wr=>∃(j:Nat) (va:Value),j+k=I.length/\v69=.int .i64 j/\QL H.heap.size wr va ((St.take j).map λu=>dK (dW (bn e) u))/\AB wr (w.heap.size+1) F.length CL va (.slice an nx.length cn)/\aB [w.heap.size+1] H wr);case atStart=>exact⟨0,.slice none 0 0,by omega,rfl,World.ownsRow_nil _ _ _ _,HA0,aB.refl _ _⟩
  case round =>
   obtain⟨j,_,_,rfl,Kv,uz,bH⟩:=hrel;obtain⟨aa,ca,rfl⟩:=aW Kv;have y:=aj Kv;have E:=aj uz;have C:=aj bH;have z1:=bH.size;have auW:=uz.lt;clear Kv uz bH;by_cases Gb:j<I.length
   .obtain⟨u,Y⟩:∃u,St[j]?=some u:=⟨St[j]'(by have:=B.o;omega),a0a (by have:=B.o;omega)⟩;obtain⟨q,l,J⟩:=Q.o.aq.mp j u Y;obtain⟨gs,rfl⟩:∃g,ast=some ⟨g,0,none⟩:=by
     rcases Q.o.aq.il.2 with⟨e1,_⟩|⟨g,c,_,e1,_⟩
     .omega
     simp at e1;exact⟨g,e1.1⟩
    have XO:=Q.o.aq.il.lt gs rfl;have pY:wr.cell? ⟨gs,j,none⟩=some (.int .i64 (q:Nat)):=by
     have:=Q.o.aq.il.cell j Gb;rw[a0a Gb]at l;simp only[Option.some.injEq]at l;rw[l]at this;rw[C.o.cell (p:=⟨gs,j,none⟩) XO.2 (by simp;omega)];omega
    have atD:=Q.o.aq.st.aC C.o (by simp;omega) (by simp;omega) HA0.o.wu;obtain⟨f,_,_,K⟩:=atD.look J;have:=K.tab;have k8:=K.get.2.2.2.2.2.2.2.2.1;have:=K.lt;rw[K.te]at k8;have:=E.o.cN.1;have hzA:=E.o.fz 257;have MT:=aj (YF St (λu=>dK (dW (bn e) u)) j u Y);have:(q:Int)<D.length:=by omega
    have:((St.take j).map λu=>dK (dW (bn e) u)).length<=40:=by simp;omega
    clear K atD l J Y;generalize dK (dW (bn e) u)=bb at *;generalize ((St.take j).map λu=>dK (dW (bn e) u))=LB at *;obtain⟨i9,hi9,Qa,Yk,Il⟩:=info_parts acT;have QLr:Z_ (wr.ownsRow H.heap.size 4 1 (.slice aa LB.length ca) LB.length (LB.map λb=>.bool b)):=y.o;have bJ:Value.ownBlock (.slice aa LB.length ca)≠some (w.heap.size+1):=λe=>by have:=(y.o.lt _ e).1;omega
    have g2:∀o:Obj,(wr.alloc o).drew.frozen? ⟨w.heap.size+1,257,none⟩=false:=λo=>((((aB.refl [] wr).alloc o).drew).frozen auW (by simp)).trans hzA;go_wp2_with fail;go_region_law ((refine step_append_lies _ (by rfl) _ _ _ (by rfl) H.heap.size 4 i9 _ 1 1 Tryz.underlying98 hi9 Qa Yk Il rfl (by omega) (.slice aa LB.length ca) LB.length (LB.map λb=>.bool b) (by rfl) (by exact QLr.o.alloc _) ⟨wr.heap.size,0,none⟩ 1 1 [.bool bb] (by rfl) (by rfl) (World.news_of_block (cs:=#[.bool bb]) (t:=4) (fr:=(0,0)) (by exact bD _ _)) (by simp[Value.oneCell']) (by omega) (by unfold maxLen;omega) (by omega) (by simp;omega) (wr.heap.size+1) (by simp) ?_;intro gg Kq w4 bT m T _;have:=(m.cell_far ⟨w.heap.size+1,257,none⟩ (by simp;omega) (Ne.symm bJ));have f4:=(m.frozen_far ⟨w.heap.size+1,257,none⟩ (by simp;omega) (Ne.symm bJ))));all_goals
     have F4:=aB.fo m;have AB4:=(E.o.aC (S:=[]) (((aB.refl [] wr).alloc (.cells #[.bool bb] 4)).drew) (by simp)).aC F4 (by simpa[a0H] using λe=>bJ e);have AB5:=aj (AB4.agr (.slice (some ⟨gg,0,none⟩) (LB.length+1) Kq));have QL5:=aj (ownsRow_setCell_below bT (a:=⟨w.heap.size+1,257,none⟩) (by show w.heap.size+1<H.heap.size;omega) (.slice (some ⟨gg,0,none⟩) (LB.length+1) Kq));have FR5:Z_ (aB [w.heap.size+1] H (w4.setCell ⟨w.heap.size+1,257,none⟩ (.slice (some ⟨gg,0,none⟩) (LB.length+1) Kq))):=aB.setCell (aB.grown ((C.o.alloc _).drew) m (λk hk=>.inr (y.o.lt k hk).1)) (.inl (by simp)) _;clear F4 AB4 bT m T;go_wp2;go_roundg (gk-1);case measure=>omega
     case rel =>
      refine⟨j+1,_,by omega,by go_num,?_,AB5,FR5⟩;rw[MT.o];unfold QL;simpa using QL5.o
   have qI:j=St.length:=by have:=B.o;omega
   have htk:((St.take j).map λu=>dK (dW (bn e) u))=St.map λu=>dK (dW (bn e) u):=by rw[qI,a2h]
   rw[htk]at y E;have FJ:wr.heap[w.heap.size]?=some (.cells Tryz.zeroCells100 100 (0,0)):=(C.o.block w.heap.size (by omega) (by simp)).trans xZ;have eG:(Value.int .i64 F.length::(nv .u8 CL++[.slice aa (St.map λu=>dK (dW (bn e) u)).length ca,.slice an nx.length cn])).toArray.size=259:=by simp[nv,E.o.2]
   have atE:=aj E.o.1;have fI:(Value.int .i64 F.length::(nv .u8 CL++[.slice aa (St.map λu=>dK (dW (bn e) u)).length ca,.slice an nx.length cn])).toArray.all (·.oneCell')=true:=by
    refine a2g.2 λv hv=>?_;simp[nv]at hv;rcases hv with rfl|⟨a,_,rfl⟩|rfl|rfl<;>rfl
   have adL:=aj fI;have awL:=aj FJ;have Xf:=aj (vW (cs:=(Value.int .i64 F.length::(nv .u8 CL++[.slice aa (St.map λu=>dK (dW (bn e) u)).length ca,.slice an nx.length cn])).toArray) FJ);have L:=aj eG;have FW:Z_ (aB [] w wr):=(sZ.o.above (F2.o.above (Q.o.aq.fr.above C.o (by simp)) (by simp)) (by intro x hx;simp at hx;omega));have NL1:Z_ (∀cs,IL w.heap.size (wr.setRow w.heap.size cs) (.slice an nx.length cn) nx):=λcs=>BH (mO (mO Q.o.aq.nl C.o (λk hk=>by have:=(Q.o.aq.nl.lt k hk).1;simp;omega)) (aB.setRow _ _ cs) (λk hk=>by have:=(Q.o.aq.nl.lt k hk).1;simp;omega)) (by omega);have QLf:Z_ (∀cs,QL w.heap.size (wr.setRow w.heap.size cs) (.slice aa (St.map λu=>dK (dW (bn e) u)).length ca) (St.map λu=>dK (dW (bn e) u))):=λcs=>BH (mO y.o (aB.setRow _ _ cs) (λk hk=>by have:=(y.o.lt k hk).1;simp;omega)) (by omega);generalize pY:(Value.int .i64 F.length::(nv .u8 CL++[.slice aa (St.map λu=>dK (dW (bn e) u)).length ca,.slice an nx.length cn])).toArray=cs at atE adL Xf L;have II:=aj pY;have awM:=aj (vX awL.o (by rw[L.o,jZ]) adL);clear fI FJ eG qI htk pY;go_wp2_with fail;refine H9 (.tmp 6) rfl (w.heap.size+1) rfl cs (rY atE.o L) ?_;have:=L.o;have:=awM.o;go_wp2
   (try simp only[Exit.inBlock,Exit.then])
   refine bodyPost_ret (bS rfl _ _ w.heap.size _ rfl (rY Xf.o L)) rfl ?_;refine⟨FW.o.above (aB.setRow _ _ _) (by simp),λh=>?_,λ_=>?_⟩
   .rw[M.o]at h;simp at h
   refine⟨.slice aa (St.map λu=>dK (dW (bn e) u)).length ca,.slice an nx.length cn,congrArg (λz=>Ending.returned (.tuple #[.agg z,.bool true])) II.o.symm,?_,?_⟩
   .rw[M.o];exact QLf.o _
   rw[M.o];exact NL1.o _
theorem atF:∀q:Addr,(Value.string { data:=#[] })≠.pointer (some q):=by simp
def atG:∀q:Addr,(Value.pointer none)≠.pointer (some q):=by simp
structure BQ(X:NF)(F:LN)(w wr:World)(v5 v7 v8:Value)(ps:LN)(St:List LN):Prop where
 o5:OV 3 w.heap.size wr v5 (nv .i64 F)
 o7:OZ 187 (.pointer none) w.heap.size wr v7 (ps.map aM)
 o8:OZ 9 (.string { data:=#[] }) w.heap.size wr v8 (sv (St.map λu=>name (dW X u)))
 tn:jC wr ps (St.map (dW X))
 fr:aB [] w wr
 wb:WB St
theorem BQ.aC{wr}(h:BQ X F w wr v5 v7 v8 ps St)(f:aB [] wr w'):BQ X F w w' v5 v7 v8 ps St :=
 ⟨h.o5.aC f (by simp),h.o7.aC f (by simp),h.o8.aC f (by simp),h.tn.aC f,h.fr.trans f,h.wb⟩
theorem BQ.len{wr}(h:BQ X F w wr v5 v7 v8 ps St):ps.length=St.length:=by have:=h.tn.len;rw[a0y]at this;omega
def acx(w p t X F)(h:RN w p t)(hl:(kP t).length<=1000)(hg:GT t)(hX:dJ t=X)(hF:gP (kP t) 256=F)
 (hr:∀(u:LN) (c:Nat),u.length<=39->WC (dW X u)/\xP c (dW X u)/\nl (left c (dW X u))<9223372036854775807) :
 zF 71 #[zP p,zI 40] w λe w'=>∃n:Nat,e=zR (zI n)/\n<=41/\(40<n↔(oC X F).1=false)/\aB [] w w':=by
 have A0:=afp _ _ _ h hl;rw[hF]at A0;have A:=aj A0;have B:Z_ (∀M,aB [] w M->zF 86 #[zP p] M (zU M X)):=λM hf=>by
  have:=qU t M p (RN.aY (dX.of hf) h) hg;rw[hX]at this;exact this
 have HR:=aj hr;have hFl:F.length<=256:=by have:=xW (kP t) 256;rw[hF]at this;exact this.1
 have HFb:Z_ (∀f∈F,f<256):=by have:=xW (kP t) 256;rw[hF]at this;exact this.2
 clear h hg hX hF hr A0 hl;delta zF;go_in;go_wp2_with fail;refine(A.o).mono ?_;rintro e M ⟨_,rfl,sU,aZ⟩;have B1:=aj (B.o M aZ);have O1:=aj sU;have F1:=aj aZ;obtain⟨a5,E,c5,rfl,NV⟩:=sU.open;have I:Z_ (E=F.length):=by show _=_;rw[NV];simp[nv]
 have ayq:E<=256:=by have:=I.o;omega
 clear sU aZ NV A B;go_wp2_with fail;refine(B1.o).mono ?_;rintro e w2 ⟨q,rfl,ht,aR⟩;have G:=ht.nm;have hq:=bY G;have Q0:Z_ (BQ X F w ((w2.alloc (.cells #[aM q] 187)).alloc (.cells #[zT (name X)] 9)) (.slice a5 E c5) (zS w2.heap.size 1 1) (zS (w2.heap.size+1) 1 1) [q] [[]]):=by
  have f2:=F1.o.trans aR;have z2:=f2.size;have fa:aB [] w2 ((w2.alloc (.cells #[aM q] 187)).alloc (.cells #[zT (name X)] 9)):=((aB.refl [] _).alloc _).alloc _;refine⟨(O1.o.aC aR (by simp)).aC fa (by simp),(OZ.lit w2 (aM q) z2).aC ((aB.refl [] _).alloc _) (by simp),?_,?_,f2.trans fa,WB.one⟩
  .have:=OZ.lit (e:=9) (z:=.string { data:=#[] }) (base:=w.heap.size) (w2.alloc (.cells #[aM q] 187)) (zT (name X)) (by simp;omega);simpa[sv,dW] using this
  have:=ht.aC fa;simp only[a0E,a1V,jC,dW];exact⟨this,trivial⟩
 clear ht aR B1 O1 F1;unfold aM at Q0 |-;go_wp2_with fail;go_loopg [7,8,9] 41 (λk v7 v8 v9 wr=>∃(i:Nat) (ps:LN) (St:List LN) (nx:LN),i+k=41/\v9=zI i/\BQ X F w wr (.slice a5 E c5) v7 v8 ps St/\yz X F k i St nx=oC X F/\i<=St.length);case atStart=>exact⟨0,[q],[[]],[],by omega,rfl,Q0,rfl,by simp⟩
 case round =>
  clear Q0 G hq;obtain⟨i,ps,St,nx,_,rfl,hq,iD,jc⟩:=hrel;obtain⟨wo,Vg⟩:∃wo,wo=wr:=⟨_,rfl⟩;subst Vg;obtain⟨go,Ty⟩:∃go,go=gk:=⟨_,rfl⟩;subst Ty;obtain⟨a7,g,c7,rfl,v⟩:=hq.o7.ov.open;obtain⟨a8,D,c8,rfl,Od⟩:=hq.o8.ov.open;have r:Z_ (g=St.length):=by show _=_;rw[v,a0y,hq.len]
  have EH:=hq.wb.1;have Q:=aj hq;have GO:=aj iD;have atH:g<=40:=by have:=r.o;omega
  clear hq iD v Od;by_cases aL:i<g
  .obtain⟨g1,IE⟩:∃g1,go=g1+1:=⟨go-1,by omega⟩;subst IE;obtain⟨u,hu⟩:∃u,St[i]?=some u:=⟨St[i]'(by have:=r.o;omega),a0a (by have:=r.o;omega)⟩;have Vt:=aj (abk GO.o hu);have HU:=aj hu;obtain⟨RW,R⟩:∃RW,rQ X u F St nx=RW:=⟨_,rfl⟩;rw[R]at Vt;have Li:=aj R;clear hu R GO jc;go_wp2_with fail;go_loopg [7,8,10] E (λk v7 v8 v10 wr=>∃(j:Nat) (ps:LN) (St:List LN) (nx:LN),j+k=E/\v10=zI j/\BQ X F w wr (.slice a5 E c5) v7 v8 ps St/\rQ X u (F.drop j) St nx=RW/\St[i]?=some u);case atStart=>exact⟨0,ps,St,nx,by omega,rfl,Q,Li,HU⟩
   case round =>
    clear Q HU Li atH EH r aL;obtain⟨j,s,a,Bl,_,rfl,L,atI,U⟩:=hrel;obtain⟨_,g,c7,rfl,v⟩:=L.o7.ov.open;obtain⟨a8,D,c8,rfl,Od⟩:=L.o8.ov.open;have r:Z_ (g=a.length):=by show _=_;rw[v,a0y,L.len]
    have Hn8:Z_ (D=a.length):=by show _=_;rw[Od];simp[sv]
    have J:=aj L.len;have atB:=L.wb.1;have alK:=(a0d.1 U).1;have hi7:i<g:=by have:=r.o;omega
    have atH:g<=40:=by have:=r.o;omega
    have ayr:D<=40:=by have:=Hn8.o;omega
    have zr:=L.fr.size;have Q2:=aj L;have GO2:=aj atI;have C:=aj U;clear L atI U v Od atB alK;by_cases ng:j<E
    .obtain⟨c,hc⟩:∃c,F[j]?=some c:=⟨F[j]'(by have:=I.o;omega),a0a (by have:=I.o;omega)⟩;have P:=HFb.o c (a0B hc);obtain⟨_,rfl,_,Vy,hc5⟩:=Q2.o.o5.cell (j:=j) (u:=zI c) (by simp[nv,hc]);obtain⟨q,hq,Ij⟩:=Q2.o.tn.get i (dW X u) (by rw[a0Q,C.o];rfl);obtain⟨g7,rfl,_,hg7,hc7⟩:=Q2.o.o7.ov.cell (j:=i) (u:=aM q) (by rw[a0Q,hq];rfl);unfold aM at hc7;have atJ:u.length<=39:=by have:=Q2.o.wb.2 i u C;omega
     obtain⟨r1,r2,r3⟩:=HR.o u c atJ;have Y:∀W,aB [] wr W->zF 87 #[zP q,zI c] W (zU W (left c (dW X u))):=λW hf=>afe c P _ W q (Ij.aC hf) r1 r2 r3;rw[<-tK]at Y;have NB:=aj Y;have V:=adK X u F j c a Bl hc;rw[GO2.o]at V;have RD:=aj V;have FN:Z_ (aB [] wr wr.drew):=(aB.refl [] wr).drew;have Z:=aj (apL X a (u++[c]));clear Y V r1 r2 r3 hq Ij hc atJ;go_wp2_with fail;go_region_with (go_at_call 87;refine(NB.o _ FN).mono ?_;rintro e w5 ⟨q5,rfl,N,xe⟩);all_goals
      have G:=N.nm;have T5:=aj N;have b:=aj (Q2.o.aC (FN.o.trans xe));have z5:=(FN.o.trans xe).size;clear N xe hc7 hc5 hg7 Vy;unfold aM;have RSn:RS 0 w5 (.slice a8 D c8) (a.map λu=>name (dW X u)):=(b.o.o8.ov.sl.rs (by rw[a0y];have:=b.o.wb.1;omega)).base (a1G _);have NF:=aj (wh (.slice a8 D c8) (a.map λu=>name (dW X u)) (name (dW X (u++[c]))) w5 RSn);clear RSn;have hS2:a.length<=40:=b.o.wb.1;go_wp2_with fail;refine(NF.o).mono ?_;rintro e _ ⟨rfl,rfl⟩;clear NF;rcases Z.o with⟨AV,x⟩|⟨Ox,x⟩
      .generalize oI (a.map λu=>name (dW X u)) (name (dW X (u++[c])))=fi at AV |-;have l:=RD.o;rw[x]at l;clear RD Z;by_cases Eu:g=40
       .have HAR:Z_ ((oC X F).1=false):=by
         show _=_;rw[a0m (by have:=r.o;omega)]at l;rw[Vt.o,l]
        have dZ:40<g+1:=by omega
        clear l Eu x;go_wp2_with (first | (at_builtin;refine afq _ rfl _ _ 189 187 (.pointer none) 8 DY Tryz.underlying189 rfl (by decide) atG (by omega) rfl w.heap.size (zS g7 g c7) (s.map aM) (g+1) w5.heap.size (aM q5) (by rw[a0y,J.o,r.o]) rfl (b.o.o7.aC (S:=[]) ((aB.refl [] _).alloc _) (by simp)) rfl (mi _ _ _ _ rfl) rfl (by rw[a0y,J.o];omega) (by simp;omega) ?_;intro g8 c8' w7 y d m;have O7:=aj y;have P5:=aj (OV.other (b.o.o7.ov.aC (S:=[]) ((aB.refl [] _).alloc _) (by simp)) (b.o.o5.aC (S:=[]) ((aB.refl [] _).alloc _) (by simp)) (by decide) d);have H:=aj (OZ.other (b.o.o8.aC (S:=[]) ((aB.refl [] _).alloc _) (by simp)) (b.o.o7.ov.aC (S:=[]) ((aB.refl [] _).alloc _) (by simp)) (by decide) d);have T7:=aj ((b.o.tn.aC ((aB.refl [] _).alloc _)).kt m);have Y7:=aj ((T5.o.aC ((aB.refl [] _).alloc _)).kt m);have T:=Y7.o.nm;have F7:=aj ((b.o.fr.alloc _).grown d (λk O=>.inr (b.o.o7.ov.base k O)));have z7:=F7.o.size;clear y d m)|(at_builtin;refine afq _ rfl _ _ 46 9 (.string { data:=#[] }) 16 uY Tryz.underlying46 rfl (by decide) atF (by omega) rfl w.heap.size (.slice a8 D c8) (sv (a.map λu=>name (dW X u))) (D+1) w7.heap.size (zT (name (dW X (u++[c])))) (by rw[Hn8.o];simp[sv]) rfl (H.o.aC (S:=[]) ((aB.refl [] _).alloc _) (by simp)) rfl (mi _ _ _ _ rfl) rfl (by simp[sv];omega) (by simp;omega) ?_;intro g9 c9 w8 y d m;have O8:=aj y;have R5:=aj (OV.other (H.o.ov.aC (S:=[]) ((aB.refl [] _).alloc _) (by simp)) (P5.o.aC (S:=[]) ((aB.refl [] _).alloc _) (by simp)) (by decide) d);have R7:=aj (OZ.other (O7.o.aC (S:=[]) ((aB.refl [] _).alloc _) (by simp)) (H.o.ov.aC (S:=[]) ((aB.refl [] _).alloc _) (by simp)) (by decide) d);have T8:=aj ((T7.o.aC ((aB.refl [] _).alloc _)).kt m);have Y8:=aj ((Y7.o.aC ((aB.refl [] _).alloc _)).kt m);have F8:=aj ((F7.o.alloc _).grown d (λk O=>.inr (H.o.ov.base k O)));clear y d m));go_ret;exact⟨g+1,by go_num,by omega,⟨λ_=>HAR,λ_=>dZ⟩,F8⟩
       have HRD:Z_ (rQ X u (F.drop (j+1)) (a++[u++[c]]) (Bl++[a.length])=RW):=by
        show _=_;rw[a0n (by have:=r.o;omega),a0m rfl]at l;exact l.symm
       have WB3:=aj (b.o.wb.add (c:=c) C.o (by have:=r.o;omega));have hle:g+1<=40:=by omega
       clear l Eu x;go_wp2_with (first | (at_builtin;refine afq _ rfl _ _ 189 187 (.pointer none) 8 DY Tryz.underlying189 rfl (by decide) atG (by omega) rfl w.heap.size (zS g7 g c7) (s.map aM) (g+1) w5.heap.size (aM q5) (by rw[a0y,J.o,r.o]) rfl (b.o.o7.aC (S:=[]) ((aB.refl [] _).alloc _) (by simp)) rfl (mi _ _ _ _ rfl) rfl (by rw[a0y,J.o];omega) (by simp;omega) ?_;intro _ _ w7 y d m;have O7:=aj y;have P5:=aj (OV.other (b.o.o7.ov.aC (S:=[]) ((aB.refl [] _).alloc _) (by simp)) (b.o.o5.aC (S:=[]) ((aB.refl [] _).alloc _) (by simp)) (by decide) d);have H:=aj (OZ.other (b.o.o8.aC (S:=[]) ((aB.refl [] _).alloc _) (by simp)) (b.o.o7.ov.aC (S:=[]) ((aB.refl [] _).alloc _) (by simp)) (by decide) d);have T7:=aj ((b.o.tn.aC ((aB.refl [] _).alloc _)).kt m);have Y7:=aj ((T5.o.aC ((aB.refl [] _).alloc _)).kt m);have T:=Y7.o.nm;have F7:=aj ((b.o.fr.alloc _).grown d (λk O=>.inr (b.o.o7.ov.base k O)));have z7:=F7.o.size;clear y d m)|(at_builtin;refine afq _ rfl _ _ 46 9 (.string { data:=#[] }) 16 uY Tryz.underlying46 rfl (by decide) atF (by omega) rfl w.heap.size (.slice a8 D c8) (sv (a.map λu=>name (dW X u))) (D+1) w7.heap.size (zT (name (dW X (u++[c])))) (by rw[Hn8.o];simp[sv]) rfl (H.o.aC (S:=[]) ((aB.refl [] _).alloc _) (by simp)) rfl (mi _ _ _ _ rfl) rfl (by simp[sv];omega) (by simp;omega) ?_;intro _ _ _ y d m;have O8:=aj y;have R5:=aj (OV.other (H.o.ov.aC (S:=[]) ((aB.refl [] _).alloc _) (by simp)) (P5.o.aC (S:=[]) ((aB.refl [] _).alloc _) (by simp)) (by decide) d);have R7:=aj (OZ.other (O7.o.aC (S:=[]) ((aB.refl [] _).alloc _) (by simp)) (H.o.ov.aC (S:=[]) ((aB.refl [] _).alloc _) (by simp)) (by decide) d);have T8:=aj ((T7.o.aC ((aB.refl [] _).alloc _)).kt m);have Y8:=aj ((Y7.o.aC ((aB.refl [] _).alloc _)).kt m);have F8:=aj ((F7.o.alloc _).grown d (λk O=>.inr (H.o.ov.base k O)));clear y d m));go_roundg (gk-1);case measure=>omega
       case rel =>
        refine⟨j+1,s++[q5],a++[u++[c]],Bl++[a.length],by omega,by go_num,⟨R5,?_,?_,?_,F8,WB3⟩,HRD,rR (a1t _ _) C⟩
        .have:=R7.o;simpa using this
        .have:=O8.o;simpa[sv] using this
        rw[a0P];refine T8.o.app ?_;simp only[a0E,a1V,jC];exact⟨Y8,trivial⟩
      generalize oI (a.map λu=>name (dW X u)) (name (dW X (u++[c])))=fi at Ox |-;have HRD:Z_ (rQ X u (F.drop (j+1)) a (Bl++[Bi X a (u++[c])])=RW):=by
       show _=_;have:=RD.o;rw[a0n (by have:=r.o;omega),a0n (by omega)]at this;exact this.symm
      clear RD Z x;go_wp2;go_roundg (gk-1);case measure=>omega
      case rel=>exact⟨j+1,s,a,_,by omega,by go_num,b,HRD,C⟩
    have qI:j=E:=by omega
    have atK:RW=(true,a,Bl):=by rw[<-GO2.o,qI,I.o,a2H];rfl
    have HGO:Z_ (yz X F g1 (i+1) a Bl=oC X F):=by
     show _=_;have:=Vt.o;rw[atK]at this;exact this.symm
    have adM:i+1<=a.length:=by have:=r.o;omega
    clear atK qI;go_wp2;go_roundg g1;case measure=>omega
    case rel=>exact⟨i+1,s,a,Bl,by omega,by go_num,Q2,HGO,adM⟩
  have HAR:Z_ (oC X F=(true,St,nx)):=ahK GO.o (by have:=r.o;omega);go_wp2;go_ret;refine⟨g,rfl,by omega,⟨λh=>by omega,λh=>?_⟩,Q.o.fr⟩;rw[HAR.o]at h;simp at h
def kZ(e:RX):LN:=gP (dB e) 256
def ach(e:RX):LN:=Xa (dB e) 256
def eu(e:RX):Bool × List LN × LN:=oC (bn e) (kZ e)
def gH(t:LB):Nat :=
 match fF t with
 | none=>5
 | some e=>if 40<dI e then 6 else if (eu e).1 then 0 else 7
def akf(w:World)(t:LB)(en:Ending)(w':World):Prop :=
 aB [] w w'/\∃cs:Array Value,cs.size=259/\cs.all (·.oneCell')=true/\en=zQ #[.agg cs,zI (gH t)]/\(gH t≠0->cs=Tryz.zeroCells100) /\
  (∀e,fF t=some e->gH t=0->∃va vn,cs=(Value.int .i64 (kZ e).length::(nv .u8 (ach e)++[va,vn])).toArray/\QL w.heap.size w' va ((eu e).2.1.map λu=>dK (dW (bn e) u))/\IL w.heap.size w' vn (eu e).2.2)
def abm {b}(h:FP w.heap.size b w w'):aB [b] w w':=⟨h.os,h.tape,h.output,h.size,λk a c=>h.block k a (by simpa using c) (.inl a)⟩
def adN(S n):(Xa S n).length=n:=by simp[Xa]
def Tz(h:fF t=some x):(dB x).length<=t.length:=by
 unfold fF at h;split at h
 .rename_i y a;simp at h;subst h;have:=(PK a).1;simp[cz]at this;omega
 simp at h
theorem ahL.ok {e:RX}(h:ahL w e (kZ e) (ach e) en w')(a:(eu e).1=true):aB [] w w'/\∃va vn,en=zQ #[.agg (zI (kZ e).length::(nv .u8 (ach e)++[va,vn])).toArray,.bool true]/\QL w.heap.size w' va ((eu e).2.1.map λu=>dK (dW (bn e) u))/\IL w.heap.size w' vn (eu e).2.2:=by unfold eu at a |-;exact⟨h.1,h.2.2 a⟩
def ahL.no {e:RX}(h:ahL w e (kZ e) (ach e) en w')(a:(eu e).1=false):aB [] w w'/\en=zQ #[.agg Tryz.zeroCells100,.bool false]:=by unfold eu at a;exact⟨h.1,h.2.1 a⟩
def acy(t w)(ht:t.length<=40):zF 96 #[zT t] w (akf w t):=by
 delta zF;go_in;go_wp2_with fail;have L:aB [] w ((w.alloc (.cells Tryz.zeroCells100 100)).alloc (.cells #[zT t,zI 0,zN] 222)):=zJ.alloc _;have fM:((w.alloc (.cells Tryz.zeroCells100 100)).alloc (.cells #[zT t,zI 0,zN] 222)).heap.size=w.heap.size+2:=by simp
 have V:((w.alloc (.cells Tryz.zeroCells100 100)).alloc (.cells #[zT t,zI 0,zN] 222)).heap[w.heap.size]?=some (.cells Tryz.zeroCells100 100 (0,0)):=by rw[zG.block w.heap.size (by simp) (by simp)];exact bD _ _
 have p:PA ((w.alloc (.cells Tryz.zeroCells100 100)).alloc (.cells #[zT t,zI 0,zN] 222)) (w.heap.size+1) t t zN:=by
  refine⟨0,⟨?_,by omega,by omega⟩,rfl⟩;have:=bD (w.alloc (.cells Tryz.zeroCells100 100)) (.cells #[zT t,zI 0,zN] 222);have N:(w.alloc (.cells Tryz.zeroCells100 100)).heap.size=w.heap.size+1:=by simp
  rw[N]at this;exact this
 generalize (w.alloc (.cells Tryz.zeroCells100 100)).alloc (.cells #[zT t,zI 0,zN] 222)=J at L fM V p |-;have PR:=aj6 _ _ _ _ p (by omega) (a0b _) (by omega);clear p;refine PR.mono ?_;intro en w2 l;cases g:fF t with
 | none =>
   rw[g]at l;obtain⟨rfl,d⟩:=l;have i:gH t=5:=by simp[gH,g]
   have F2:=abm d;have M:w2.heap[w.heap.size]?=some (.cells Tryz.zeroCells100 100 (0,0)):=(F2.block w.heap.size (by omega) (by simp)).trans V;have R:=vX M rfl xH;have A:=vW (cs:=Tryz.zeroCells100) M;have z:aB [] w (w2.setRow w.heap.size Tryz.zeroCells100):=(L.above F2 (by intro x hx;simp at hx;omega)).above (aB.setRow _ _ _) (by simp);have f:=g;obtain⟨_,_⟩:∃q:Option Addr,q=none:=⟨_,rfl⟩;clear M d F2 g PR;go_wp2
   (try simp only[Exit.inBlock,Exit.then])
   refine bodyPost_ret (bS rfl _ _ w.heap.size _ rfl (rY A jZ)) rfl ?_;rw[show akf w t=akf w t from rfl];refine⟨z,_,jZ,xH,by rw[i];rfl,λ_=>rfl,λe he=>?_⟩;rw[f]at he;simp at he
 | some e =>
   rw[g]at l;obtain⟨eb,_,rfl,I,I7,X,d⟩:=l;obtain⟨jk,_⟩:=mQ g;have AY:=zM g;have qH:=ahn g;have U0:=Tz g;have F2:=abm d;have A:w2.heap[w.heap.size]?=some (.cells Tryz.zeroCells100 100 (0,0)):=(F2.block w.heap.size (by omega) (by simp)).trans V;have y:aB [] w w2:=L.above F2 (by intro x I;simp at I;omega);have PL:=Lb e _ w2 eb I AY (by omega);obtain⟨_,Y,_⟩:=I7;have Z:=Y.c2;have f:=g;have z2:=F2.size;obtain⟨T,S,rfl⟩:=aW X;clear Y d F2 g PR;go_wp2_with fail;refine PL.mono ?_;rintro en _ ⟨rfl,rfl⟩;by_cases lV:40<dI e
   .have i:gH t=6:=by simp[gH,f,lV]
    have R:=vX A rfl xH;have C:=vW (cs:=Tryz.zeroCells100) A;have z:aB [] w (w2.setRow w.heap.size Tryz.zeroCells100):=y.above (aB.setRow _ _ _) (by simp);clear PL;generalize dI e=pn at *;go_wp2
    (try simp only[Exit.inBlock,Exit.then])
    refine bodyPost_ret (bS rfl _ _ w.heap.size _ rfl (rY C jZ)) rfl ?_;refine⟨z,_,jZ,xH,by rw[i];rfl,λ_=>rfl,λe he B=>?_⟩;rw[i]at B;simp at B
   have AU:=Vx _ J.heap.size w2 eb e (.slice T (dB e).length S) (dB e) (kZ e) (ach e) I X (by omega) rfl rfl jk AY (by omega) (by omega) (by omega);clear PL;have D:gH t=if (eu e).1 then 0 else 7:=by simp[gH,f,lV]
   generalize dI e=pn at *;go_wp2_with fail;refine AU.mono ?_;intro _ c m;cases j:(eu e).1 with
   | false =>
     obtain⟨r,rfl⟩:=m.no j;have i:gH t=7:=by rw[D,j];rfl
     have z3:=r.size;have O:=run_storeCells_new (P:=Tryz.prog) c 100 Tryz.zeroCells100 Tryz.zeroCells100 (by rw[jZ];exact H8) rfl xH;have s:(c.alloc (.cells Tryz.zeroCells100 100)).heap[w.heap.size]?=some (.cells Tryz.zeroCells100 100 (0,0)):=by rw[((aB.refl [] c).alloc _).block w.heap.size (by omega) (by simp),r.block w.heap.size (by omega) (by simp)];exact A
     have R:=vX s rfl xH;have C:=vW (cs:=Tryz.zeroCells100) s;have z:aB [] w ((c.alloc (.cells Tryz.zeroCells100 100)).setRow w.heap.size Tryz.zeroCells100):=((y.above r (by simp)).alloc _).above (aB.setRow _ _ _) (by simp);clear AU m j s Z;go_wp2
     (try simp only[Exit.inBlock,Exit.then])
     refine bodyPost_ret (bS rfl _ _ w.heap.size _ rfl (rY C jZ)) rfl ?_;refine⟨z,_,jZ,xH,by rw[i];rfl,λ_=>rfl,λe he B=>?_⟩;rw[i]at B;simp at B
   | true =>
     obtain⟨r,_,_,rfl,H,E⟩:=m.ok j;obtain⟨G,ca,rfl⟩:=aW H;obtain⟨F,cn,rfl⟩:=aW E;have i:gH t=0:=by rw[D,j];rfl
     have z3:=r.size;have b:(Value.int .i64 (kZ e).length::(nv .u8 (ach e)++[.slice G ((eu e).2.1.map λu=>dK (dW (bn e) u)).length ca,.slice F (eu e).2.2.length cn])).toArray.size=259:=by have:(ach e).length=256:=adN _ _;simp[nv,this]
     have n:(Value.int .i64 (kZ e).length::(nv .u8 (ach e)++[.slice G ((eu e).2.1.map λu=>dK (dW (bn e) u)).length ca,.slice F (eu e).2.2.length cn])).toArray.all (·.oneCell')=true:=by
      refine a2g.2 λv hv=>?_;simp only[List.mem_toArray,a0l,a0e,nv,a0q,a1U,a2V]at hv;rcases hv with rfl|⟨a,_,rfl⟩|rfl|rfl<;>rfl
     have U:∀o cs,QL w.heap.size ((c.alloc o).setRow w.heap.size cs) (.slice G ((eu e).2.1.map λu=>dK (dW (bn e) u)).length ca) ((eu e).2.1.map λu=>dK (dW (bn e) u)):=λo cs=>BH (mO (fG H ((aB.refl [] c).alloc o) (by simp)) (aB.setRow _ _ cs) (λk j=>by have:=(H.lt k j).1;simp;omega)) (by omega);have W:∀o cs,IL w.heap.size ((c.alloc o).setRow w.heap.size cs) (.slice F (eu e).2.2.length cn) (eu e).2.2:=λo cs=>BH (mO (fG E ((aB.refl [] c).alloc o) (by simp)) (aB.setRow _ _ cs) (λk j=>by have:=(E.lt k j).1;simp;omega)) (by omega);have z:∀o cs,aB [] w ((c.alloc o).setRow w.heap.size cs):=λo cs=>((y.above r (by simp)).alloc _).above (aB.setRow _ _ _) (by simp);have PZ:∀o,(c.alloc o).heap[w.heap.size]?=some (.cells Tryz.zeroCells100 100 (0,0)):=λo=>by rw[((aB.refl [] c).alloc _).block w.heap.size (by omega) (by simp),r.block w.heap.size (by omega) (by simp)];exact A
     generalize pY:(Value.int .i64 (kZ e).length::(nv .u8 (ach e)++[.slice G ((eu e).2.1.map λu=>dK (dW (bn e) u)).length ca,.slice F (eu e).2.2.length cn])).toArray=cs at b n |-;have O:=run_storeCells_new (P:=Tryz.prog) c 100 Tryz.zeroCells100 cs (by rw[b];exact H8) (by rw[b,jZ]) n;have C:=vW (cs:=cs) (PZ (.cells cs 100));have Qi:=vX (cs:=cs) (PZ (.cells cs 100)) (by rw[b,jZ]) n;clear AU m j Z H E;go_wp2_with fail;refine H9 (.tmp 6) rfl c.heap.size rfl cs (rY (bD c (.cells cs 100)) b) ?_;go_wp2
     (try simp only[Exit.inBlock,Exit.then])
     refine bodyPost_ret (bS rfl _ _ w.heap.size _ rfl (rY C b)) rfl ?_;refine⟨z _ _,cs,b,n,by rw[i];rfl,λh=>absurd i h,λe2 he B=>?_⟩;have:e2=e:=by rw[f]at he;simpa using he.symm
     subst this;exact⟨_,_,pY.symm,U _ _,W _ _⟩
def RgQ(w:World)(t:LB)(en:Ending)(w':World):Prop :=
 aB [] w w'/\∃q:Option Addr,en=zQ #[.pointer q,zI (gH t)]/\(gH t=0->∃x n,fF t=some x/\q=some (zA n)/\RN w' n (gW x))
theorem afz(h:iQ (4*t.length+4) 0 [] t=none):fF t=none:=by unfold fF;rw[h]
theorem afA {c r}(h:iQ (4*t.length+4) 0 [] t=some (x,c::r)):fF t=none:=by unfold fF;rw[h]
def afB(h:iQ (4*t.length+4) 0 [] t=some (x,[])):fF t=some x:=by unfold fF;rw[h]
def Xg(t w)(ht:t.length<=40):zF 52 #[zT t] w (RgQ w t):=by
 have T:=aT;have k0:({ data:=#[] }:ByteArray).toList=[]:=aT _;have C:QP (w.alloc (.cells #[zT t,.bool true] 163)) w.heap.size t true:=⟨bD _ _,by omega⟩;have D:aB [] w (w.alloc (.cells #[zT t,.bool true] 163)):=zJ;delta zF;go_in;go_wp2_with fail;refine ((ae6 (4*t.length+4)).1 w.heap.size 0 t _ C (by omega) (a0b _)).mono ?_;rintro e f ⟨q,r,ok,rfl,v,B,p⟩;have c0:=v.c0;have c1:=v.c1;have F1:aB [] w f:=D.above B (by intro x H;simp at H;omega);cases ok
 case false =>
  have b:gH t=5:=by
   rcases p with⟨h,_⟩|⟨_,h⟩
   .cases h
   simp[gH,afz h]
  go_wp2;go_ret2;exact⟨F1,none,by rw[b];rfl,λh=>by rw[b]at h;simp at h⟩
 case true =>
  obtain⟨y,n,k,hq,o⟩:∃y n,iQ (4*t.length+4) 0 [] t=some (y,r)/\q=some (zA n)/\RN f n (gW y):=by
   rcases p with⟨_,h⟩|⟨h,_⟩
   .exact h
   cases h
  subst hq;cases r with
  | cons c r =>
    have b:gH t=5:=by simp[gH,afA k]
    have P:((c::r) == [])=false:=rfl;go_wp2;go_ret2;exact⟨F1,none,by rw[b];rfl,λh=>by rw[b]at h;simp at h⟩
  | nil =>
    have a:=afB k;obtain⟨A,R⟩:=mQ a;have G:=zM a;have S:=Tz a;have PS:=qa (gW y);rw[Rx]at PS;have i:=PS.2;go_wp2_with fail;refine (uE (gW y) f n o (Ii y G)).mono ?_;rintro e _ ⟨rfl,rfl⟩;by_cases s:40<dI y
    .have b:gH t=6:=by simp[gH,a,s]
     have l:=i.2 s;rw[l];generalize (jQ (gW y)).1=pn at *;go_wp2;go_ret2;exact⟨F1,none,by rw[b];rfl,λh=>by rw[b]at h;simp at h⟩
    have d:dI y<=40:=by omega
    have l:=i.1 d;rw[l];have g:gH t=if (eu y).1 then 0 else 7:=by simp[gH,a,s]
    have F:=acx f n (gW y) (bn y) (kZ y) o (by rw[Bz];omega) ⟨y,A,G,d,by omega,rfl⟩ (Fj y A) (by rw[Bz];rfl) (λu c I=>am7 a ht d u I c);generalize dI y=pn at *;go_wp2_with fail;refine F.mono ?_;rintro e N ⟨m,rfl,O,j,z⟩;have F3:=F1.trans z;have M:=RN.aY (dX.of z) o;by_cases E:40<m
    .have b:gH t=7:=by have:=j.1 E;rw[g];unfold eu;rw[this];rfl
     go_wp2;go_ret2;exact⟨F3,none,by rw[b];rfl,λh=>by rw[b]at h;simp at h⟩
    have b:gH t=0:=by
     have:(oC (bn y) (kZ y)).1=true:=by
      cases hh:(oC (bn y) (kZ y)).1
      .exact absurd (j.2 hh) E
      rfl
     rw[g];unfold eu;rw[this];rfl
    go_wp2;go_ret2;exact⟨F3,_,by rw[b];rfl,λ_=>⟨y,n,a,rfl,M⟩⟩
theorem Xh:∀l c n,l.all nG=true->nG c=true->Ap (l++[c]) n=10*Ap l n+c.toNat-48
 | [],c,n,_,b=>by simp[Ap,show lW c.toNat=true from b]
 | x::r,c,n,a,b=>by simp only[a1P,a0O]at a;have d:lW x.toNat=true:=a.1;simp only[a0L,Ap,d,a0G];exact Xh r c _ a.2 b
def mW(l w)(Z:l.length<=1048576) :
 zF 66 #[zT l] w λe w'=>e=zR (zI (iR l))/\w=w':=by
 have F:=bL l;have Bh:=aT;have k0:=aT [];have M:({ data:=#[48] }:ByteArray).toList=[48]:=aT [48];delta zF;go_in;go_wp2;go_loopg [3,4] l.length (λk vn i wr=>∃(j:Nat) (x:Int),j+k=l.length/\i=zI j/\vn=zI x/\x=Ap (l.take j) 0/\0<=x/\x+1<=10 ^ j/\(l.take j).all nG=true/\(0<j->l.length<=5)/\wr=w);case atStart=>exact⟨0,0,by omega,rfl,rfl,rfl,by omega,by simp,by simp,by omega,rfl⟩
 case round =>
  obtain⟨j,x,_,rfl,rfl,d,O,g,b,m,P⟩:=hrel;subst P;have G:=aj d;have u:=aj b;have V:=aj m;have f:l.length<=5->x<=99999:=by
   intro h;have:(10:Int) ^ j<=10 ^ 5:=by
    have:j<=5:=by omega
    rcases(show j=0\/j=1\/j=2\/j=3\/j=4\/j=5 by omega) with rfl|rfl|rfl|rfl|rfl|rfl<;>decide
   have:(10:Int) ^ 5=100000:=by decide
   omega
  have B:=aj f;have C:=aj g;clear d b m f g;by_cases A:j<l.length
  .have J:(bs l)[j]'(by rw[F];omega)=l[j]:=rfl;have H:Z_ (l.take (j+1)=l.take j++[l[j]]):=a0F A;have U:Z_ (l[j]∈l):=a0u A;have r:l.isEmpty=false:=by
    cases l with
    | nil=>exact absurd A (Nat.not_lt_zero _)
    | cons=>rfl
   generalize l[j]=c at *;have Y:=u8i c;go_wp2_with fail;refine(vR c xu _ (by decide)).mono ?_;rintro e _ ⟨rfl,rfl⟩;have q:=aj (Pk c);by_cases m:5<l.length
   .have a:Z_ (iR l=-1):=by
     show _=_;unfold iR;rw[r];simp[m]
    have y:=decLt 5 l.length (by omega);cases z:oM xu c;all_goals
     go_wp2;go_ret;exact⟨mJ a.o.symm,rfl⟩
   have y:=aBb 5 l.length (by omega);cases z:oM xu c
   .have a:Z_ (iR l=-1):=by
     show _=_;have:l.all nG=false:=by
      rw[a2p];intro S;have:=a1d.1 S c U;unfold nG at this;rw[<-q.o,z]at this;cases this
     unfold iR;rw[r,this];simp
    go_wp2;go_ret;exact⟨mJ a.o.symm,rfl⟩
   have s:nG c=true:=by unfold nG;rw[<-q.o];exact z
   have L:48<=(c.toNat:Int)/\(c.toNat:Int)<=57:=by simpa[nG,lW] using s
   have I:Z_ ((l.take (j+1)).all nG=true):=by
    show _=_;rw[H.o,a2c,u.o];simp[s]
   have N:Z_ (10*x+c.toNat-48=Ap (l.take (j+1)) 0):=by
    show _=_;rw[H.o,Xh _ _ _ u.o s,<-G.o]
   have:=B.o (by omega);obtain⟨X,W⟩:=L;clear s;go_wp2;go_roundg (gk-1);case measure=>omega
   case rel =>
    refine⟨j+1,10*x+c.toNat-48,by omega,by go_num,rfl,N,by omega,?_,I,λ_=>by omega,rfl⟩;have:=C.o;rw[Int.pow_succ];omega
  have b:=u.o;have d:=G.o;rw[a0C (by omega)]at b d;by_cases t:l=[]
  .subst t;have a:Z_ (iR []=-1):=rfl;clear b d;go_wp2;go_ret;exact⟨mJ a.o.symm,rfl⟩
  have r:l.isEmpty=false:=by
   cases l with
   | nil=>exact absurd rfl t
   | cons=>rfl
  have T:0<l.length:=a1O.2 t;have:(l == [])=false:=by simp[t]
  have:(bs l)[0]'(by rw[F];omega)=l[0]:=rfl;have D:Z_ (hd l=(l[0].toNat:Int)):=EP l 0 T;generalize l[0]=c at *;have:=V.o (by omega);have E:Z_ (iR l=if (hd l==48)&&!(l == [48]) then -1 else Ap l 0):=by
   show _=_;unfold iR;rw[r,b];simp[show ¬ 5<l.length by omega]
  have p:=aj d;clear b d;cases v:((c.toNat:Int)==48)
  .have a:Z_ (iR l=x):=by
    show _=_;rw[E.o,D.o,v,p.o];rfl
   go_wp2;go_ret;exact⟨mJ a.o.symm,rfl⟩
  cases n:(l == [48])
  .have a:Z_ (iR l=-1):=by
    show _=_;rw[E.o,D.o,v,n];rfl
   go_wp2;go_ret;exact⟨mJ a.o.symm,rfl⟩
  have a:Z_ (iR l=x):=by
   show _=_;rw[E.o,D.o,v,n,p.o];rfl
  go_wp2;go_ret;exact⟨mJ a.o.symm,rfl⟩
def jy(q:Bool)(c:UInt8):Nat->LB->Bool->LB->List LB->List LB
 | 0,_,_,t,out=>out++[t]
 | _+1,[],_,t,out=>out++[t]
 | k+1,x::r,i0,t,out =>
   let i1:=if q&&x==34 then !i0 else i0
   if i1&&x==92&&!(r.isEmpty) then jy q c k (r.drop 1) i1 (t++([x]++r.take 1)) out
   else if x==c&&!i1 then jy q c k r i1 [] (out++[t])
   else jy q c k r i1 (t++[x]) out
def dU(q:Bool)(c:UInt8)(l:LB):List LB:=jy q c (l.length+1) l false [] []
end
section
variable {x y:Value} {w w':World} {b cap n rb:Nat} {S:LN} {W xs:List LB}
def Lj(l c q w)(hl:l.length<=100000) :
 zF 49 #[zT l,.int .u8 c.toNat,.bool q] w λe w'=>∃v,e=zR v/\SL w.heap.size w' v (dU q c l)/\aB [] w w':=by
 have eG:=bL;have NU:=mf;have hx:=tF l;delta zF;go_in;go_wp2;go_loopg [7,8,9,10] (l.length+1) (λk W Y vt X wr=>∃(j:Nat) (u:Bool) (t:LB) (out:List LB),j<=l.length/\l.length+1<=j+k/\X=zI j/\Y=.bool u/\vt=zT t/\t.length<=j/\out.length<=j/\SL w.heap.size wr W out/\jy q c k (l.drop j) u t out=dU q c l/\aB [] w wr);case atStart=>exact⟨0,false,[],[],by omega,by omega,rfl,rfl,rfl,by simp,by simp,SL.nil _ _,rfl,zK⟩
 case round =>
  obtain⟨j,u,t,out,_,D,rfl,rfl,rfl,_,_,f,M,o⟩:=hrel;obtain⟨a,cap,Z⟩:=f.shape;subst Z;have hz:=o.size;obtain⟨m,rfl⟩:∃m,gk=m+1:=⟨gk-1,by omega⟩;by_cases V:j<l.length
  .have zt:(bs l)[j]'(by rw[eG];omega)=l[j]:=rfl;have T:l.drop j=l[j]::l.drop (j+1):=a0k V;have C:List.drop j (List.take (j+1) l)=[l[j]]:=by rw[a0F V,a1N (by simp;omega),a0i (by simp;omega)];rfl
   have G:j+1<l.length->List.drop j (List.take (j+2) l)=[l[j]]++(l.drop (j+1)).take 1:=by
    intro _;rw[List.drop_take,show j+2-j=2 by omega,T];rfl
   generalize l[j]=x at *;have i:=my x c;have y:((x.toNat:Int)==34)=(x==34):=my x 34;have H:((x.toNat:Int)==92)=(x==92):=my x 92;have p:dU q c l=(let s:=if q&&x==34 then !u else u
    if s&&x==92&&!((l.drop (j+1)).isEmpty) then jy q c m ((l.drop (j+1)).drop 1) s (t++([x]++(l.drop (j+1)).take 1)) out
    else if x==c&&!s then jy q c m (l.drop (j+1)) s [] (out++[t])
    else jy q c m (l.drop (j+1)) s (t++[x]) out):=by
    rw[<-M,T];rfl
   obtain⟨s,r⟩:∃s,s=(if q&&x==34 then !u else u):=⟨_,rfl⟩;rw[<-r]at p;clear M T;have R:(q=false/\u=false)\/(q=false/\u=true)\/(q=true/\(x==34)=false/\u=false)\/(q=true/\(x==34)=false/\u=true)\/(q=true/\(x==34)=true/\u=false)\/(q=true/\(x==34)=true/\u=true):=by cases q<;>cases u<;>cases (x==34)<;>simp
   rcases R with⟨hq,z⟩|⟨hq,z⟩|⟨hq,B,z⟩|⟨hq,B,z⟩|⟨hq,B,z⟩|⟨hq,B,z⟩
   ·
    subst hq z;have g:s=false:=by rw[r];simp
    cases b:(x==c)
    .rw[b]at i;have d:jy false c m (l.drop (j+1)) false (t++[x]) out=dU false c l:=by rw[p,g];simp[b]
     go_wp2;go_roundg m;case measure=>omega
     case rel=>exact⟨j+1,false,t++[x],out,by omega,by omega,by go_num,rfl,by simp,by simp;omega,by omega,f,d,o⟩
    rw[b]at i;have d:jy false c m (l.drop (j+1)) false [] (out++[t])=dU false c l:=by rw[p,g];simp[b]
    go_wp2_with (first | (at_builtin;refine rA _ rfl _ _ rfl w.heap.size (.slice a out.length cap) out t wr.heap.size rfl (f.aC zG (by simp)) rfl (by simp) (by omega) (by simp;omega) ?_;intro P S N E F O));go_roundg m;case measure=>omega
    case rel=>exact⟨j+1,false,[],out++[t],by omega,by omega,by go_num,rfl,rfl,by simp,by simp;omega,by simpa using E,d,(o.alloc _).grown F (λk D=>Or.inr (f.lt k D).1)⟩
   ·
    subst hq z;have g:s=true:=by rw[r];simp
    cases n:(x==92)
    .rw[n]at H;cases b:(x==c);rw[b]at i;rotate_left;rw[b]at i;all_goals
      have d:jy false c m (l.drop (j+1)) true (t++[x]) out=dU false c l:=by rw[p,g];simp[n]
      go_wp2;go_roundg m;case measure=>omega
      case rel=>exact⟨j+1,true,t++[x],out,by omega,by omega,by go_num,rfl,by simp,by simp;omega,by omega,f,d,o⟩
    rw[n]at H;by_cases L:j+1<l.length
    .have J:decide ((j:Int)+1<(l.length:Int))=true:=a0g (by omega);have A:(l.drop (j+1)).isEmpty=false:=by rw[a3s];intro h;have:=congrArg List.length h;simp at this;omega
     have d:jy false c m (l.drop (j+2)) true (t++([x]++(l.drop (j+1)).take 1)) out=dU false c l:=by rw[p,g];simp[n,A]
     have U:((l.drop (j+1)).take 1).length=1:=by simp;omega
     generalize (l.drop (j+1)).take 1=I at *;go_wp2;go_roundg m;case measure=>omega
     case rel=>exact⟨j+2,true,t++([x]++I),out,by omega,by omega,by go_num,rfl,by simp,by simp;omega,by omega,f,d,o⟩
    have J:decide ((j:Int)+1<(l.length:Int))=false:=a0f (by omega);have A:(l.drop (j+1)).isEmpty=true:=by rw[List.isEmpty_iff];exact a0i (by omega)
    cases b:(x==c);rw[b]at i;rotate_left;rw[b]at i;all_goals
     have d:jy false c m (l.drop (j+1)) true (t++[x]) out=dU false c l:=by rw[p,g];simp[n,A]
     go_wp2;go_roundg m;case measure=>omega
     case rel=>exact⟨j+1,true,t++[x],out,by omega,by omega,by go_num,rfl,by simp,by simp;omega,by omega,f,d,o⟩
   ·
    subst hq z;rw[B]at y;have g:s=false:=by rw[r];simp[B]
    cases b:(x==c)
    .rw[b]at i;have d:jy true c m (l.drop (j+1)) false (t++[x]) out=dU true c l:=by rw[p,g];simp[b]
     go_wp2;go_roundg m;case measure=>omega
     case rel=>exact⟨j+1,false,t++[x],out,by omega,by omega,by go_num,rfl,by simp,by simp;omega,by omega,f,d,o⟩
    rw[b]at i;have d:jy true c m (l.drop (j+1)) false [] (out++[t])=dU true c l:=by rw[p,g];simp[b]
    go_wp2_with (first | (at_builtin;refine rA _ rfl _ _ rfl w.heap.size (.slice a out.length cap) out t wr.heap.size rfl (f.aC zG (by simp)) rfl (by simp) (by omega) (by simp;omega) ?_;intro P S N E F O));go_roundg m;case measure=>omega
    case rel=>exact⟨j+1,false,[],out++[t],by omega,by omega,by go_num,rfl,rfl,by simp,by simp;omega,by simpa using E,d,(o.alloc _).grown F (λk D=>Or.inr (f.lt k D).1)⟩
   ·
    subst hq z;rw[B]at y;have g:s=true:=by rw[r];simp[B]
    cases n:(x==92)
    .rw[n]at H;cases b:(x==c);rw[b]at i;rotate_left;rw[b]at i;all_goals
      have d:jy true c m (l.drop (j+1)) true (t++[x]) out=dU true c l:=by rw[p,g];simp[n]
      go_wp2;go_roundg m;case measure=>omega
      case rel=>exact⟨j+1,true,t++[x],out,by omega,by omega,by go_num,rfl,by simp,by simp;omega,by omega,f,d,o⟩
    rw[n]at H;by_cases L:j+1<l.length
    .have J:decide ((j:Int)+1<(l.length:Int))=true:=a0g (by omega);have A:(l.drop (j+1)).isEmpty=false:=by rw[a3s];intro h;have:=congrArg List.length h;simp at this;omega
     have d:jy true c m (l.drop (j+2)) true (t++([x]++(l.drop (j+1)).take 1)) out=dU true c l:=by rw[p,g];simp[n,A]
     have U:((l.drop (j+1)).take 1).length=1:=by simp;omega
     generalize (l.drop (j+1)).take 1=I at *;go_wp2;go_roundg m;case measure=>omega
     case rel=>exact⟨j+2,true,t++([x]++I),out,by omega,by omega,by go_num,rfl,by simp,by simp;omega,by omega,f,d,o⟩
    have J:decide ((j:Int)+1<(l.length:Int))=false:=a0f (by omega);have A:(l.drop (j+1)).isEmpty=true:=by rw[List.isEmpty_iff];exact a0i (by omega)
    cases b:(x==c);rw[b]at i;rotate_left;rw[b]at i;all_goals
     have d:jy true c m (l.drop (j+1)) true (t++[x]) out=dU true c l:=by rw[p,g];simp[n,A]
     go_wp2;go_roundg m;case measure=>omega
     case rel=>exact⟨j+1,true,t++[x],out,by omega,by omega,by go_num,rfl,by simp,by simp;omega,by omega,f,d,o⟩
   ·
    subst hq z;rw[B]at y;have g:s=true:=by rw[r];simp[B]
    cases n:(x==92)
    .rw[n]at H;cases b:(x==c);rw[b]at i;rotate_left;rw[b]at i;all_goals
      have d:jy true c m (l.drop (j+1)) true (t++[x]) out=dU true c l:=by rw[p,g];simp[n]
      go_wp2;go_roundg m;case measure=>omega
      case rel=>exact⟨j+1,true,t++[x],out,by omega,by omega,by go_num,rfl,by simp,by simp;omega,by omega,f,d,o⟩
    rw[n]at H;by_cases L:j+1<l.length
    .have J:decide ((j:Int)+1<(l.length:Int))=true:=a0g (by omega);have A:(l.drop (j+1)).isEmpty=false:=by rw[a3s];intro h;have:=congrArg List.length h;simp at this;omega
     have d:jy true c m (l.drop (j+2)) true (t++([x]++(l.drop (j+1)).take 1)) out=dU true c l:=by rw[p,g];simp[n,A]
     have:((l.drop (j+1)).take 1).length=1:=by simp;omega
     generalize (l.drop (j+1)).take 1=I at *;go_wp2;go_roundg m;case measure=>omega
     case rel=>exact⟨j+2,true,t++([x]++I),out,by omega,by omega,by go_num,rfl,by simp,by simp;omega,by omega,f,d,o⟩
    have:decide ((j:Int)+1<(l.length:Int))=false:=a0f (by omega);have A:(l.drop (j+1)).isEmpty=true:=by rw[List.isEmpty_iff];exact a0i (by omega)
    cases b:(x==c);rw[b]at i;rotate_left;rw[b]at i;all_goals
     have d:jy true c m (l.drop (j+1)) true (t++[x]) out=dU true c l:=by rw[p,g];simp[n,A]
     go_wp2;go_roundg m;case measure=>omega
     case rel=>exact⟨j+1,true,t++[x],out,by omega,by omega,by go_num,rfl,by simp,by simp;omega,by omega,f,d,o⟩
   -- q true x34 true in true
   subst hq z;rw[B]at y;have g:s=false:=by rw[r];simp[B]
   cases b:(x==c)
   .rw[b]at i;have d:jy true c m (l.drop (j+1)) false (t++[x]) out=dU true c l:=by rw[p,g];simp[b]
    go_wp2;go_roundg m;case measure=>omega
    case rel=>exact⟨j+1,false,t++[x],out,by omega,by omega,by go_num,rfl,by simp,by simp;omega,by omega,f,d,o⟩
   rw[b]at i;have d:jy true c m (l.drop (j+1)) false [] (out++[t])=dU true c l:=by rw[p,g];simp[b]
   go_wp2_with (first | (at_builtin;refine rA _ rfl _ _ rfl w.heap.size (.slice a out.length cap) out t wr.heap.size rfl (f.aC zG (by simp)) rfl (by simp) (by omega) (by simp;omega) ?_;intro P S N E F O));go_roundg m;case measure=>omega
   case rel=>exact⟨j+1,false,[],out++[t],by omega,by omega,by go_num,rfl,rfl,by simp,by simp;omega,by simpa using E,d,(o.alloc _).grown F (λk D=>Or.inr (f.lt k D).1)⟩
  have Hx:dU q c l=out++[t]:=by rw[<-M,a0i (by omega)];rfl
  clear M;go_wp2_with (first | (at_builtin;refine rA _ rfl _ _ rfl w.heap.size (.slice a out.length cap) out t wr.heap.size rfl (f.aC zG (by simp)) rfl (by simp) (by omega) (by simp;omega) ?_;intro P S N E F O));go_ret;rw[Hx];exact⟨_,rfl,E,(o.alloc _).grown F (λk D=>Or.inr (f.lt k D).1)⟩
def dR:Nat->LB->LB->Option LB
 | 0,_,_=>none
 | _+1,[],v=>some v
 | k+1,c::r,v =>
   if c==34||!(mR c.toNat) then none
   else if c==92 then
    (match r with
     | []=>none
     | d::a =>
       if d==120 then
        (match a with
         | h::o::b=>if decide (lL h<0)||decide (lL o<0) then none else dR k b (v++[UInt8.ofNat (16*lL h+lL o).toNat])
         | _=>none)
       else if !(d==34)&&!(d==92) then none else dR k a (v++[d]))
   else dR k r (v++[c])
def gV(l:LB):LB × Bool :=
 if decide (l.length<2)||!(hd l==34)||!(l.getLast?==some 34) then ([],false)
 else match dR l.length ((l.take (l.length-1)).drop 1) [] with
  | none=>([],false)
  | some v=>(v,decide (v.length<=40))
def auX {x y p q}(h:x=y)(a:p=q):Ending.returned (.tuple #[zT x,.bool p])=zQ #[zT y,.bool q]:=by rw[h,a]
def vI(l w)(hl:l.length<=100000) :
 zF 97 #[zT l] w λe w'=>e=zQ #[.string (bs (gV l).1),.bool (gV l).2]/\aB [] w w':=by
 have eG:=bL;have NU:=mf;by_cases h2:l.length<2
 .have f:Z_ (gV l=([],false)):=by show _=_;unfold gV;simp[h2]
  have ll:decide ((l.length:Int)<2)=true:=a0g (by omega);delta zF;go_in;go_wp2;go_ret2;rw[f.o];exact⟨rfl,aB.refl _ _⟩
 have ll:decide ((l.length:Int)<2)=false:=a0f (by omega);have kM:(bs l)[0]'(by rw[eG];omega)=l[0]:=rfl;have P:(bs l)[l.length-1]'(by rw[eG];omega)=l[l.length-1]:=rfl;have Hh:Z_ (hd l=(l[0].toNat:Int)):=EP _ 0 (by omega);have W:Z_ (l.getLast?=some l[l.length-1]):=by
  show _=_;rw[List.getLast?_eq_getElem?,a0a]
 have B:Z_ (∀j (h:j<l.length),(bs l)[j]'(by rw[eG];exact h)=l[j]):=λj h=>rfl;generalize Vz:l[0]=c0 at kM Hh;generalize KH:l[l.length-1]=cn at P W;clear Vz KH;have R:((c0.toNat:Int)==34)=(c0==34):=my c0 34;have en:((cn.toNat:Int)==34)=(cn==34):=my cn 34;have axS:((l.length:Int)-1)=((l.length-1:Nat):Int):=by omega
 have Hu:Z_ (gV l=if !(c0==34)||!(cn==34) then ([],false) else match dR l.length ((l.take (l.length-1)).drop 1) [] with
  | none=>([],false)
  | some v=>(v,decide (v.length<=40))):=by
  show _=_;unfold gV;rw[Hh.o,R,W.o];have:(some cn==some (34:UInt8))=(cn==34):=rfl;rw[this,a0f (by omega)];simp only[a3l];all_goals rfl
 cases Z:(c0==34)
 .rw[Z]at R;have e0':((c0.toNat:Int) != 34)=true:=by unfold bne;rw[R];rfl
  have f:Z_ (gV l=([],false)):=by show _=_;rw[Hu.o,Z];rfl
  delta zF;go_in;go_wp2;go_ret2;rw[f.o];exact⟨rfl,aB.refl _ _⟩
 rw[Z]at R;have:((c0.toNat:Int) != 34)=false:=by unfold bne;rw[R];rfl
 cases Y:(cn==34)
 .rw[Y]at en;have en':((cn.toNat:Int) != 34)=true:=by unfold bne;rw[en];rfl
  have f:Z_ (gV l=([],false)):=by show _=_;rw[Hu.o,Y];simp
  delta zF;go_in;go_wp2;go_ret2;rw[f.o];exact⟨rfl,aB.refl _ _⟩
 rw[Y]at en;have:((cn.toNat:Int) != 34)=false:=by unfold bne;rw[en];rfl
 have V:Z_ (gV l=match dR l.length ((l.take (l.length-1)).drop 1) [] with
  | none=>([],false)
  | some v=>(v,decide (v.length<=40))):=by show _=_;rw[Hu.o,Z,Y];rfl
 have E:Z_ (dR l.length ((l.take (l.length-1)).drop 1) []=none->gV l=([],false)):=λh=>by rw[V.o,h]
 clear Hu;delta zF;go_in;go_wp2;go_loopg [5,6] l.length (λk vv vi wr=>∃(j:Nat) (v:LB),1<=j/\j+1<=l.length/\l.length<=j+k/\vi=zI j/\vv=zT v/\v.length<=j/\dR k ((l.take (l.length-1)).drop j) v=dR l.length ((l.take (l.length-1)).drop 1) []/\aB [] w wr);case atStart=>exact⟨1,[],by omega,by omega,by omega,rfl,rfl,by simp,rfl,aB.refl _ _⟩
 case round =>
  obtain⟨j,v,_,_,_,rfl,rfl,_,iD,bH⟩:=hrel;have x:=aj iD;have p:=aj bH;clear iD bH kM P;obtain⟨m,rfl⟩:∃m,gk=m+1:=⟨gk-1,by omega⟩;have T:∀i (h:i<l.length-1),(l.take (l.length-1)).drop i=l[i]::(l.take (l.length-1)).drop (i+1):=by
   intro i h;rw[a0k (by simp;omega)];simp
  have DC:=aj T;clear T;by_cases aL:j<l.length-1
  .have:=B.o j (by omega);have z:=aj (DC.o j aL);generalize l[j]=c at *;have:=u8i c;have C:((c.toNat:Int)==34)=(c==34):=my c 34;have Jm:((c.toNat:Int)==92)=(c==92):=my c 92;have t:=ak3 wr c;cases q:(c==34)
   case true =>
    rw[q]at C;have f:Z_ (gV l=([],false)):=E.o (by rw[<-x.o,z.o];unfold dR;rw[q];rfl);go_wp2;go_ret2;rw[f.o];exact⟨rfl,p⟩
   case false =>
   rw[q]at C;by_cases jU:(c.toNat:Int)<32
   .have g:mR c.toNat=false:=by unfold mR;simp;omega
    have f:Z_ (gV l=([],false)):=E.o (by rw[<-x.o,z.o];unfold dR;rw[q,g];rfl);go_wp2;go_ret2;rw[f.o];exact⟨rfl,p⟩
   by_cases yn:126<(c.toNat:Int)
   .have g:mR c.toNat=false:=by unfold mR;simp;omega
    have f:Z_ (gV l=([],false)):=E.o (by rw[<-x.o,z.o];unfold dR;rw[q,g];rfl);go_wp2;go_ret2;rw[f.o];exact⟨rfl,p⟩
   have g:mR c.toNat=true:=by unfold mR;simp;omega
   cases A:(c==92)
   case false =>
    rw[A]at Jm;have F:Z_ (dR m ((l.take (l.length-1)).drop (j+1)) (v++[c])=dR l.length ((l.take (l.length-1)).drop 1) []):=by
     show _=_;rw[<-x.o,z.o];conv=>rhs;unfold dR
     rw[q,g,A];rfl
    clear g;go_wp2;go_roundg m;case measure=>omega
    case rel=>exact⟨j+1,v++[c],by omega,by omega,by omega,by go_num,rfl,by simp;omega,F,p.o.alloc _⟩
   case true =>
   rw[A]at Jm;clear t;by_cases zX:j+1<l.length-1
   case neg =>
    have s:(l.take (l.length-1)).drop (j+1)=[]:=a0i (by simp;omega);have H:=aj s;have Hp:=aj g;clear s g;have f:Z_ (gV l=([],false)):=E.o (by rw[<-x.o,z.o];unfold dR;rw[q,Hp.o,A,H.o];rfl);go_wp2;go_ret2;rw[f.o];exact⟨rfl,p⟩
   case pos =>
   have:=B.o (j+1) (by omega);have y:=aj (DC.o (j+1) zX);generalize l[j+1]=d at *;have S:((d.toNat:Int)==120)=(d==120):=my d 120;have n:((d.toNat:Int)==34)=(d==34):=my d 34;have u:((d.toNat:Int)==92)=(d==92):=my d 92;cases D:(d==120)
   case false =>
    rw[D]at S;cases U:(d==34)
    .rw[U]at n;have auY:((d.toNat:Int) != 34)=true:=by unfold bne;rw[n];rfl
     cases X:(d==92)
     .rw[X]at u;have auZ:((d.toNat:Int) != 92)=true:=by unfold bne;rw[u];rfl
      have Hp:=aj g;clear g;have f:Z_ (gV l=([],false)):=E.o (by rw[<-x.o,z.o];unfold dR;rw[q,Hp.o,A,y.o];simp[D,U,X]);go_wp2;go_ret2;rw[f.o];exact⟨rfl,p⟩
     rw[X]at u;have:((d.toNat:Int) != 92)=false:=by unfold bne;rw[u];rfl
     have t:=ak3 wr d;have F:Z_ (dR m ((l.take (l.length-1)).drop (j+2)) (v++[d])=dR l.length ((l.take (l.length-1)).drop 1) []):=by
      show _=_;rw[<-x.o,z.o,y.o];conv=>rhs;unfold dR
      rw[q,g,A];simp[D,U,X]
     clear g;go_wp2;go_roundg m;case measure=>omega
     case rel=>exact⟨j+2,v++[d],by omega,by omega,by omega,by go_num,rfl,by simp;omega,F,p.o.alloc _⟩
    rw[U]at n;have:((d.toNat:Int) != 34)=false:=by unfold bne;rw[n];rfl
    have t:=ak3 wr d;have F:Z_ (dR m ((l.take (l.length-1)).drop (j+2)) (v++[d])=dR l.length ((l.take (l.length-1)).drop 1) []):=by
     show _=_;rw[<-x.o,z.o,y.o];conv=>rhs;unfold dR
     rw[q,g,A];simp[D,U]
    clear g;go_wp2;go_roundg m;case measure=>omega
    case rel=>exact⟨j+2,v++[d],by omega,by omega,by omega,by go_num,rfl,by simp;omega,F,p.o.alloc _⟩
   case true =>
   rw[D]at S;clear n u;by_cases Ze:j+4<=l.length-1
   case neg =>
    have s:dR (m+1) (c::d::(l.take (l.length-1)).drop (j+1+1)) v=none:=by
     unfold dR;rw[q,g,A];have hlen:((l.take (l.length-1)).drop (j+1+1)).length<=1:=by simp;omega
     match hm:(l.take (l.length-1)).drop (j+1+1) with
     | []=>simp[D]
     | [a]=>simp[D]
     | a::b::r=>rw[hm]at hlen;simp at hlen
    have H:=aj s;clear g s;have f:Z_ (gV l=([],false)):=E.o (by rw[<-x.o,z.o];rw[y.o];exact H);go_wp2;go_ret2;rw[f.o];exact⟨rfl,p⟩
   case pos =>
   have:=B.o (j+1+1) (by omega);have:=B.o (j+1+1+1) (by omega);have Am:=aj (DC.o (j+1+1) (by omega));have Hd3:=aj (DC.o (j+1+1+1) (by omega));generalize l[j+1+1]=M at *;generalize l[j+1+1+1]=L at *;have b1:=ag3 M;have b2:=ag3 L;obtain⟨_,_⟩:=b1;obtain⟨_,_⟩:=b2;have G:Z_ (dR l.length ((l.take (l.length-1)).drop 1) []=if decide (lL M<0)||decide (lL L<0) then none else dR m ((l.take (l.length-1)).drop (j+4)) (v++[UInt8.ofNat (16*lL M+lL L).toNat])):=by
    show _=_;rw[<-x.o,z.o,y.o,Am.o,Hd3.o];conv=>lhs;unfold dR
    rw[q,g,A];simp[D]
   clear g;go_wp2_with fail;refine(aaw M _).mono ?_;rintro e w' ⟨rfl,rfl⟩;go_wp2_with fail;refine(aaw L _).mono ?_;rintro e _ ⟨rfl,rfl⟩;generalize lL M=J at *;generalize lL L=I at *;by_cases O:J<0
   .have f:Z_ (gV l=([],false)):=E.o (by rw[G.o];simp[O]);go_wp2;go_ret2;rw[f.o];exact⟨rfl,p⟩
   by_cases N:I<0
   .have f:Z_ (gV l=([],false)):=E.o (by rw[G.o];simp[N]);go_wp2;go_ret2;rw[f.o];exact⟨rfl,p⟩
   have F:Z_ (dR m ((l.take (l.length-1)).drop (j+4)) (v++[UInt8.ofNat (16*J+I).toNat])=dR l.length ((l.take (l.length-1)).drop 1) []):=by
    show _=_;rw[G.o];simp[O,N]
   have xL:((UInt8.ofNat (16*J+I).toNat).toNat:Int)=16*J+I:=by
    rw[UInt8.toNat_ofNat'];omega
   have t:=ak3 wr (UInt8.ofNat (16*J+I).toNat);rw[xL]at t;clear xL;generalize UInt8.ofNat (16*J+I).toNat=Ci at *;go_wp2;go_roundg m;case measure=>omega
   case rel=>exact⟨j+4,v++[Ci],by omega,by omega,by omega,by go_num,rfl,by simp;omega,F,p.o.alloc _⟩
  have qI:j=l.length-1:=by omega
  have f:Z_ (gV l=(v,decide (v.length<=40))):=by
   show _=_;rw[V.o,<-x.o,a0i (by simp;omega)];rfl
  have qd:decide ((v.length:Int)<=40)=decide (v.length<=40):=by
   rw[a0T,a1E,a1E];omega
  have Hdd:=aj qd;clear qd qI;go_wp2;go_ret2;rw[f.o];exact⟨auX rfl Hdd,p⟩
abbrev RM:=LB × LB × LB
def qy(c:UInt8):Bool:=!(c==61)&&!(c==33)
def ui(r:LB):Bool:=decide (1<r.length)&&((r.take 2 == [61,126])||(r.take 2 == [33,126])||(r.take 2 == [33,61]))
def CJ(r:LB):Bool:=decide (0<r.length)&&(hd r==61)
def rV(l:LB):RM × Bool :=
 let n:=l.takeWhile qy
 let r:=l.dropWhile qy
 if ui r then ((n,r.take 2,(gV (r.drop 2)).1),(gV (r.drop 2)).2&&aJ n)
 else if CJ r then ((n,r.take 1,(gV (r.drop 1)).1),(gV (r.drop 1)).2&&aJ n)
 else ((n,[],[]),false)
structure CO(w:World)(b:Nat)(m:RM):Prop where
 h:w.heap[b]?=some (.cells #[zT m.1,zT m.2.1,zT m.2.2,.pointer none] 137 (0,0))
theorem CO.lt {m}(h:CO w b m):b<w.heap.size:=(a0c.1 h.h).1
theorem CO.cell {m}(h:CO w b m)(o):w.cell? (zB b o)=(#[zT m.1,zT m.2.1,zT m.2.2,.pointer none]:Array Value)[o]?:=by simp[World.cell?,h.h]
def CO.all {m}(h:CO w b m):zC w b 0 (zT m.1)/\zC w b 1 (zT m.2.1)/\zC w b 2 (zT m.2.2)/\zC w b 3 (.pointer none):=⟨h.cell 0,h.cell 1,h.cell 2,h.cell 3⟩
theorem CO.fz {m}(h:CO w b m)(o):w.frozen? (zB b o)=false:=by simp[World.frozen?,h.h]
theorem CO.aC {m}(h:CO w b m)(f:aB S w w')(a:b∉S):CO w' b m:=⟨(f.block b h.lt a).trans h.h⟩
theorem CO.set {m}(h:CO w b m)(o v a)(e:(#[zT a.1,zT a.2.1,zT a.2.2,.pointer none]:Array Value)=(#[zT m.1,zT m.2.1,zT m.2.2,.pointer none]:Array Value).setIfInBounds o v):CO (w.setCell (zB b o) v) b a:=by refine⟨?_⟩;rw[e];simp[World.setCell,a0v,h.h]
def CO.Lm {m}(h:CO w b m)(a):CO ((((w.setCell (zA b) (zT a.1)).setCell (zB b 1) (zT a.2.1)).setCell (zB b 2) (zT a.2.2)).setCell (zB b 3) (.pointer none)) b a :=
 (((h.set 0 _ (a.1,m.2.1,m.2.2) rfl).set 1 _ (a.1,a.2.1,m.2.2) rfl).set 2 _ (a.1,a.2.1,a.2.2) rfl).set 3 _ a rfl
def aB.Lm{a}(h:aB S a w)(hb:rb∈S\/a.heap.size<=rb)(e d c b):aB S a ((((w.setCell (zA rb) e).setCell (zB rb 1) d).setCell (zB rb 2) c).setCell (zB rb 3) b) :=
 (((h.setCell hb _).setCell hb _).setCell hb _).setCell hb _
def ifV(m:RM):Value:=.agg #[zT m.1,zT m.2.1,zT m.2.2,.pointer none]
theorem aqg {m}(h:CO w b m):(loadVar 137 (zA b)).run Tryz.prog w=.ok (ifV m) w:=by have a:=h.all;simp[go_sem,ifV,a]
def jO {m ok tmps}(h:CO w rb m)(b:tmps.getD 2 undef=zP rb)(a:tmps.getD 3 undef=.bool ok) :
 (results Tryz.f81 tmps).run Tryz.prog w=.ok (.tuple #[ifV m,.bool ok]) w:=by
 rw[results_cell_tmp Tryz.results81,b,a];simp[asAddr,aqg h]
def adP {l c r}(h:l=c::r):hd l=(c.toNat:Int):=by subst h;rfl
def afC(l w)(hl:l.length<=100000) :
 zF 81 #[zT l] w λe w'=>e=zQ #[ifV (rV l).1,.bool (rV l).2]/\aB [] w w':=by
 have eG:=bL;have hx:=tF;have Bh:=aT;have kA:({ data:=#[61,126] }:ByteArray).toList=[61,126]:=aT _;have kB:({ data:=#[33,126] }:ByteArray).toList=[33,126]:=aT _;have kC:({ data:=#[33,61] }:ByteArray).toList=[33,61]:=aT _;have kM:CO (w.alloc (.cells #[.string (bs []),.string (bs []),.string (bs []),.pointer none] 137)) w.heap.size ([],[],[]):=⟨bD _ _⟩;have uh:=aj kM;clear kM;delta zF;go_in;go_wp2;go_loopg [4] l.length (λk vi wr=>∃(j:Nat),j+k=l.length/\vi=zI j/\(l.take j).all qy=true/\wr=w.alloc (.cells #[.string (bs []),.string (bs []),.string (bs []),.pointer none] 137));case atStart=>exact⟨0,by omega,rfl,by simp,rfl⟩
 case round =>
  obtain⟨j,_,rfl,ja,hw⟩:=hrel;subst hw;have oL:=aj ja;clear ja;by_cases aL:j<l.length
  ·have zt:(bs l)[j]'(by rw[eG];omega)=l[j]:=rfl;have Hd:Z_ (l.drop j=l[j]::l.drop (j+1)):=a0k aL;have Ht:Z_ (l.take (j+1)=l.take j++[l[j]]):=a0F aL;generalize l[j]=c at *;have h61:((c.toNat:Int)==61)=(c==61):=my c 61;have h33:((c.toNat:Int)==33)=(c==33):=my c 33;have ahO:Z_ (qy c=false->l.takeWhile qy=l.take j/\l.dropWhile qy=l.drop j):=by
    intro bJ;have:=MP (l.take j) (l.drop j) oL.o (λc' r' e=>by rw[Hd.o]at e;simp at e;rw[<-e.1];exact bJ);rwa [a1C]at this
   cases e61:(c==61);rotate_left;rw[e61]at h61;have n61:((c.toNat:Int) != 61)=false:=by unfold bne;rw[h61];rfl
   have U0:=ahO.o (by unfold qy;rw[e61];rfl);have AZ:=aj U0;clear U0 ahO oL;have PH:(bs (l.drop j))[0]'(by rw[eG];simp;omega)=c:=by
    have:∀(L:LB) (r:LB) (h:0<(bs L).size),L=c::r->(bs L)[0]'h=c:=by
     intro L r h e;subst e;rfl
    exact this _ _ _ Hd
   have tk:∀y z:UInt8,(c==y)=false->((l.drop j).take 2 == [y,z])=false:=by
    intro y z h;rw[Hd.o,a0j];intro e;simp at e;rw[e.1]at h;simp at h
   have qB:=tk 33 126 (by have:c=61:=by simpa using e61
                          subst this;rfl)
   have qC:=tk 33 61 (by have:c=61:=by simpa using e61
                         subst this;rfl)
   clear tk;have Hh:Z_ (hd (l.drop j)=(c.toNat:Int)):=adP Hd;have htk:List.take (l.length-j) (List.drop j l)=List.drop j l:=a0C (by simp);by_cases KH:1<l.length-j;have gJ:decide ((1:Int)<((l.length-j:Nat):Int))=true:=a0g (by omega);have Ih:decide (1<(l.drop j).length)=true:=by simp;omega
   cases qA:((l.drop j).take 2 == [61,126]);have Hm:Z_ (rV l=((l.take j,(l.drop j).take 1,(gV (l.drop (j+1))).1),(gV (l.drop (j+1))).2&&aJ (l.take j))):=by
    show _=_;unfold rV;rw[AZ.o.1,AZ.o.2];dsimp only;have s2:ui (l.drop j)=false:=by unfold ui;rw[Ih,qA,qB,qC];rfl
    have s1:CJ (l.drop j)=true:=by unfold CJ;rw[Hh.o,h61];simp;omega
    rw[s2,s1];simp only[a0A,a0I,a0G];rw[a2Z]
   have Qd:(l.drop (j+1)).length<=100000:=by simp;omega
   focus
    go_wp2_with fail;generalize (l.drop j).take 1=sg at *;generalize l.drop (j+1)=rs at *
   rotate_left;have Hm:Z_ (rV l=((l.take j,(l.drop j).take 2,(gV (l.drop (j+2))).1),(gV (l.drop (j+2))).2&&aJ (l.take j))):=by
    show _=_;unfold rV;rw[AZ.o.1,AZ.o.2];dsimp only;have s2:ui (l.drop j)=true:=by unfold ui;rw[Ih,qA];rfl
    rw[s2];simp only[a0G];rw[a2Z]
   have Qd:(l.drop (j+2)).length<=100000:=by simp;omega
   focus
    go_wp2_with fail;generalize (l.drop j).take 2=sg at *;generalize l.drop (j+2)=rs at *
   rotate_left;have gJ:decide ((1:Int)<((l.length-j:Nat):Int))=false:=a0f (by omega);have Ih:decide (1<(l.drop j).length)=false:=by simp;omega
   have Hm:Z_ (rV l=((l.take j,(l.drop j).take 1,(gV (l.drop (j+1))).1),(gV (l.drop (j+1))).2&&aJ (l.take j))):=by
    show _=_;unfold rV;rw[AZ.o.1,AZ.o.2];dsimp only;have s2:ui (l.drop j)=false:=by unfold ui;rw[Ih];rfl
    have s1:CJ (l.drop j)=true:=by unfold CJ;rw[Hh.o,h61];simp;omega
    rw[s2,s1];simp only[a0A,a0I,a0G];rw[a2Z]
   have Qd:(l.drop (j+1)).length<=100000:=by simp;omega
   focus
    go_wp2_with fail;generalize (l.drop j).take 1=sg at *;generalize l.drop (j+1)=rs at *
   rotate_left;rw[e61]at h61;have n61:((c.toNat:Int) != 61)=true:=by unfold bne;rw[h61];rfl
   cases e33:(c==33)
   ·rw[e33]at h33;have n33:((c.toNat:Int) != 33)=true:=by unfold bne;rw[h33];rfl
    have zu:Z_ ((l.take (j+1)).all qy=true):=by
     show _=_;rw[Ht.o,a2c,oL.o];simp[qy,e61,e33]
    clear ahO;go_wp2;go_roundg (gk-1);case measure=>omega
    case rel=>exact⟨j+1,by omega,by go_num,zu,rfl⟩
   rw[e33]at h33;have n33:((c.toNat:Int) != 33)=false:=by unfold bne;rw[h33];rfl
   have U0:=ahO.o (by unfold qy;rw[e33];simp);have AZ:=aj U0;clear U0 ahO oL;have PH:(bs (l.drop j))[0]'(by rw[eG];simp;omega)=c:=by
    have:∀(L:LB) (r:LB) (h:0<(bs L).size),L=c::r->(bs L)[0]'h=c:=by
     intro L r h e;subst e;rfl
    exact this _ _ _ Hd
   have qA:((l.drop j).take 2 == [61,126])=false:=by
    rw[Hd.o,a0j];intro e;simp at e;rw[e.1]at e61;simp at e61
   have Hh:Z_ (hd (l.drop j)=(c.toNat:Int)):=adP Hd;have htk:List.take (l.length-j) (List.drop j l)=List.drop j l:=a0C (by simp);by_cases KH:1<l.length-j;have gJ:decide ((1:Int)<((l.length-j:Nat):Int))=true:=a0g (by omega);have Ih:decide (1<(l.drop j).length)=true:=by simp;omega
   cases qB:((l.drop j).take 2 == [33,126]);cases qC:((l.drop j).take 2 == [33,61])
   ·have s2:Z_ (ui (l.drop j)=false):=by show _=_;unfold ui;rw[Ih,qA,qB,qC];rfl
    have s1:Z_ (CJ (l.drop j)=false):=by show _=_;unfold CJ;rw[Hh.o,h61];simp
    have Hm:Z_ (rV l=((l.take j,[],[]),false)):=by
     show _=_;unfold rV;rw[AZ.o.1,AZ.o.2];dsimp only;rw[s2.o,s1.o];simp only[a0A,a0I]
    go_wp2;refine bodyPost_ret (jO (m:=(l.take j,[],[])) (ok:=false) (rb:=w.heap.size) ?_ (by rfl) (by rfl)) rfl ?_
    ·exact⟨by rw[Below.heap_alloc _ _ _ (by simp)];exact bD _ _⟩
    rw[Hm.o];exact⟨rfl,((aB.refl [] w).alloc _).alloc _⟩
   have s2:Z_ (ui (l.drop j)=true):=by show _=_;unfold ui;rw[Ih,qC];simp
   have Hm:Z_ (rV l=((l.take j,(l.drop j).take 2,(gV (l.drop (j+2))).1),(gV (l.drop (j+2))).2&&aJ (l.take j))):=by
    show _=_;unfold rV;rw[AZ.o.1,AZ.o.2];dsimp only;rw[s2.o];simp only[a0G];rw[a2Z]
   have Qd:(l.drop (j+2)).length<=100000:=by simp;omega
   focus
    go_wp2_with fail;generalize (l.drop j).take 2=sg at *;generalize l.drop (j+2)=rs at *
   rotate_left;have s2:Z_ (ui (l.drop j)=true):=by show _=_;unfold ui;rw[Ih,qB];simp
   have Hm:Z_ (rV l=((l.take j,(l.drop j).take 2,(gV (l.drop (j+2))).1),(gV (l.drop (j+2))).2&&aJ (l.take j))):=by
    show _=_;unfold rV;rw[AZ.o.1,AZ.o.2];dsimp only;rw[s2.o];simp only[a0G];rw[a2Z]
   have Qd:(l.drop (j+2)).length<=100000:=by simp;omega
   focus
    go_wp2_with fail;generalize (l.drop j).take 2=sg at *;generalize l.drop (j+2)=rs at *
   rotate_left
   ·have gJ:decide ((1:Int)<((l.length-j:Nat):Int))=false:=a0f (by omega);have Ih:decide (1<(l.drop j).length)=false:=by simp;omega
    have s2:Z_ (ui (l.drop j)=false):=by show _=_;unfold ui;rw[Ih];rfl
    have s1:Z_ (CJ (l.drop j)=false):=by show _=_;unfold CJ;rw[Hh.o,h61];simp
    have Hm:Z_ (rV l=((l.take j,[],[]),false)):=by
     show _=_;unfold rV;rw[AZ.o.1,AZ.o.2];dsimp only;rw[s2.o,s1.o];simp only[a0A,a0I]
    go_wp2;refine bodyPost_ret (jO (m:=(l.take j,[],[])) (ok:=false) (rb:=w.heap.size) ?_ (by rfl) (by rfl)) rfl ?_
    ·exact⟨by rw[Below.heap_alloc _ _ _ (by simp)];exact bD _ _⟩
    rw[Hm.o];exact⟨rfl,((aB.refl [] w).alloc _).alloc _⟩
   all_goals
    have kv:CO ((w.alloc (.cells #[.string (bs []),.string (bs []),.string (bs []),.pointer none] 137)).alloc (.cells #[zT (l.take j),zT (sg),.string (bs []),.pointer none] 137)) (w.heap.size+1) (l.take j,sg,[]):=⟨by have:=bD (w.alloc (.cells #[.string (bs []),.string (bs []),.string (bs []),.pointer none] 137)) (.cells #[zT (l.take j),zT (sg),.string (bs []),.pointer none] 137);rw[<-this];simp⟩;have kM:=uh.o.aC (S:=[]) ((aB.refl _ _).alloc (.cells #[zT (l.take j),zT (sg),.string (bs []),.pointer none] 137)) (by simp);refine(vI rs _ Qd).mono ?_;rintro e w2 ⟨rfl,hf⟩;have B1:=aj (kv.aC hf (by simp));have B0:=aj (kM.aC hf (by simp));have KF:=aj ((((aB.refl [] w).alloc _).alloc _).trans hf);clear hf kv kM;generalize gV rs=u at *;obtain⟨u1,u2⟩:=u;have:=B1.o.all;have p4:=B1.o.fz;have:=B0.o.all;have r4:=B0.o.fz;go_wp2_with fail;refine(nH (l.take j) _ (by simp;omega)).mono ?_;rintro e _ ⟨rfl,rfl⟩;generalize l.take j=nm at *;generalize aJ nm=ib at *;cases u2;all_goals
     go_wp2;refine bodyPost_ret (jO (m:=(nm,sg,u1)) (rb:=w.heap.size) ?_ (by rfl) (by rfl)) rfl ?_
     ·exact(B0.o.aC (S:=[w.heap.size+1]) ((aB.refl _ _).setCell (p:=(zB (w.heap.size+1) 2)) (by simp) (zT u1)) (by simp)).Lm (nm,sg,u1)
     rw[Hm.o];exact⟨by simp,aB.Lm (KF.o.setCell (Or.inr (by simp)) _) (by simp) _ _ _ _⟩
  have mK:j=l.length:=by omega
  have AZ:Z_ (l.takeWhile qy=l.take j/\l.dropWhile qy=l.drop j):=by
   have:=MP (l.take j) (l.drop j) oL.o (λc' r' e=>by rw[a0i (by omega)]at e;cases e);rwa [a1C]at this
  have atL:Z_ (l.drop j=[]):=a0i (by omega);have s2:Z_ (ui (l.drop j)=false):=by show _=_;rw[atL.o];rfl
  have s1:Z_ (CJ (l.drop j)=false):=by show _=_;rw[atL.o];rfl
  have:decide ((1:Int)<((l.length-j:Nat):Int))=false:=a0f (by omega);clear mK oL;have Hm:Z_ (rV l=((l.take j,[],[]),false)):=by
   show _=_;unfold rV;rw[AZ.o.1,AZ.o.2];dsimp only;rw[s2.o,s1.o];simp only[a0A,a0I]
  go_wp2;refine bodyPost_ret (jO (m:=(l.take j,[],[])) (ok:=false) (rb:=w.heap.size) ?_ (by rfl) (by rfl)) rfl ?_
  ·exact⟨by rw[Below.heap_alloc _ _ _ (by simp)];exact bD _ _⟩
  rw[Hm.o];exact⟨rfl,((aB.refl [] w).alloc _).alloc _⟩
theorem aqh:∀x y,Op.bytesLess x y=decide (x<y):=by
 intro x;induction x with
 | nil=>intro y;cases y<;>simp[Op.bytesLess]
 | cons a x c =>
   intro y;cases y with
   | nil=>simp[Op.bytesLess]
   | cons b y=>rw[Op.bytesLess,c y,a0T];simp only[List.cons_lt_cons_iff,a1a,a0O,a0U,a0W]
def ins(n:LB):List LB->List LB
 | []=>[n]
 | x::L=>if n<x then n::x::L else x::ins n L
theorem adQ(n a)(h:n<a):∀A,ins n (A++[a])=ins n A++[a]
 | []=>by simp[ins,h]
 | x::A=>by
   rw[a0L];unfold ins;by_cases b:n<x
   .grind
   rw[a0n b,a0n b,adQ n a h A];simp
theorem adR(n):∀A,(∀x∈A,¬ n<x)->ins n A=A++[n]
 | [],_=>rfl
 | x::A,h=>by unfold ins;rw[a0n (h x (by simp)),adR n A (λy a=>h y (by simp[a]))];rfl
theorem ahP(n):∀A x,x∈ins n A->x=n\/x∈A
 | [],x,h=>by simp[ins]at h;exact .inl h
 | y::A,x,h=>by
   unfold ins at h;by_cases a:n<y
   .grind
   rw[a0n a]at h;rw[a0l]at h;rcases h with h|h
   .exact .inr (by simp[h])
   rcases ahP n A x h with h|h
   .exact .inl h
   exact .inr (by simp[h])
def Asc(A:List LB):Prop:=A.Pairwise (λx y=>x<y)
theorem tri(x y:LB)(b:¬ x<y)(a:x≠y):y<x:=by grind
theorem ahQ(n):∀A,Asc A->n∉A->Asc (ins n A)
 | [],_,_=>by simp[ins,Asc]
 | x::A,h,c=>by
   unfold Asc at h;rw[a1F]at h;unfold ins;by_cases b:n<x
   .rw[a0m b];refine a1F.2 ⟨λy a=>?_,a1F.2 h⟩;rw[a0l]at a;rcases a with rfl|a
    .omega
    grind
   rw[a0n b];refine a1F.2 ⟨λy a=>?_,ahQ n A h.2 (λd=>c (by simp[d]))⟩;rcases ahP n A y a with rfl|a
   .grind
   exact h.1 y a
def gtB(a b:LB):Bool:=!(Op.bytesLess a b||a==b)
def down:Nat->List LB->List LB
 | 0,xs=>xs
 | k+1,xs=>if gtB (xs.getD k []) (xs.getD (k+1) []) then down k ((xs.set (k+1) (xs.getD k [])).set k (xs.getD (k+1) [])) else xs
def lM(out:List LB)(n:LB):List LB:=if out.contains n then out else down out.length (out++[n])
def Ed(L:List LB):List LB:=L.foldl lM []
theorem aoj:∀k xs,(down k xs).length=xs.length
 | 0,xs=>rfl
 | k+1,xs=>by
   unfold down;split
   .rw[aoj k];simp
   rfl
def akg(out n):(lM out n).length<=out.length+1:=by
 unfold lM;split
 .omega
 rw[aoj];simp
theorem SL.cell {base g}(h:SL base w (zS g n cap) xs)(j)(a:j<xs.length):zC w g j (zT (xs.getD j [])):=by
 have:=World.ownsRow.cells h rfl j (zT (xs.getD j [])) (by simp[sv,a]);rwa [add0]at this
theorem SL.set {base:Nat}{g:Nat}(h:SL base w (zS g n cap) xs)(a:n=xs.length)(j:Nat)(s:LB):SL base (w.setCell (zB g j) (zT s)) (zS g n cap) (xs.set j s):=by
 subst a;have:=(World.ownsRow.stored h j (zT s)).1;unfold SL;rw[a3p];have e:(sv xs).set j (zT s)=sv (xs.set j s):=by simp[sv]
 rw[<-e];omega
theorem SL.fz {base g}(h:SL base w (zS g n cap) xs)(a:n=xs.length)(j):w.frozen? (zB g j)=false:=by subst a;exact World.ownsRow.frozenAt h j
theorem ahR(v L w)(h:RS 0 w v L)(hL:L.length<=1000) :
 Calls Tryz.prog 37 #[v] w λe w'=>∃v',e=.returned v'/\SL w.heap.size w' v' (Ed L)/\aB [] w w':=by
 obtain⟨a,_,rfl,_,_,H3⟩:=h;have hl:=aT;go_in;go_wp2;go_loopg [3,4] L.length (λk N P wr=>∃(j:Nat) (out:List LB),j+k=L.length/\P=.int .i64 j/\SL w.heap.size wr N out/\out.length<=j/\(L.drop j).foldl lM out=Ed L/\aB [] w wr);exact⟨0,[],by omega,rfl,SL.nil _ _,by simp,by simp[Ed],zK⟩
 case round =>
 obtain⟨j,out,_,rfl,b,W,D,f⟩:=hrel;obtain⟨A,co,V⟩:=b.shape;subst V;by_cases I:j<L.length
 .obtain⟨g0,off,ha,_,s⟩:=H3 j I;subst ha;have M:=a0k I;generalize L[j]=x at *;have B:(L.drop (j+1)).foldl lM (lM out x)=Ed L:=by rw[<-D,M];rfl
  clear D M;go_wp2_with fail;go_loopg [6,7] out.length (λk vt O p=>∃(d:Nat),d+k=out.length/\O=.int .i64 d/\vt=.bool ((out.take d).contains x)/\SL w.heap.size p (.slice A out.length co) out/\aB [] w p);exact⟨0,by omega,rfl,rfl,b,f⟩
  .clear b f;obtain⟨d,Z,rfl,rfl,b,f⟩:=hrel;have hc:wr.cell? ⟨g0,off+j,none⟩=some (.string (bs x)):=by rw[f.cell (World.block_lt_of_cell? w _ s) (by simp)];exact s
   by_cases t:d<out.length
   .obtain⟨G,u⟩:∃G,A=some ⟨G,0,none⟩:=by
     rcases b.2 with⟨e,h⟩|⟨g,c,_,e,_⟩
     .omega
     simp at e;exact⟨g,e.1⟩
    subst u;have RY:=b.cell d t;have m:(out.take (d+1)).contains x=((out.take d).contains x||(out.getD d []==x)):=by
     have e1:out.getD d []=out[d]:=by simp[t]
     rw[e1,a0F t,a0T];simp only[a2B,a0e,a0w,a1a,a1E,a0W];constructor
     .rintro(h|h)
      .exact Or.inl h
      exact Or.inr h.symm
     rintro(h|h)
     .exact Or.inl h
     exact Or.inr h.symm
    generalize out.getD d []=y at *;cases q:(out.take d).contains x
    .rw[q]at m;go_wp2;go_quiet (fail);go_wp2;go_roundg (gk-1);exact⟨d+1,by omega,by go_num,by rw[m];rfl,b.aC (S:=[]) (zK.drewN _) (by simp),f.drewN _⟩;omega
    rw[q]at m;go_wp2;go_quiet (fail);go_wp2;go_roundg (gk-1);exact⟨d+1,by omega,by go_num,by rw[m];rfl,b.aC (S:=[]) (zK.drewN _) (by simp),f.drewN _⟩;omega
   have m:out.take d=out:=a0C (by omega);rw[m];have hz:=f.size;cases J:out.contains x
   case true =>
    have C:lM out x=out:=by unfold lM;rw[J];rfl
    go_wp2;go_roundg (L.length-j-1)
    .have:=B;rw[C]at this;exact⟨j+1,out,by omega,by go_num,b,by omega,this,f⟩
    omega
   case false =>
   have C:lM out x=down out.length (out++[x]):=by unfold lM;rw[J];rfl
   clear m;go_wp2_with (first | (at_builtin;refine rA _ rfl _ _ rfl _ _ out x wr.heap.size rfl (b.aC zG (by simp)) rfl (by simp) (by omega) (by simp;omega) ?_;intro z aU _ E F U;have T:=(f.alloc _).grown F (λk Y=>Or.inr (b.lt k Y).1);have R:=E));clear E F;go_loopg [5] out.length (λk vk p=>∃(xs:List LB),k<=out.length/\vk=.int .i64 k/\xs.length=out.length+1/\SL w.heap.size p (.slice (some ⟨z,0,none⟩) (out.length+1) aU) xs/\down k xs=lM out x/\aB [] w p);exact⟨out++[x],a0b _,rfl,by simp,R,C.symm,T⟩
   .clear b f hc hz U;obtain⟨xs,X,rfl,i,b,r,f⟩:=hrel;have Sv:=b.fz i.symm;cases gk with
    | zero =>
      have l:lM out x=xs:=r.symm;go_wp2;go_quiet (fail);go_wp2;go_roundg (L.length-j-1)
      .have:=B;rw[l]at this;exact⟨j+1,xs,by omega,by go_num,b.aC (S:=[]) (zK.drewN _) (by simp),by have:=i;omega,this,f.drewN _⟩
      omega
    | succ k =>
      have c1:=b.cell k (by omega);have c2:=b.cell (k+1) (by omega);have H:lM out x=if gtB (xs.getD k []) (xs.getD (k+1) []) then down k ((xs.set (k+1) (xs.getD k [])).set k (xs.getD (k+1) [])) else xs:=by rw[<-r];rfl
      generalize xs.getD k []=o at *;generalize xs.getD (k+1) []=n at *;cases dZ:(Op.bytesLess o n||o==n)
      case true =>
       have l:lM out x=xs:=by rw[H];unfold gtB;rw[dZ];rfl
       go_wp2;go_quiet (fail);go_wp2;go_roundg (L.length-j-1)
       .have:=B;rw[l]at this;exact⟨j+1,xs,by omega,by go_num,b.aC (S:=[]) (zK.drewN _) (by simp),by have:=i;omega,this,f.drewN _⟩
       omega
      case false =>
       have l:down k ((xs.set (k+1) o).set k n)=lM out x:=by rw[H];unfold gtB;rw[dZ];rfl
       go_wp2;go_quiet (fail);go_wp2;go_roundg k
       .refine⟨(xs.set (k+1) o).set k n,by omega,by go_num,by simp[i],?_,l,?_⟩
        .exact(((b.aC (S:=[]) (zK.drewN _) (by simp)).set i.symm (k+1) o).set (by simp[i]) k n)
        exact((f.drewN _).setCell (Or.inr (b.lt z rfl).1) _).setCell (Or.inr (b.lt z rfl).1) _
       omega
 have l:Ed L=out:=by rw[<-D,a0i (by omega)];rfl
 go_wp2;go_ret;rw[l];exact⟨_,rfl,b,f⟩
theorem adT(n):∀k A B,A.length=k->Asc A->n∉A->down k (A++n::B)=ins n A++B
 | 0,A,B,f,_,_=>by have:A=[]:=a0S f;subst this;simp[down,ins]
 | k+1,A,B,f,g,j=>by
   obtain⟨c,a,rfl⟩:∃c a,A=c++[a]:=⟨A.dropLast,A.getLast (by intro e;simp[e]at f),(a2t _).symm⟩;have b:c.length=k:=by simpa using f
   unfold Asc at g;rw[List.pairwise_append]at g;have s:(c++[a]++n::B).getD k []=a:=by simp[<-b,a0x]
   have r:(c++[a]++n::B).getD (k+1) []=n:=by simp[<-b,a0x]
   have l:a≠n:=λe=>j (by simp[e]);unfold down;rw[s,r];have q:gtB a n=decide (n<a):=by
    unfold gtB;rw[aqh,a0T];simp only[a1j,Bool.or_eq_false_iff,a1g,a0U];constructor
    .intro h;exact tri _ _ h.1 l
    intro h;exact⟨λi=>List.lt_irrefl _ (List.lt_trans h i),by simpa using l⟩
   rw[q];by_cases h:n<a
   .rw[a0m (by simp[h])];have p:((c++[a]++n::B).set (k+1) a).set k n=c++n::(a::B):=by subst b;simp[List.set_append]
    rw[p,adT n k c (a::B) b g.1 (λm=>j (by simp[m])),adQ n a h];simp
   rw[a0n (by simp[h])];rw[adR n (c++[a])]
   .simp
   intro x d;rw[a0e,a0w]at d;rcases d with d|rfl
   .intro i;exact h (List.lt_trans i (g.2.2 x d a (by simp)))
   omega
def azm:∀(L acc:List LB),Asc acc->Asc (L.foldl lM acc)
 | [],acc,h=>h
 | n::L,acc,h=>by
   rw[a1R];refine azm L _ ?_;unfold lM;by_cases a:acc.contains n=true
   .rw[a0m a];omega
   rw[a0n a];have b:n∉acc:=λc=>a (by simpa using c);rw[adT n acc.length acc [] rfl h b,a0R];exact ahQ n acc h b
theorem ay8:∀L acc,Asc (acc++L)->L.foldl lM acc=acc++L
 | [],acc,h=>by simp
 | n::L,acc,h=>by
   have a:=h;unfold Asc at a;rw[List.pairwise_append]at a;have d:∀x∈acc,x<n:=λx b=>a.2.2 x b n (by simp);have c:n∉acc:=λf=>List.lt_irrefl _ (d n f);rw[a1R];have e:lM acc n=acc++[n]:=by unfold lM;rw[a0n (by simpa using c),adT n acc.length acc [] rfl a.1 c,a0R,adR n acc (λx b g=>List.lt_irrefl _ (List.lt_trans g (d x b)))]
   rw[e,ay8 L (acc++[n]) (by simpa using h)];simp
def az8(L):Ed L=L↔Asc L:=by
 constructor
 .intro h;rw[<-h];exact azm L [] (by simp[Asc])
 intro h;exact(ay8 L [] (by simpa using h)).trans (by simp)
open Go.RowKit
structure iY where
 rc:LB
 ek:Value
 t0:Int
 t1:Int
 t2:Int
 iJ:Value
 on:Bool
 vk:Value
 d:Int
 row:Int
def iY.cells(r:iY):Array Value:=#[zT r.rc,r.ek,zI r.t0,zI r.t1,zI r.t2,r.iJ,.bool r.on,r.vk,zI r.d,zI r.row]
def qz(w:World)(b:Nat)(r:iY):Prop:=w.heap[b]?=some (.cells r.cells 114 (0,0))
theorem qz.lt {r}(h:qz w b r):b<w.heap.size:=(a0c.1 h).1
theorem qz.cell {r}(h:qz w b r)(o):w.cell? (zB b o)=r.cells[o]?:=by unfold qz at h;simp[World.cell?,h]
theorem qz.fz {r}(h:qz w b r)(o):w.frozen? (zB b o)=false:=by unfold qz at h;simp[World.frozen?,h]
theorem qz.aC {r}(h:qz w b r)(f:aB S w w')(a:b∉S):qz w' b r:=(f.block b h.lt a).trans h
theorem qz.set {r}(h:qz w b r)(o v r')(e:r'.cells=r.cells.setIfInBounds o v):qz (w.setCell (zB b o) v) b r':=by unfold qz at *;simp[World.setCell,a0v,h,e]
def Ee(m:RM):List Value:=[zT m.1,zT m.2.1,zT m.2.2,.pointer none]
def ivl(M:List RM):List Value:=M.flatMap Ee
def VA(base:Nat)(w:World)(v:Value)(M:List RM):Prop:=w.ownsRow base 137 4 v M.length (ivl M)
theorem VA.aC {base v L}(h:VA base w v L)(f:aB S w w')(a:∀k,k∈S->k<base):VA base w' v L:=fG h f a
theorem VA.nil(base w):VA base w zN []:=World.ownsRow_nil w base _ 4
def asy:(Tryz.prog.info? 137).map (λi=>(i.zero,i.size,i.bytes))=some (some (.agg #[.string ByteArray.empty,.string ByteArray.empty,.string ByteArray.empty,.pointer none]),4,56):=by kernel_rfl
def wIf:LB:=[105,102]
def EI:LB:=[99,111,110,116,105,110,117,101]
def dO:Nat->List LB->List RM->List RM × Bool × Bool
 | 0,_,acc=>(acc,false,false)
 | k+1,W,acc =>
   if decide (1<W.length)&&(W.getD 0 []==wIf) then
    (if (rV (W.getD 1 [])).2 then dO k (W.drop 2) (acc++[(rV (W.getD 1 [])).1]) else (acc,false,false))
   else if (W.length==1)&&(W.getD 0 []==EI) then (acc,true,decide (acc.length<=4))
   else (acc,false,W.isEmpty&&decide (acc.length<=4))
theorem RS.Ay {base a}(h:RS base w (.slice a n cap) W)(k:0<W.length):∃g off,a=some ⟨g,off,none⟩/\base<=g/\n=W.length/\W.length<=cap/\∀j,j<W.length->w.cell? ⟨g,off+j,none⟩=some (.string (bs (W.getD j []))):=by obtain⟨p,l,e,m,i,d⟩:=h;simp at e;obtain⟨rfl,rfl,rfl⟩:=e;obtain⟨g,off,rfl,hb,_⟩:=d 0 k;refine⟨g,off,rfl,hb,rfl,i,λj c=>?_⟩;obtain⟨o,b,e,q,f⟩:=d j c;simp at e;obtain⟨rfl,rfl⟩:=e;rw[f];simp[c]
def RS.drop2 {base g off}(h:RS base w (.slice (some (zB g off)) n cap) W)(k)(l:k<=W.length):RS base w (.slice (some (zB g (off+k))) (n-k) (cap-k)) (W.drop k):=by obtain⟨q,i,e,o,m,d⟩:=h;simp at e;obtain⟨rfl,rfl,rfl⟩:=e;refine⟨some (zB g (off+k)),cap-k,by simp,by simp;omega,by simp;omega,λj b=>?_⟩;simp at b;obtain⟨p,a,e,f,c⟩:=d (k+j) (by omega);simp at e;obtain⟨rfl,rfl⟩:=e;refine⟨g,off+k,rfl,f,?_⟩;rw[a2M,c];simp
def ano(b base v W r w)(hr:qz w b r)(hw:RS base w v W)(hb:b<base)(JI:r.iJ=zN)(I:r.on=false)(hW:W.length<=10000)(R:∀x∈W,x.length<=100000) :
 zF 67 #[zP b,v] w λe w'=>e=zR (.bool (dO (W.length+1) W []).2.2)/\(∃v',qz w' b { r with iJ:=v',on:=(dO (W.length+1) W []).2.1 }/\VA w.heap.size w' v' (dO (W.length+1) W []).1)/\aB [b] w w':=by
 obtain⟨rc,ek,t0,t1,t2,_,_,vk,d,row⟩:=r;simp only at JI I;subst JI I;have Hw:=aj hw;have Hr:=aj hr;have Hl:=aj R;have jE:=hr.lt;obtain⟨a,_,e,_⟩:=hw;subst e;clear hr R;have Bh:=aT;have kI:({ data:=#[105,102] }:ByteArray).toList=wIf:=aT _;have kC:({ data:=#[99,111,110,116,105,110,117,101] }:ByteArray).toList=EI:=aT _;obtain⟨i0,hi,Qa,Yk,Il⟩:=info_parts asy;generalize M:dO (W.length+1) W []=f at *;have awN:=aj M;clear M;delta zF;go_in;go_wp2_with fail;go_loopg [1] (W.length+1) (λk vw wr=>∃(c:List LB) (acc:List RM) (H:Value),c.length<k/\acc.length+c.length<=W.length/\(∀x∈c,x.length<=100000)/\RS base w vw c/\qz wr b ⟨rc,ek,t0,t1,t2,H,false,vk,d,row⟩/\VA w.heap.size wr H acc/\dO k c acc=f/\aB [b] w wr);case atStart=>exact⟨W,[],_,a3j _,by simp,Hl,Hw,Hr,VA.nil _ _,awN,aB.refl _ _⟩
 case round =>
 obtain⟨c,acc,H,_,_,R,yR,jW,jc,iD,bH⟩:=hrel;clear Hw Hr Hl;have N:=yR;obtain⟨_,xK,e,_,_,_⟩:=yR;subst e;have ED:=aj N;have p:=aj jW;have h:=aj jc;have T:=aj iD;have s:=aj bH;have z:=aj R;have hzr:=bH.size;obtain⟨m,rfl⟩:∃m,gk=m+1:=⟨gk-1,by omega⟩;clear N jW jc iD bH R;by_cases J:1<c.length
 .have gJ:=decLt 1 c.length (by omega);obtain⟨g,off,ha,hgb,_,_,aO⟩:=(ED.o.aC s.o (by simp;omega)).Ay (by omega);subst ha;have c0:zC wr g off (zT (c.getD 0 [])):=aO 0 (by omega);have c1:zC wr g (off+1) (zT (c.getD 1 [])):=aO 1 (by omega);have hx1:(c.getD 1 []).length<=100000:=z.o _ (by rw[a0x,a0a J];exact a0u J);have F:Z_ (f=if (c.getD 0 []==wIf) then (if (rV (c.getD 1 [])).2 then dO m (c.drop 2) (acc++[(rV (c.getD 1 [])).1]) else (acc,false,false)) else (acc,false,false)):=by
   show _=_;rw[<-T.o];conv=>lhs;unfold dO
   have Y:(c.length==1)=false:=a0j.2 (by omega);have X:c.isEmpty=false:=by
    cases c with
    | nil=>simp at J
    | cons=>rfl
   rw[a0g J,Y,X];simp
  clear aO T;generalize c.getD 0 []=x0 at *;generalize c.getD 1 []=x1 at *;cases E:(x0==wIf)
  case false =>
   have n:Z_ (f=(acc,false,false)):=by show _=_;rw[F.o,E];rfl
   have Y:((c.length:Int)==1)=false:=a0j.2 (by omega);have X:((c.length:Int)==0)=false:=a0j.2 (by omega);go_wp2;go_ret;rw[n.o];exact⟨rfl,⟨H,p,h⟩,s⟩
  case true =>
  go_wp2_with fail;refine(afC _ _ hx1).mono ?_;rintro e u ⟨rfl,O⟩;have l:=aj (p.o.aC O (by simp));have i:=aj (h.o.aC O (by simp));have lF:=aj (s.o.trans O.nil);have fM:=O.size;clear O c0 c1 p h s;generalize rV x1=mm at *;obtain⟨⟨D,C,B⟩,mok⟩:=mm;cases mok
  case false =>
   have n:Z_ (f=(acc,false,false)):=by show _=_;rw[F.o,E];rfl
   unfold ifV;go_wp2;go_ret;rw[n.o];exact⟨rfl,⟨H,l.o.aC (S:=[]) ((aB.refl _ _).alloc _) (by simp),i.o.aC (S:=[]) ((aB.refl _ _).alloc _) (by simp)⟩,lF.o.alloc _⟩
  case true =>
  have n:Z_ (dO m (c.drop 2) (acc++[(D,C,B)])=f):=by show _=_;rw[F.o,E];rfl
  obtain⟨ai,ci,rfl⟩:=aW i;have c5:zC u b 5 (.slice ai acc.length ci):=l.o.cell 5;have f5:=l.o.fz 5;have kv:=l.o.lt;have Z:Value.ownBlock (.slice ai acc.length ci)≠some b:=λe=>by have:=i.o.lt _ e;omega
  have g2:∀o y:Obj,((u.alloc o).alloc y).drew.frozen? (zB b 5)=false:=λo y=>(((((aB.refl [] u).alloc o).alloc y).drew).frozen kv (by simp)).trans f5;have g3:∀o y:Obj,((u.alloc o).alloc y).drew.cell? (zB b 5)=some (.slice ai acc.length ci):=λo y=>(((((aB.refl [] u).alloc o).alloc y).drew).cell kv (by simp)).trans c5;have JM:=aj (ED.o.drop2 2 (by omega));unfold ifV;go_wp2_with fail;go_region_law ((refine step_append_lies _ (by rfl) _ _ _ (by rfl) w.heap.size 137 i0 _ 4 56 Tryz.underlying112 hi Qa Yk Il rfl (by omega) (.slice ai acc.length ci) acc.length (ivl acc) (by rfl) (by exact(i.o.alloc _).alloc _) (zA (u.heap.size+1)) 1 1 (Ee (D,C,B)) (by rfl) (by rfl) (World.news_of_block (cs:=(Ee (D,C,B)).toArray) (t:=137) (fr:=(0,0)) (by exact Ik _ _ _)) (by simp[Value.oneCell',Ee]) (by omega) (by unfold maxLen;omega) (by omega) (by simp;omega) (u.heap.size+2) (by simp) ?_;intro L P V bT aH _ _));all_goals
   have G:Z_ (World.grownBy _ V (Value.ownBlock (.slice ai acc.length ci))):=aH;have U:Z_ (V.ownsRow w.heap.size 137 4 (zS L (acc.length+1) P) (acc.length+1) (ivl acc++Ee (D,C,B))):=bT;clear aH bT;have c6:=(G.o.cell_far (zB b 5) (by simp;omega) (Ne.symm Z)).trans (g3 _ _);have f6:=(G.o.frozen_far (zB b 5) (by simp;omega) (Ne.symm Z)).trans (g2 _ _);by_cases oN:xK=2
   .have Gh:RS base w (.slice (some (zB g off)) (c.length-2) 0) (c.drop 2):=⟨some (zB g off),0,by simp,by simp;omega,by simp;omega,λj hj=>by simp at hj;omega⟩;have su:=aj Gh;clear Gh;go_wp2;go_roundg m;case measure=>omega
    case rel =>
     have F4:=aB.fo G;have R4:qz V b ⟨rc,ek,t0,t1,t2,.slice ai acc.length ci,false,vk,d,row⟩:=(l.o.aC (S:=[]) ((((aB.refl _ _).alloc _).alloc _).drew) (by simp)).aC F4 (by simpa[a0H] using λe=>Z e);refine⟨c.drop 2,acc++[(D,C,B)],zS L (acc.length+1) P,by simp;omega,by simp;omega,λx hx=>z.o x (a1f hx),su,R4.set 5 _ _ rfl,?_,n,?_⟩
     .have:=ownsRow_setCell_below U.o (a:=(zB b 5)) jE (zS L (acc.length+1) P);simpa[VA,ivl] using this
     exact((((lF.o.alloc _).alloc _).drew).grown G.o (λk hk=>Or.inr (i.o.lt _ hk).1)).setCell (by simp) _
   go_wp2;go_roundg m;case measure=>omega
   case rel =>
    have F4:=aB.fo G;have R4:qz V b ⟨rc,ek,t0,t1,t2,.slice ai acc.length ci,false,vk,d,row⟩:=(l.o.aC (S:=[]) ((((aB.refl _ _).alloc _).alloc _).drew) (by simp)).aC F4 (by simpa[a0H] using λe=>Z e);refine⟨c.drop 2,acc++[(D,C,B)],zS L (acc.length+1) P,by simp;omega,by simp;omega,λx hx=>z.o x (a1f hx),JM,R4.set 5 _ _ rfl,?_,n,?_⟩
    .have:=ownsRow_setCell_below U.o (a:=(zB b 5)) jE (zS L (acc.length+1) P);simpa[VA,ivl] using this
    exact((((lF.o.alloc _).alloc _).drew).grown G.o (λk hk=>Or.inr (i.o.lt _ hk).1)).setCell (by simp) _
 have gJ:=aBb 1 c.length (by omega);obtain⟨ai,ci,rfl⟩:=aW h;have c5:zC wr b 5 (.slice ai acc.length ci):=p.o.cell 5;have c6:zC wr b 6 (.bool false):=p.o.cell 6;have f6:=p.o.fz 6;have q:decide (acc.length<=4)=decide ((acc.length:Int)<=4):=by
  rw[a0T,a1E,a1E];omega
 by_cases A:c.length=1
 .have Y:((c.length:Int)==1)=true:=by simp[A]
  have e0:((c.length:Int)==0)=false:=a0j.2 (by omega);obtain⟨g,off,ha,_,_,_,aO⟩:=(ED.o.aC s.o (by simp;omega)).Ay (by omega);subst ha;have c0:zC wr g off (zT (c.getD 0 [])):=aO 0 (by omega);have F:Z_ (f=if (c.getD 0 []==EI) then (acc,true,decide ((acc.length:Int)<=4)) else (acc,false,false)):=by
   show _=_;rw[<-T.o];conv=>lhs;unfold dO
   have X:c.isEmpty=false:=by
    cases c with
    | nil=>simp at A
    | cons=>rfl
   rw[a0f J,A,X,q];simp
  clear aO T q;generalize c.getD 0 []=x0 at *;cases E:(x0==EI)
  .have n:Z_ (f=(acc,false,false)):=by show _=_;rw[F.o,E];rfl
   have awO:0<c.length:=by omega
   clear A;go_wp2;go_ret;rw[n.o];exact⟨rfl,⟨_,p,h⟩,s⟩
  have n:Z_ (f=(acc,true,decide ((acc.length:Int)<=4))):=by show _=_;rw[F.o,E];rfl
  have awO:0<c.length:=by omega
  clear A;go_wp2;go_ret;rw[n.o];exact⟨rfl,⟨_,p.o.set 6 _ _ rfl,h.o.aC (S:=[b]) ((aB.refl _ _).setCell (by simp) _) (by simp;omega)⟩,s.o.setCell (by simp) _⟩
 have Vz:c.length=0:=by omega
 have Y:((c.length:Int)==1)=false:=a0j.2 (by omega);have e0:((c.length:Int)==0)=true:=by simp[Vz]
 have n:Z_ (f=(acc,false,decide ((acc.length:Int)<=4))):=by
  show _=_;rw[<-T.o];conv=>lhs;unfold dO
  have:c=[]:=a0S Vz;rw[this,q];rfl
 clear Vz A q;go_wp2;go_ret;rw[n.o];exact⟨rfl,⟨_,p,h⟩,s⟩
theorem Na(q c N):∀k l i t out,t.length+l.length<=N->(∀x∈out,x.length<=N)->(∀x∈jy q c k l i t out,x.length<=N)/\(jy q c k l i t out).length<=out.length+l.length+1/\out.length+1<=(jy q c k l i t out).length
 | 0,l,i,t,out,g,a=>by grind [jy]
 | k+1,[],i,t,out,g,a=>by grind [jy]
 | k+1,y::r,i,t,out,g,a=>by
   simp only[a0r]at g;unfold jy;dsimp only;generalize (if (q&&y==34)=true then !i else i)=i1;by_cases d:(i1&&y==92&&!(r.isEmpty))=true
   .rw[a0m d];have j:r≠[]:=by intro e;subst e;simp at d
    have m:=a1O.2 j;have:=Na q c N k (r.drop 1) i1 (t++([y]++r.take 1)) out (by simp;omega) a;refine⟨this.1,?_,this.2.2⟩;have f:=this.2.1;simp only[a2F,a0r]at f |-;omega
   rw[a0n d];by_cases h:(y==c&&!i1)=true
   .rw[a0m h];have:=Na q c N k r i1 [] (out++[t]) (by simp;omega) (λx b=>by
     rw[a0e,a0w]at b;rcases b with b|rfl
     .exact a x b
     omega)
    refine⟨this.1,?_,?_⟩
    .grind
    grind
   rw[a0n h];have:=Na q c _ k r i1 (t++[y]) out (by simp;omega) a;refine⟨this.1,?_,this.2.2⟩;have f:=this.2.1;simp at f |-;omega
def Lr(q c l):(∀x∈dU q c l,x.length<=l.length)/\(dU q c l).length<=l.length+1/\1<=(dU q c l).length:=by have:=Na q c l.length (l.length+1) l false [] [] (by simp) (by simp);unfold dU;refine⟨this.1,by have:=this.2.1;simp at this;omega,by omega⟩
theorem akh(out n):1<=(lM out n).length:=by grind [lM,aoj]
theorem abo:∀(L out:List LB),out.length<=(L.foldl lM out).length/\(L.foldl lM out).length<=out.length+L.length/\(1<=L.length->1<=(L.foldl lM out).length)
 | [],out=>by simp
 | x::L,out=>by
   have h:=abo L (lM out x);have:=akg out x;have:=akh out x;have:out.length<=(lM out x).length:=by grind [lM,aoj]
   simp[a1R,a0r];omega
def anp(L):(Ed L).length<=L.length/\(1<=L.length->1<=(Ed L).length):=by have:=abo L [];unfold Ed;simp at this |-;omega
theorem adW {ops rest o a} {Q:Exit->Act->World->Prop}(w)(m:o.guard=none)(s x)
 (ho:o.op=.call { callee:=.builtin .append,args:=#[s,x],argTypes:=#[46,46] })
 (base i v L M f c2) (p:a.eval s=v) (C:SL base w v L) (b:a.eval x=zS f M.length c2)
 (t:SL i w (zS f M.length c2) M) (D:0<M.length) (hlen:L.length+M.length<=1048576) (l:base<=w.heap.size)
 (h:∀g cap w',SL base w' (zS g (L.length+M.length) cap) (L++M)->w.grownBy w' v.ownBlock->base<=g->wpList Tryz.prog ops Q rest (a.put o.dst (zS g (L.length+M.length) cap)) w') :
 wpList Tryz.prog ops Q (o::rest) a w:=by
 obtain⟨n,r,gT,B,A⟩:=info_parts uY;refine wpList_append_own w m s x 46 ho base 9 n (.string ByteArray.empty) 1 16 Tryz.underlying46 r gT B A rfl (by decide) v L.length (sv L) p C (zA f) M.length c2 (sv M) b (by simp[sv]) ?_ (λx b=>by simp[sv]at b;obtain⟨c,_,rfl⟩:=b;rfl) (by unfold maxLen;omega) (by omega) l ?_
 .intro j u q;exact t.cells rfl j u q
 intro v' w' k z y;obtain⟨g,cap,rfl⟩:=Uz k (λe=>by have:=(y.1 e).2;omega);have d:SL base w' (zS g (L.length+M.length) cap) (L++M):=by grind [SL,sv]
 exact h g cap w' d z (k.lt g rfl).1
def Bn:LB:=[114,111,117,116,101]
def wBy:LB:=[98,121]
def Az:LB:=[119,97,105,116]
def vQ:LB:=[101,118,101,114,121]
def rW:LB:=[114,101,112,101,97,116]
structure RR where
 rc:LB
 told:Bool
 names:List LB
 t0:Int
 t1:Int
 t2:Int
 ifs:List RM
 on:Bool
 d:Nat
def qX(W:List LB):Option (Bool × List LB × List LB) :=
 if decide (1<W.length)&&(W.getD 0 []==wBy) then
  (if W.getD 1 [] == [45] then some (true,[],W.drop 2)
   else if (dU false 44 (W.getD 1 [])).all aJ&&decide ((dU false 44 (W.getD 1 [])).length<=4) then some (true,Ed (dU false 44 (W.getD 1 [])),W.drop 2) else none)
 else some (false,[],W)
def alP:Nat->LB
 | 2=>Az
 | 1=>vQ
 | _=>rW
def aqi(r:Nat)(a:Int × Int × Int)(n:Int):Int × Int × Int :=
 match r with
 | 2=>(n,a.2.1,a.2.2)
 | 1=>(a.1,n,a.2.2)
 | _=>(a.1,a.2.1,n)
def nO:Nat->Int × Int × Int->List LB->Option ((Int × Int × Int) × List LB)
 | 0,a,W=>some (a,W)
 | r+1,a,W =>
   if decide (1<W.length)&&(W.getD 0 []==alP r) then
    (if decide (iR (W.getD 1 [])<0) then none else nO r (aqi r a (iR (W.getD 1 []))) (W.drop 2))
   else nO r a W
def rtW(d:Nat)(W:List LB):Option RR :=
 if decide (W.length<2)||!(W.getD 0 []==Bn) then none
 else if !(aJ (W.getD 1 []))&&!(W.getD 1 [] == [45]) then none
 else match qX (W.drop 2) with
  | none=>none
  | some (told,names,c)=>match nO 3 (-1,-1,-1) c with
    | none=>none
    | some (b,a)=>if (dO (a.length+1) a []).2.2 then some ⟨W.getD 1 [],told,names,b.1,b.2.1,b.2.2,(dO (a.length+1) a []).1,(dO (a.length+1) a []).2.1,d⟩ else none
def yY(l:LB):Option RR:=rtW (bO l).1 (dU true 32 (bO l).2)
def byW(told:Bool)(names:List LB):List LB:=if told then [58]::names else []
structure awP(base:Nat)(w:World)(b:Nat)(v:iY)(r:RR):Prop where
 at_:qz w b v
 rc:v.rc=r.rc
 Im:SL base w v.ek (byW r.told r.names)
 t0:v.t0=r.t0
 t1:v.t1=r.t1
 t2:v.t2=r.t2
 ifs:VA base w v.iJ r.ifs
 on:v.on=r.on
 vk:v.vk=zN
 d:v.d=r.d
 row:v.row=0
def aqj(w:World)(e:Ending)(w':World):Option RR->Prop
 | none=>∃p,e=zQ #[.pointer p,.bool false]
 | some r=>∃b v,w.heap.size<=b/\e=zQ #[zP b,.bool true]/\awP w.heap.size w' b v r
def tC(b:Nat):Value:=zP b
def LP(base:Nat)(w:World)(v:Value)(B:LN):Prop:=w.ownsRow base 72 1 v B.length (B.map tC)
theorem LP.cell {base g B}(h:LP base w (zS g n cap) B)(j)(a:j<B.length):zC w g j (tC B[j]):=by have:=World.ownsRow.cells h (g:=g) rfl j (tC B[j]) (by simp[a]);rw[add0]at this;omega
def sw(w:World)(cb:Nat)(vr vt a:Value):Prop:=w.heap[cb]?=some (.cells #[vr,vt,a] 75 (0,0))
theorem sw.lt{z}(h:sw w b x y z):b<w.heap.size:=(a0c.1 h).1
theorem sw.cell{z}(h:sw w b x y z)(o):w.cell? (zB b o)=(#[x,y,z]:Array Value)[o]?:=by unfold sw at h;simp[World.cell?,h]
theorem sw.fz{z}(h:sw w b x y z)(o):w.frozen? (zB b o)=false:=by unfold sw at h;simp[World.frozen?,h]
theorem sw.aC{z}(h:sw w b x y z)(f:aB S w w')(a:b∉S):sw w' b x y z:=(f.block b h.lt a).trans h
structure Dq(base:Nat)(w:World)(b:Nat)(v:iY)(r:RR):Prop where
 at_:qz w b v
 rc:v.rc=r.rc
 Im:SL base w v.ek (byW r.told r.names)
 t0:v.t0=r.t0
 t1:v.t1=r.t1
 t2:v.t2=r.t2
 ifs:VA base w v.iJ r.ifs
 on:v.on=r.on
 d:v.d=r.d
theorem Dq.aC {base v r}(h:Dq base w b v r)(f:aB S w w')(c:b∉S)(a:∀k∈S,k<base):Dq base w' b v r :=
 ⟨h.at_.aC f c,h.rc,h.Im.aC f a,h.t0,h.t1,h.t2,h.ifs.aC f a,h.on,h.d⟩
structure alQ(r:RR):Prop where
 d:r.d<=9000
 rc:r.rc.length<=8
 names:r.names.length<=4
 nm:∀n∈r.names,n.length<=8
 t0:-1<=r.t0/\r.t0<=99999
 t1:-1<=r.t1/\r.t1<=99999
 t2:-1<=r.t2/\r.t2<=99999
 ifs:r.ifs.length<=4
 im:∀m∈r.ifs,m.1.length<=8/\m.2.1.length<=2/\m.2.2.length<=40
theorem VA.cell {base M g}(h:VA base w (zS g n cap) M) {j m}(d:M[j]?=some m)(k)(b:k<4):w.cell? (zB g (j*4+k))=(Ee m)[k]?:=by have c:=flat_get Ee 4 (λa=>rfl) M j k m d b;have f:k<(Ee m).length:=b;rw[a0a f]at c |-;have:=(World.ownsRow.cells h (g:=g) rfl (j*4+k)) _ c;rw[add0]at this;omega
end
section
variable {W w w' w4:World} {a:Act} {b cap cb g0 j k k0 n n0 pb:Nat} {A B S:LN} {o0 o1 o2 o3 o4 v vl vr vw:Value} {r:RR} {L:List LB} {M:List RM} {cur ahT:Array Value} {e t:TypeId} {R s0:LB} {e0:RX} {α:Type} {vs:List (List Value)} {ops:Array Oper} {rest:List Oper} {E:Prop}
def uX(i:Nat)(r:RR):Bool:=(i==0)&&(r.d==0)&&r.ifs.isEmpty&&!r.on&&!(r.rc == [45])
def qY(i n:Nat)(r:RR):Bool:=decide (0<i)&&decide (0<r.d)&&decide (r.d<=n)
def pX:List RR->Nat->Nat->Nat
 | [],_,_=>0
 | r::R,i,n=>if (!(uX i r)&&!(qY i n r))||decide (5<r.d)||decide (16<=i) then i+2 else pX R (i+1) (r.d+1)
def uJ(R:List RR):Nat:=if R.isEmpty then 2 else pX R 0 0
def lN(L:List LB):List RR->Nat->Nat
 | [],_=>0
 | r::R,i=>if !(r.rc == [45])&&!(L.contains r.rc) then i+2 else lN L R (i+1)
def xh(L:List LB)(R:List RR):Nat × Nat :=
 if uJ R≠0 then (3,uJ R) else if mq [] L then (4,1) else if lN L R 0≠0 then (4,lN L R 0) else (0,0)
theorem LP.take {base a}(h:LP base w (.slice a n cap) B)(d)(hd:d<=B.length):LP base w (.slice a d cap) (B.take d):=by
 have i:n=B.length:=by
  rcases h.2 with⟨e,o⟩|⟨g,c,cur,e,_⟩
  .simp at e;omega
  simp at e;omega
 subst i;have b:=a2n hd;unfold LP at *;rw[a1k,b];refine⟨by simp[b],?_⟩;rcases h.2 with⟨e,o⟩|⟨g,c,cur,e,m,l,p,k,j,f⟩
 .grind
 simp at e;obtain⟨rfl,rfl⟩:=e;refine .inr ⟨g,cap,cur,rfl,m,l,by omega,k,j,?_⟩;rw[a1H]at f |-;rw[List.map_take,<-f,List.take_take,b]
theorem LP.aC {base}(h:LP base w v B)(f:aB S w w')(a:∀k,k∈S->k<base):LP base w' v B:=fG h f a
def IM(s:LN × (Nat->LN))(x:Nat × Nat):LN × (Nat->LN) :=
 (s.1.take x.2++[x.1],match (s.1.take x.2).getLast? with | none=>s.2|some u=>λk=>if k=u then s.2 k++[x.1] else s.2 k)
def sD(l:List (Nat × Nat)):LN × (Nat->LN):=l.foldl IM ([],λ_=>[])
def xd(X:List (Nat × iY × RR)):List (Nat × Nat):=X.map λx=>(x.1,x.2.2.d)
structure GI(w wr:World)(cb:Nat)(X:List (Nat × iY × RR))(K:Nat->Value)(C:Nat->LN)(B:LN)(vw:Value)(j:Nat):Prop where
 lt:∀x∈X,x.1<w.heap.size
 rb:∀x∈X,qz wr x.1 { x.2.1 with vk:=K x.1 }
 Oe:∀x∈X,(C x.1).length<=j/\LP w.heap.size wr (K x.1) (C x.1)
 sep:∀x∈X,∀y∈X,x.1≠y.1->∀g,(K x.1).ownBlock=some g->(K y.1).ownBlock≠some g
 TB:∀x∈X,∀g,(K x.1).ownBlock=some g->vw.ownBlock≠some g
 way:LP w.heap.size wr vw B
 abp:∀b∈B,∃x∈X,x.1=b
 aC:aB (cb::X.map (·.1)) w wr
def GI.TF{wr b X K C}(h:GI w wr cb X K C B vw j)(f:aB [] wr b):GI w b cb X K C B vw j :=
 ⟨h.lt,λx a=>(h.rb x a).aC f (by simp),λx a=>by obtain⟨d,c⟩:=h.Oe x a;exact⟨d,fG c f (by simp)⟩,h.sep,h.TB,h.way.aC f (by simp),h.abp,h.aC.trans f.nil⟩
theorem GI.root{wr X K C}(h:GI w wr cb X K C B vw j)(c:cb<w.heap.size)(b:∀x∈X,x.1≠cb)(v):GI w (wr.setCell (zB cb 1) v) cb X K C B vw j:=by have f:aB [cb] wr (wr.setCell (zB cb 1) v):=zK.setCell (by simp) _;refine⟨h.lt,λx a=>(h.rb x a).aC f (by simpa using b x a),λx a=>?_,h.sep,h.TB,h.way.aC f (by simpa using c),h.abp,h.aC.setCell (by simp) _⟩;obtain⟨e,d⟩:=h.Oe x a;exact⟨e,fG d f (by simpa using c)⟩
def GI.cut{wr X K C a}(h:GI w wr cb X K C B (.slice a n cap) j)(d)(hd:d<=B.length):GI w wr cb X K C (B.take d) (.slice a d cap) j :=
 ⟨h.lt,h.rb,h.Oe,h.sep,λx c g e=>by have:=h.TB x c g e;cases a<;>simpa[Value.ownBlock] using this,h.way.take d hd,λb hb=>h.abp b (a3h hb),h.aC⟩
def GI.up{wr X K C}(h:GI w wr cb X K C B vw j):GI w wr cb X K C B vw (j+1) :=
 ⟨h.lt,h.rb,λx a=>by obtain⟨c,b⟩:=h.Oe x a;exact⟨by omega,b⟩,h.sep,h.TB,h.way,h.abp,h.aC⟩
def GI.ahS{wr X K C}(h:GI w wr cb X K C B vw j){g}(hb:∃x∈X,x.1=b)
 (i:wr.grownBy w4 vw.ownBlock) (ho:LP w.heap.size w4 (zS g n cap) (B++[b])) (d:vw.ownBlock=some g\/g=wr.heap.size):GI w w4 cb X K C (B++[b]) (zS g n cap) j:=by
 have F4:=aB.fo i;have o:∀k,vw.ownBlock=some k->w.heap.size<=k:=λk c=>(h.way.lt k c).1;have q:∀x∈X,(K x.1).ownBlock=none\/(K x.1).ownBlock≠vw.ownBlock:=λx a=>by
  cases e:(K x.1).ownBlock with
  | none=>exact .inl rfl
  | some k=>exact .inr (λp=>h.TB x a k e p.symm)
 refine⟨h.lt,λx a=>(h.rb x a).aC F4 ?_,λx a=>?_,h.sep,λx a k c=>?_,ho,λb' f=>?_,h.aC.grown i (λk c=>.inr (o k c))⟩
 .rw[a0H];intro e;have:=o _ e;have:=h.lt x a;omega
 .obtain⟨m,l⟩:=h.Oe x a;exact⟨m,World.ownsRow.kept l i (q x a)⟩
 .obtain⟨m,l⟩:=h.Oe x a;have r:=l.lt k c;intro e;simp[Value.ownBlock]at e;subst e;rcases d with d|d
  .exact h.TB x a _ c d
  omega
 rw[a0e,a0w]at f;rcases f with f|rfl
 .exact h.abp b' f
 omega
theorem qz.kids {r}(h:qz w b r)(v):qz (w.setCell (zB b 7) v) b { r with vk:=v }:=by obtain⟨_,_,_,_,_,_,_,_,d,_⟩:=r;exact h.set 7 v _ rfl
def LP.au1 {base row}(h:LP base w v B)(a:w.grownBy w4 row)(b:v.ownBlock=none\/v.ownBlock≠row):LP base w4 v B:=World.ownsRow.kept h a b
theorem GI.aqk{wr X K C}(h:GI w wr cb X K C B vw j) {x}(m:x∈X){g xs}(F:n<=j)(H:n=(C x.1).length)(E:xs=(C x.1++[b]).map tC)
 (s:wr.grownBy w4 (K x.1).ownBlock) (ho:w4.ownsRow w.heap.size 72 1 (zS g (n+1) cap) (n+1) xs) (d:(K x.1).ownBlock=some g\/g=wr.heap.size) :
 GI w (w4.setCell (zB x.1 7) (zS g (n+1) cap)) cb X (λb=>if b=x.1 then zS g (n+1) cap else K b) (λk=>if k=x.1 then C k++[b] else C k) B vw (j+1):=by
 have F4:=aB.fo s;obtain⟨_,t⟩:=h.Oe x m;have D:∀k,(K x.1).ownBlock=some k->w.heap.size<=k:=λk a=>(t.lt k a).1;have f:∀u,aB [x.1] w4 (w4.setCell (zB x.1 7) u):=λu=>zK.setCell (by simp) _;have r:=h.lt x m;have o:∀y∈X,qz w4 y.1 { y.2.1 with vk:=K y.1 }:=λy c=>(h.rb y c).aC F4 (by rw[a0H];intro e;have:=D _ e;have:=h.lt y c;omega);have p:∀y∈X,∀k,(K y.1).ownBlock=some k->k<wr.heap.size:=λy c k a=>by obtain⟨_,v⟩:=h.Oe y c;exact(v.lt k a).2
 refine⟨h.lt,λy c=>?_,λy c=>?_,λy c z hz q k a=>?_,λy c k a=>?_,?_,h.abp,?_⟩
 .by_cases e:y.1=x.1
  .simp[e,a0G];have:=o y c;rw[e]at this;exact this.kids _
  simp[e,a0I];exact(o y c).aC (f _) (by simpa using e)
 .by_cases e:y.1=x.1
  .grind [fG,LP]
  simp[e,a0I];obtain⟨I,v⟩:=h.Oe y c;refine⟨by omega,fG (World.ownsRow.kept v s ?_) (f _) (by simpa using r)⟩;cases A:(K y.1).ownBlock with
  | none=>exact .inl rfl
  | some k=>exact .inr (λl=>h.sep y c x m e k A l.symm)
 .by_cases e:y.1=x.1
  .have l:z.1≠x.1:=λi=>q (e.trans i.symm);simp[e,a0G,Value.ownBlock,Option.some.injEq]at a;subst a;simp only[l,a0I];intro i;rcases d with d|d
   .exact h.sep x m z hz (λG=>l G.symm) _ d i
   have:=p z hz _ i;omega
  simp[e,a0I]at a;by_cases l:z.1=x.1
  .simp[l,a0G,Value.ownBlock,ne_eq,Option.some.injEq];intro i;subst i;rcases d with d|d
   .exact h.sep y c x m e _ a d
   have:=p y c _ a;omega
  simp[l,a0I];exact h.sep y c z hz q k a
 .by_cases e:y.1=x.1
  .simp[e,a0G,Value.ownBlock,Option.some.injEq]at a;subst a;intro i;rcases d with d|d
   .exact h.TB x m _ d i
   have:=h.way.lt _ i;omega
  simp[e,a0I]at a;exact h.TB y c k a
 .refine LP.aC (LP.au1 ?_ s ?_) (f _) (by simpa using r)
  .exact h.way
  cases A:vw.ownBlock with
  | none=>exact .inl rfl
  | some k=>exact .inr (λl=>h.TB x m k l.symm A)
 exact(h.aC.grown s (λk a=>.inr (D k a))).setCell (by simp;exact .inl (.inr ⟨_,_,m⟩)) _
def abq(l:LB):Option (List LB) :=
 if (((dU false 32 l).getD 0 []==mU)&&decide (1<(dU false 32 l).length)&&decide ((dU false 32 l).length<=9))&&((dU false 32 l).drop 1).all aJ then some ((dU false 32 l).drop 1) else none
def sO:List LB->Nat->List LB->List RR->Except Nat (List LB × List RR)
 | [],i,_,_=>.error (i+1)
 | [x],i,L,R=>if !(x.isEmpty)||i==0 then .error (i+1) else .ok (L,R)
 | x::y::W,i,L,R =>
   if i==0 then (match abq x with | none=>.error 1|some L'=>sO (y::W) 1 L' R)
   else (match yY x with | none=>.error (i+1)|some r=>sO (y::W) (i+1) L (R++[r]))
def sF(t:LB):Except (Nat × Nat) (List LB × List RR) :=
 if 1200<t.length then .error (1,0) else
 match sO (dU false 10 t) 0 [] [] with
 | .error n=>.error (2,n)
 | .ok (L,R)=>if (xh L R).1=0 then .ok (L,R) else .error (xh L R)
structure RdM(w w':World)(cb base:Nat)(vt:Value)(X:List (Nat × iY × RR)):Prop where
 lo:w.heap.size<=cb
 up:cb<base
 row:∀(i:Nat) x,X[i]?=some x->x.2.1.row=(i:Int)+2
 nd:(X.map (·.1)).Nodup
 gt:∀x∈X,base<=x.1
 root:vt=tC ((X.map (·.1)).getD 0 0)
 Oe:∀x∈X,LP base w' x.2.1.vk ((sD (xd X)).2 x.1)
def IQ(w:World)(e:Ending)(w':World):Except (Nat × Nat) (List LB × List RR)->Prop
 | .error (n,l)=>e=zQ #[.pointer none,zI n,zI l]
 | .ok (L,R)=>∃(cb base:Nat) (vr vt vl:Value) (X:List (Nat × iY × RR)),e=zQ #[tC cb,zI 0,zI 0]/\sw w' cb vr vt vl/\RS 0 w' vr L/\LP base w' vl (X.map (·.1))/\(∀x∈X,Dq base w' x.1 x.2.1 x.2.2)/\R=X.map (·.2.2)/\RdM w w' cb base vt X
theorem aql {a}(h:w.cell? a=some v):a.block<w.heap.size:=by
 by_cases b:a.block<w.heap.size
 .omega
 simp[World.cell?,b]at h
def RS.atN {base}(h:RS base w v L)(f:aB S w w')(e:∀k∈S,v.ownBlock≠some k):RS base w' v L:=by obtain⟨a,cap,rfl,m,l,i⟩:=h;refine⟨a,cap,rfl,m,l,λj d=>?_⟩;obtain⟨g,off,rfl,hb,b⟩:=i j d;refine⟨g,off,rfl,hb,?_⟩;rw[f.cell (p:=(zB g (off+j))) (aql b) (λc=>e g c rfl)];omega
def afD(w:World)(base:Nat)(S:LN):Prop:=∀k,k∈S->k<base\/∃cur a fz,w.heap[k]?=some (.cells cur a fz)/\a≠9/\a≠137
def Dq.awQ {base v}(h:Dq base w b v r)(f:aB S w w')(hb:b∉S)(i:afD w base S):Dq base w' b v r :=
 ⟨h.at_.aC f hb,h.rc,jJ h.Im f (λk g=>(i k g).imp id (λ⟨a,b,c,d,e⟩=>⟨a,b,c,d,e.1⟩)),h.t0,h.t1,h.t2,jJ h.ifs f (λk g=>(i k g).imp id (λ⟨a,b,c,d,e⟩=>⟨a,b,c,d,e.2⟩)),h.on,h.d⟩
theorem Dq.base {base base' v}(h:Dq base w b v r)(hb:base'<=base):Dq base' w b v r :=
 ⟨h.at_,h.rc,wQ h.Im hb,h.t0,h.t1,h.t2,wQ h.ifs hb,h.on,h.d⟩
structure QI(w:World)(cb:Nat)(vr vl:Value)(L:List LB)(X:List (Nat × iY × RR)):Prop where
 rs:RS (cb+1) w vr L
 lp:LP (cb+1) w vl (X.map (·.1))
 rq:∀x∈X,Dq (cb+1) w x.1 x.2.1 x.2.2
 vk:∀x∈X,x.2.1.vk=zN
 gt:∀x∈X,cb<x.1
 row:∀(i:Nat) x,X[i]?=some x->x.2.1.row=(i:Int)+2
 nd:(X.map (·.1)).Nodup
 vrx:∀x∈X,vr.ownBlock≠some x.1
 vrb:vr.ownBlock≠some cb
 vrl:∀g,vr.ownBlock=some g->vl.ownBlock≠some g
 lt:∀x∈X,x.1<w.heap.size
 vrt:∀g,vr.ownBlock=some g->g<w.heap.size
def QI.TF {X}(h:QI w cb vr vl L X)(f:aB [] w w'):QI w' cb vr vl L X :=
 ⟨h.rs.aC f (by simp),h.lp.aC f (by simp),λx a=>(h.rq x a).aC f (by simp) (by simp),h.vk,h.gt,h.row,h.nd,h.vrx,h.vrb,h.vrl,λx a=>a0t (h.lt x a) f.size,λg b=>a0t (h.vrt g b) f.size⟩
def QI.awR {X}(h:QI w cb vr vl L X)(o v):QI (w.setCell (zB cb o) v) cb vr vl L X:=by have f:aB [cb] w (w.setCell (zB cb o) v):=zK.setCell (by simp) _;refine⟨h.rs.aC f (by simp),h.lp.aC f (by simp),λx a=>(h.rq x a).aC f ?_ (by simp),h.vk,h.gt,h.row,h.nd,h.vrx,h.vrb,h.vrl,λx a=>a0t (h.lt x a) f.size,λg b=>a0t (h.vrt g b) f.size⟩;have:=h.gt x a;simp;omega
theorem QI.nil(w cb):QI w cb zN zN [] [] :=
 ⟨⟨none,0,rfl,by simp,by simp,by simp⟩,World.ownsRow_nil _ _ _ _,by simp,by simp,by simp,by simp,by simp,by simp,by simp[Value.ownBlock],by simp[Value.ownBlock],by simp,by simp[Value.ownBlock]⟩
theorem QI.snoc {X}(h:QI w cb vr vl L X) {x}(s:Dq (cb+1) w x.1 x.2.1 x.2.2)(d:x.2.1.vk=zN)(z:x.2.1.row=(X.length:Int)+2)
 (m:∀y∈X,y.1<x.1) (r:cb<x.1) (j:vr.ownBlock≠some x.1) (A:vl.ownBlock≠some x.1) {g} (u:w.grownBy w4 vl.ownBlock) (ho:LP (cb+1) w4 (zS g n cap) (X.map (·.1)++[x.1])) (f:vl.ownBlock=some g\/g=w.heap.size):QI w4 cb vr (zS g n cap) L (X++[x]):=by
 have F4:=aB.fo u;have l:∀k,vl.ownBlock=some k->∃cur fz,w.heap[k]?=some (.cells cur 72 fz):=λk d=>Ip h.lp k d;have ap:afD w (cb+1) vl.ownBlock.toList:=λk d=>by grind
 have v:∀y:Nat × iY × RR,Dq (cb+1) w y.1 y.2.1 y.2.2->y.1∉vl.ownBlock.toList:=λy c o=>by rw[a0H]at o;obtain⟨cur,fz,e⟩:=l _ o;have:=c.at_;unfold qz at this;rw[e]at this;simp at this
 have all:∀y∈X++[x],Dq (cb+1) w y.1 y.2.1 y.2.2:=λy c=>by
  rw[a0e,a0w]at c;rcases c with c|rfl
  .exact h.rq y c
  omega
 refine⟨h.rs.atN F4 (λk d=>?_),by rw[a0P];exact ho,λy c=>(all y c).awQ F4 (v y (all y c)) ap,λy c=>?_,λy c=>?_,λi y p=>?_,?_,λy c=>?_,h.vrb,λk d=>?_,λy c=>?_,λk d=>a0t (h.vrt k d) F4.size⟩
 .rw[a0H]at d;exact λe=>h.vrl k e d
 .rw[a0e,a0w]at c;rcases c with c|rfl
  .exact h.vk y c
  omega
 .rw[a0e,a0w]at c;rcases c with c|rfl
  .exact h.gt y c
  omega
 .by_cases t:i<X.length
  .rw[a0s t]at p;exact h.row i y p
  grind
 .rw[a0P];refine List.nodup_append.2 ⟨h.nd,by simp,?_⟩;intro a q b hb e;simp at hb;rw[a0q]at q;obtain⟨y,c,rfl⟩:=q;have:=m y c;omega
 .rw[a0e,a0w]at c;rcases c with c|rfl
  .exact h.vrx y c
  omega
 .intro e;simp only[Value.ownBlock,Option.some.injEq]at e;subst e;rcases f with f|f
  .exact h.vrl _ d f
  have:=h.vrt _ d;omega
 have:=(all y c).at_.lt;exact a0t this F4.size
theorem QI.kept {X}(h:QI w cb vr vl L X)(f:aB (cb::X.map (·.1)) w w'):RS 0 w' vr L/\LP (cb+1) w' vl (X.map (·.1)):=by
 refine⟨(h.rs.atN f ?_).base (a1G _),jJ h.lp f ?_⟩
 .intro k a;rw[a0l,a0q]at a;rcases a with rfl|⟨x,b,rfl⟩
  .exact h.vrb
  exact h.vrx x b
 intro k a;rw[a0l,a0q]at a;rcases a with rfl|⟨x,b,rfl⟩
 .grind
 exact .inr ⟨_,_,_,(h.rq x b).at_,by decide⟩
theorem QI.rqs {X}(h:QI w cb vr vl L X)(f:aB (cb::X.map (·.1)) w w') {K:Nat->Value}(g:∀x∈X,qz w' x.1 { x.2.1 with vk:=K x.1 }):∀x∈X,Dq (cb+1) w' x.1 { x.2.1 with vk:=K x.1 } x.2.2:=by
 have ap:afD w (cb+1) (cb::X.map (·.1)):=λk g=>by
  rw[a0l,a0q]at g;rcases g with rfl|⟨x,i,rfl⟩
  .grind
  exact .inr ⟨_,_,_,(h.rq x i).at_,by decide,by decide⟩
 intro x i;have q:=h.rq x i;exact⟨g x i,q.rc,jJ q.Im f (λk g=>(ap k g).imp id (λ⟨a,b,c,d,e⟩=>⟨a,b,c,d,e.1⟩)),q.t0,q.t1,q.t2,jJ q.ifs f (λk g=>(ap k g).imp id (λ⟨a,b,c,d,e⟩=>⟨a,b,c,d,e.2⟩)),q.on,q.d⟩
def Ef(m:RM):Bool:=(m.2.1 == [61,126])||(m.2.1 == [33,126])
def Xj:List RM->Nat
 | []=>0
 | m::M=>if Ef m&&!(gH m.2.2==0) then gH m.2.2 else Xj M
def QA:List RR->Nat->Nat × Nat
 | [],_=>(0,0)
 | r::R,i=>if !(Xj r.ifs==0) then (Xj r.ifs,i+2) else QA R (i+1)
def Ls(w:World)(v:Value)(M:List RM)(D:Nat->Prop):Prop:=∃a cap,v=.slice a M.length cap/\M.length<=cap/\(M.length=0\/∃g cur,a=some (zA g)/\w.heap[g]?=some (.cells cur 137 (0,0)) /\
 ∀k m,M[k]?=some m->cur[k*4]?=some (zT m.1)/\cur[k*4+1]?=some (zT m.2.1)/\cur[k*4+2]?=some (zT m.2.2) /\
  ∃q:Option Addr,cur[k*4+3]?=some (.pointer q)/\(D k->Ef m=true->q≠none)/\(∀p,q=some p->∃n e,p=(zA n)/\fF m.2.2=some e/\RN w n (gW e)))
def Ls.of {base D}(h:VA base w v M)(q:∀k,¬ D k):Ls w v M D:=by
 have r:=h;rcases h.2 with⟨e,i⟩|⟨g,cap,cur,e,hb,b,l,u,t,ht⟩
 .exact⟨none,0,by rw[e,i],by omega,.inl i⟩
 subst e;refine⟨_,cap,rfl,l,.inr ⟨g,cur,rfl,b,λk m n=>?_⟩⟩;have c:∀o,o<4->cur[k*4+o]?=(Ee m)[o]?:=λo ho=>by have f:=flat_get Ee 4 (λa=>rfl) M k o m n ho;have s:o<(Ee m).length:=ho;rw[a0a s]at f |-;have d:=World.ownsRow.cells r (g:=g) rfl (k*4+o) _ f;rw[add0,cell_of_row w g _ cur _ _ b]at d;omega
 refine⟨c 0 (by omega),c 1 (by omega),c 2 (by omega),none,c 3 (by omega),λhd=>absurd hd (q k),λp j=>by simp at j⟩
theorem Ls.aC {D}(h:Ls w v M D)(f:aB [] w w'):Ls w' v M D:=by
 obtain⟨a,cap,t,s,b⟩:=h;refine⟨a,cap,t,s,?_⟩;rcases b with b|⟨g,cur,e,c,j⟩
 .omega
 refine .inr ⟨g,cur,e,(f.block g (a0c.1 c).1 (by simp)).trans c,λk m i=>?_⟩;obtain⟨c0,c1,c2,q,c3,hd,hq⟩:=j k m i;refine⟨c0,c1,c2,q,c3,hd,λp d=>?_⟩;obtain⟨n,e,r,o,l⟩:=hq p d;exact⟨n,e,r,o,RN.aY (dX.of f) l⟩
theorem Ls.mono {D c}(h:Ls w v M D)(l:∀k m,M[k]?=some m->c k->Ef m=true->D k):Ls w v M c:=by
 obtain⟨a,cap,f,d,b⟩:=h;refine⟨a,cap,f,d,?_⟩;rcases b with b|⟨g,cur,e,j,i⟩
 .omega
 grind
def anq {g}(a:w.heap[g]?=some (.cells cur 137 (0,0)))(o u):dX w (w.setCell (zB g o) u) :=
 dX.aC (S:=[g]) (zK.setCell (by simp) _) (λb hb c fz e=>by simp at hb;subst hb;rw[a]at e;simp at e)
def afE {g}(a:w.heap[g]?=some (.cells cur t (0,0)))(o u):(w.setCell (zB g o) u).heap[g]?=some (.cells (cur.setIfInBounds o u) t (0,0)):=by simp[World.setCell,a0v,a]
def afF{g}(o u)(h:k≠g):(w.setCell (zB g o) u).heap[k]?=w.heap[k]?:=by simp[World.setCell,a0v,Ne.symm h]
theorem aqm {a b}(h:(Value.string (bs a))=zT b):a=b:=by grind [aT]
theorem Ls.set {D}(h:Ls w v M D)(f:w.heap[g0]?=some (.cells ahT 137 (0,0)))
 (s:ahT[k0*4+2]?=some (zT s0)) (he:fF s0=some e0) (r:RN w n0 (gW e0)) :
 Ls (w.setCell (zB g0 (k0*4+3)) (zP n0)) v M (λk=>D k\/(v.ownBlock=some g0/\k=k0)):=by
 obtain⟨a,cap,rfl,n,e⟩:=h;refine⟨a,cap,rfl,n,?_⟩;rcases e with e|⟨g,cur,rfl,b,i⟩
 .omega
 have kp:=anq f (k0*4+3) (zP n0);by_cases c:g=g0
 .subst c;rw[f]at b;simp at b;subst b;refine .inr ⟨g,_,rfl,afE f _ _,λk m d=>?_⟩;obtain⟨c0,c1,c2,q,c3,hd,hq⟩:=i k m d;refine⟨?_,?_,?_,?_⟩
  .grind
  .grind
  .grind
  by_cases l:k=k0
  .grind [aqm,RN.aY,RN]
  grind [hd,RN.aY,RN]
 refine .inr ⟨g,cur,rfl,(afF _ _ c).trans b,λk m d=>?_⟩;obtain⟨c0,c1,c2,q,c3,hd,hq⟩:=i k m d;refine⟨c0,c1,c2,q,c3,λh j=>?_,λp o=>?_⟩
 .rcases h with h|⟨h,_⟩
  .exact hd h j
  simp[Value.ownBlock]at h;omega
 grind [RN.aY,RN]
def JN(w:World)(X:List (Nat × iY × RR))(P:Nat->Nat->Prop):Prop:=∀j x,X[j]?=some x->Ls w x.2.1.iJ x.2.2.ifs (P j)
theorem JN.aC {X} {P:Nat->Nat->Prop}(h:JN w X P)(f:aB [] w w'):JN w' X P:=λj x a=>(h j x a).aC f
def QB(X:List (Nat × iY × RR)):LN:=X.filterMap λx=>x.2.1.iJ.ownBlock
def YW {base X}(b:∀x∈X,Dq base w x.1 x.2.1 x.2.2)(a:k∈QB X):base<=k/\∃cur,w.heap[k]?=some (.cells cur 137 (0,0)):=by
 unfold QB at a;rw[List.mem_filterMap]at a;obtain⟨x,c,a⟩:=a;have h:=(b x c).ifs;rcases h.2 with⟨e,_⟩|⟨g,cap,cur,e,hb,d,_⟩
 .rw[e]at a;simp[Value.ownBlock]at a
 rw[e]at a;simp[Value.ownBlock]at a;subst a;exact⟨hb,cur,d⟩
def TI {base X}(b:∀x∈X,Dq base w x.1 x.2.1 x.2.2) {fz}(h:w.heap[k]?=some (.cells cur t fz))(ht:t≠137):k∉QB X:=λd=>by obtain⟨_,c,a⟩:=YW b d;rw[h]at a;simp at a;exact ht a.2.1
theorem JN.set {X} {P:Nat->Nat->Prop}(h:JN w X P){i e}(d:X[i]?=some e)(f:e.2.1.iJ.ownBlock=some g0)
 (q:w.heap[g0]?=some (.cells ahT 137 (0,0))) (n:ahT[k0*4+2]?=some (zT s0)) (he:fF s0=some e0) (g:RN w n0 (gW e0)) :
 JN (w.setCell (zB g0 (k0*4+3)) (zP n0)) X (λa c=>P a c\/(a=i/\c=k0)):=by
 intro j x b;refine((h j x b).set q n he g).mono ?_;intro k m s l r;rcases l with h|⟨p,o⟩
 .exact .inl h
 subst p;rw[d]at b;simp at b;subst b;exact .inr ⟨f,o⟩
def RxQ(w:World)(X:List (Nat × iY × RR))(e:Ending)(w':World):Prop :=
 e=zQ #[zI ((QA (X.map (·.2.2)) 0).1:Nat),zI ((QA (X.map (·.2.2)) 0).2:Nat)]/\aB (QB X) w w'/\((QA (X.map (·.2.2)) 0).1=0->JN w' X (λ_ _=>True))
def inF(M:List RM)(i:Nat)(rest:Nat × Nat):Nat × Nat:=if !(Xj M==0) then (Xj M,i+2) else rest
def anr(m M i rest):inF (m::M) i rest=if Ef m&&!(gH m.2.2==0) then (gH m.2.2,i+2) else inF M i rest:=by
 unfold inF;rw[Xj];cases h:(Ef m&&!(gH m.2.2==0))
 .simp
 simp only[a0G];have:(gH m.2.2==0)=false:=by
  cases a:(gH m.2.2==0)
  .rfl
  rw[a]at h;simp at h
 rw[this];simp
theorem afG(cb base vr vt vl X w)(hc:sw w cb vr vt vl)(hl:LP base w vl (X.map (·.1)))(hx:∀x∈X,Dq base w x.1 x.2.1 x.2.2)
 (iG:∀(i:Nat) x,X[i]?=some x->x.2.1.row=(i:Int)+2) (hX:X.length<=9000) (hi:∀x∈X,x.2.2.ifs.length<=1000/\∀m∈x.2.2.ifs,m.2.2.length<=40) :
 Calls Tryz.prog 31 #[tC cb] w (RxQ w X):=by
 have Bh:=aT;have k1:({ data:=#[61,126] }:ByteArray).toList=[61,126]:=aT _;have k2:({ data:=#[33,126] }:ByteArray).toList=[33,126]:=aT _;have Hc:=aj hc;have Hl:=aj hl;have Hx:=aj hx;have alR:=aj iG;have Hi:=aj hi;obtain⟨al,cl,Af⟩:=aW hl;rw[a0y]at Af;subst Af;have A0:Z_ (JN w X (λj _=>j<0)):=λj x hxj=>Ls.of (hx x (a0B hxj)).ifs (λk=>by omega);obtain⟨d,OJ⟩:∃d,QA (X.map (·.2.2)) 0=d:=⟨_,rfl⟩;have alS:=aj OJ;have TJ:Z_ (∀(e:Ending) (w':World),e=.returned (.tuple #[.int .i64 (d.1:Nat),.int .i64 (d.2:Nat)])->aB (QB X) w w'->(d.1=0->JN w' X (λ_ _=>True))->RxQ w X e w'):=by
  intro e _ G h2 p;unfold RxQ;rw[OJ];exact⟨G,h2,p⟩
 clear hc hl hx iG hi OJ;show Calls Tryz.prog 31 #[.pointer (some ⟨cb,0,none⟩)] w _;go_in;go_wp2_with fail;go_loopg [4] X.length (λk v4 wr=>∃(i:Nat),i+k=X.length/\v4=.int .i64 i/\aB (QB X) w wr/\JN wr X (λj _=>j<i)/\QA ((X.map (·.2.2)).drop i) i=d);case atStart=>exact⟨0,by omega,rfl,aB.refl _ _,A0,by rw[a2j];exact alS⟩
 case round =>
  clear A0 alS;obtain⟨i,_,rfl,B,ha,iD⟩:=hrel;have F:=aj B;have A:=aj ha;have GO:=aj iD;have c2:wr.cell? ⟨cb,2,none⟩=some (.slice al X.length cl):=(Hc.o.aC B (TI Hx.o Hc.o (by decide))).cell 2;have LR:=aj (jJ Hl.o B (λk hk=>.inr (by obtain⟨_,c,h⟩:=YW Hx.o hk;exact⟨c,_,_,h,by decide⟩)));obtain⟨go,Ty⟩:∃go,go=gk:=⟨_,rfl⟩;subst Ty;obtain⟨P,Vg⟩:∃P,P=wr:=⟨_,rfl⟩;subst Vg;clear B ha iD;by_cases aL:i<X.length
  .obtain⟨x,z⟩:∃x,X[i]?=some x:=⟨X[i],a0a aL⟩;have Dr:=a0B z;have t:=aj z;have yS:(X.map (·.1))[i]?=some x.1:=by rw[a0Q,z];rfl
   obtain⟨_,ja,Lt⟩:∃g,al=some ⟨g,0,none⟩/\P.cell? ⟨g,i,none⟩=some (tC x.1):=by
    have h:=LR.o;rcases h.2 with⟨e,h0⟩|⟨g,_,cur,e,hb,hg,_⟩
    .rw[a0y]at h0;omega
    simp[Value.slice.injEq]at e;obtain⟨rfl,_,rfl⟩:=e;refine⟨g,rfl,?_⟩;have p:=World.ownsRow.cells h (g:=g) rfl i (tC x.1) (by rw[a0Q,yS];rfl);rw[add0]at p;exact p
   subst ja;have T:=(Hx.o x Dr).at_;have xZ:Z_ (∀W,aB (QB X) w W->qz W x.1 x.2.1):=λW B=>T.aC B (TI Hx.o T (by decide));obtain⟨ai,ci,Io,hci,V⟩:=A.o i x z;have d5:P.cell? ⟨x.1,5,none⟩=some x.2.1.iJ:=(xZ.o P F).cell 5;rw[Io]at d5;obtain⟨M,hM⟩:∃M,x.2.2.ifs=M:=⟨_,rfl⟩;rw[hM]at d5 Io hci V;have N:=Hi.o x Dr;rw[hM]at N;obtain⟨nM,J⟩:∃n,n=M.length:=⟨_,rfl⟩;rw[<-J]at d5 Io hci V;have C:=aj J;have zX:nM<=1000:=by rw[J];exact N.1
   have awS:=aj N.2;have D:=aj Io;obtain⟨f,U⟩:∃r,QA ((X.map (·.2.2)).drop (i+1)) (i+1)=r:=⟨_,rfl⟩;have au3:=aj U;have HM:=aj hM;have G0:Z_ (inF (M.drop 0) i f=d):=by
    show _=_;have e:(X.map (·.2.2)).drop i=x.2.2::(X.map (·.2.2)).drop (i+1):=by
     rw[a0k (by simpa using aL)];have:=(a0d.1 z).2;simp[this]
    have:=GO.o;rw[e,QA,hM,U]at this;rw[a2j];exact this
   have A1:Z_ (JN P X (λa c=>a<i\/(a=i/\c<0))):=λa y s=>(A.o a y s).mono (λk m _ h _=>by
    rcases h with h|⟨_,h⟩
    .exact h
    omega)
   clear V J N Io U hM yS Dr z T LR GO A;obtain⟨b,hb⟩:∃b,b=x.1:=⟨_,rfl⟩;unfold tC at Lt;rw[<-hb]at Lt d5 xZ;clear hb;have DD:Z_ (∀W,aB (QB X) w W->W.cell? ⟨b,5,none⟩=some (.slice ai nM ci)/\W.cell? ⟨b,9,none⟩=some (.int .i64 ((i:Int)+2))):=by
    intro W B;refine⟨((xZ.o W B).cell 5).trans ?_,((xZ.o W B).cell 9).trans ?_⟩
    .rw[<-D.o];rfl
    have:=alR.o i x t;rw[<-this];rfl
   go_wp2_with fail;go_loopg [6] nM (λk v6 wr=>∃(j:Nat),j+k=nM/\v6=.int .i64 j/\aB (QB X) w wr/\JN wr X (λa c=>a<i\/(a=i/\c<j))/\inF (M.drop j) i f=d);case atStart=>exact⟨0,by omega,rfl,F,A1,G0⟩
   case round =>
    clear A1 G0 F c2 Lt d5;obtain⟨j,_,rfl,B,ha,iD⟩:=hrel;have F:=aj B;have A:=aj ha;have GO:=aj iD;obtain⟨_,_⟩:=DD.o wr B;clear B ha iD;by_cases ng:j<nM
    .obtain⟨m,hm⟩:∃m,M[j]?=some m:=⟨M[j]'(by have:=C.o;omega),a0a (by have:=C.o;omega)⟩;have Ez:=awS.o m (a0B hm);obtain⟨g,cur,L,hg,aO⟩:∃g cur,ai=some ⟨g,0,none⟩/\wr.heap[g]?=some (.cells cur 137 (0,0))/\(cur[j*4+1]?=some (.string (bs m.2.1))/\cur[j*4+2]?=some (.string (bs m.2.2))/\∃q:Option Addr,cur[j*4+3]?=some (.pointer q)):=by
      obtain⟨_,_,e1,_,p⟩:=A.o i x t;rw[D.o,HM.o,<-C.o]at e1;simp only[Value.slice.injEq]at e1;rcases p with p|⟨g,cur,e2,h4,h5⟩
      .rw[HM.o]at p;have:=C.o;omega
      obtain⟨_,h6,h7,q,h8,_⟩:=h5 j m (by rw[HM.o];exact hm);exact⟨g,cur,e1.1.trans e2,h4,h6,h7,q,h8⟩
     subst L;obtain⟨k1',R,q,k3'⟩:=aO;have m1:wr.cell? ⟨g,j*4+1,none⟩=some (.string (bs m.2.1)):=by rw[cell_of_row wr g _ cur _ _ hg];exact k1'
     have m2:wr.cell? ⟨g,j*4+2,none⟩=some (.string (bs m.2.2)):=by rw[cell_of_row wr g _ cur _ _ hg];exact R
     have GS:=anr m (M.drop (j+1)) i f;have Yz:M.drop j=m::M.drop (j+1):=by
      have G:=(a0d.1 hm).1;rw[a0k G,(a0d.1 hm).2]
     rw[<-Yz,GO.o]at GS;have l:=aj GS;have HG:=aj hg;have K2:=aj R;have K3:=aj k3';have HMJ:=aj hm;have atO:=(a0c.1 hg).1;obtain⟨bK,sg,val⟩:=m;simp only at m1 m2 Ez K2 l;clear hm Yz GS GO hg k1' R k3';cases nC:(sg == [61,126])
     case false =>
      cases qj:(sg == [33,126])
      case false =>
       have u:Z_ (inF (M.drop (j+1)) i f=d):=by
        show _=_;have:=l.o;simp only[Ef,nC,qj,Bool.or_false,Bool.false_and,a0A,a0I]at this;exact this.symm
       have E:Z_ (JN wr X (λa c=>a<i\/(a=i/\c<j+1))):=λa y s=>(A.o a y s).mono (λk m' H h hr=>by
        rcases h with h|⟨G,h2⟩
        .exact .inl h
        refine .inr ⟨G,?_⟩;rcases a2a k j with p|p
        .exact p
        exfalso;have hkj:k=j:=by omega
        subst hkj G;rw[t.o]at s;simp at s;subst s;rw[HM.o,HMJ.o]at H;simp at H;subst H;simp[Ef,nC,qj]at hr)
       clear l;go_wp2;go_roundg (gk-1);case measure=>omega
       case rel=>exact⟨j+1,by omega,by go_num,F,E,u⟩
      case true =>
       have S:Z_ (Ef (bK,sg,val)=true):=by show _=_;simp[Ef,nC,qj]
       have NR:=aj (Xg val wr Ez);go_wp2_with fail;refine(NR.o).mono ?_;rintro e v ⟨O,q2,rfl,jk⟩;have F2:=aj (F.o.trans O.nil);have E:=aj (A.o.aC O);have Y:=aj jk;have I:v.heap[g]?=some (.cells cur 137 (0,0)):=(O.block g atO (by simp)).trans HG;have m3:v.cell? ⟨g,j*4+3,none⟩=some (.pointer q):=by rw[cell_of_row v g _ cur _ _ I];exact K3
       have z3:v.frozen? ⟨g,j*4+3,none⟩=false:=by simp[World.frozen?,I]
       have e9:=(DD.o v F2).2;have Z:=aj I;clear I O jk NR;by_cases hz:gH val=0
       .obtain⟨x1,n1,CG,hq,uT⟩:=Y.o hz;subst hq;have A3:=aj (E.o.set t.o (by rw[D.o];rfl) Z.o K2.o CG uT);have u:Z_ (inF (M.drop (j+1)) i f=d):=by
         show _=_;have:=l.o;rw[hz]at this;simp only[a3d,a2O,Bool.and_false,a0A,a0I]at this;exact this.symm
        have GM:Z_ (g∈QB X):=by
         show _∈_;unfold QB;exact List.mem_filterMap.2 ⟨x,a0B t,by rw[D.o];rfl⟩
        have A4:Z_ (JN (v.setCell ⟨g,j*4+3,none⟩ (.pointer (some ⟨n1,0,none⟩))) X (λa c=>a<i\/(a=i/\c<j+1))):=λa y s=>(A3.o a y s).mono (λk m' _ h _=>by
         rcases h with h|⟨G,h2⟩
         .exact .inl (.inl h)
         rcases a2a k j with p|p
         .exact .inl (.inr ⟨G,p⟩)
         exact .inr ⟨G,by omega⟩)
        rw[hz];clear l Y A3 E hz CG uT;go_wp2;go_roundg (gk-1);case measure=>omega
        case rel=>exact⟨j+1,by omega,by go_num,F2.o.setCell (.inl GM.o) _,A4,u⟩
       have u:Z_ (d=(gH val,i+2)):=by
        show _=_;have:=l.o;rw[S.o,a0j.2 hz]at this;exact this
       have bJ:((gH val:Int)==0)=false:=a0j.2 (by omega);have HZ:=aj hz;clear l Y E hz;generalize gH val=rc at *;go_wp2_with fail;go_quiet (fail);go_wp2;go_ret2;refine TJ.o _ _ (by rw[u.o];rfl) (F2.o.drewN _) (λh=>?_);rw[u.o]at h;exact absurd h HZ
     case true =>
      have S:Z_ (Ef (bK,sg,val)=true):=by show _=_;simp[Ef,nC]
      have NR:=aj (Xg val wr Ez);go_wp2_with fail;refine(NR.o).mono ?_;rintro e v ⟨O,_,rfl,jk⟩;have F2:=aj (F.o.trans O.nil);have E:=aj (A.o.aC O);have Y:=aj jk;have I:v.heap[g]?=some (.cells cur 137 (0,0)):=(O.block g atO (by simp)).trans HG;have m3:v.cell? ⟨g,j*4+3,none⟩=some (.pointer q):=by rw[cell_of_row v g _ cur _ _ I];exact K3
      have z3:v.frozen? ⟨g,j*4+3,none⟩=false:=by simp[World.frozen?,I]
      have e9:=(DD.o v F2).2;have Z:=aj I;clear I O jk NR;by_cases hz:gH val=0
      .obtain⟨_,n1,CG,hq,uT⟩:=Y.o hz;subst hq;have A3:=aj (E.o.set t.o (by rw[D.o];rfl) Z.o K2.o CG uT);have u:Z_ (inF (M.drop (j+1)) i f=d):=by
        show _=_;have:=l.o;rw[hz]at this;simp only[a3d,a2O,Bool.and_false,a0A,a0I]at this;exact this.symm
       have GM:Z_ (g∈QB X):=by
        show _∈_;unfold QB;exact List.mem_filterMap.2 ⟨x,a0B t,by rw[D.o];rfl⟩
       have A4:Z_ (JN (v.setCell ⟨g,j*4+3,none⟩ (.pointer (some ⟨n1,0,none⟩))) X (λa c=>a<i\/(a=i/\c<j+1))):=λa y s=>(A3.o a y s).mono (λk m' _ h _=>by
        rcases h with h|⟨G,_⟩
        .exact .inl (.inl h)
        rcases a2a k j with p|p
        .exact .inl (.inr ⟨G,p⟩)
        exact .inr ⟨G,by omega⟩)
       rw[hz];clear l Y A3 E hz CG uT;go_wp2;go_roundg (gk-1);case measure=>omega
       case rel=>exact⟨j+1,by omega,by go_num,F2.o.setCell (.inl GM.o) _,A4,u⟩
      have u:Z_ (d=(gH val,i+2)):=by
       show _=_;have:=l.o;rw[S.o,a0j.2 hz]at this;exact this
      have bJ:((gH val:Int)==0)=false:=a0j.2 (by omega);have HZ:=aj hz;clear l Y E hz;generalize gH val=rc at *;go_wp2_with fail;go_quiet (fail);go_wp2;go_ret2;refine TJ.o _ _ (by rw[u.o];rfl) (F2.o.drewN _) (λh=>?_);rw[u.o]at h;exact absurd h HZ
    have u:Z_ (f=d):=by
     show _=_;have:=GO.o;rw[a0i (by have:=C.o;omega)]at this;exact this
    have E:Z_ (JN wr X (λa _=>a<i+1)):=λa y s=>(A.o a y s).mono (λk m' H h hr=>by
     rcases a2a a i with p|p
     .exact .inl p
     have L:a=i:=by omega
     refine .inr ⟨L,?_⟩;subst L;rw[t.o]at s;simp at s;subst s;have:=(a0d.1 H).1;rw[HM.o]at this;have:=C.o;omega)
    go_wp2;go_roundg (go-1);case measure=>omega
    case rel=>exact⟨i+1,by omega,by go_num,F,E,by rw[au3.o];exact u⟩
  have u:Z_ (d=(0,0)):=by
   show _=_;rw[<-GO.o,a0i (by simp;omega)];rfl
  have E:Z_ (JN P X (λ_ _=>True)):=λa y s=>(A.o a y s).mono (λk m' _ _ _=>by
   have:=(a0d.1 s).1;omega)
  go_wp2;go_ret2;exact TJ.o _ _ (by rw[u.o];rfl) F.o (λ_=>E)
def nmV(l:LB):Nat:=l.foldl (λv x=>v*256+x.toNat) 0
def nb:Nat->Nat->LB
 | 0,_=>[]
 | n+1,v=>nb n (v / 256)++[UInt8.ofNat (v % 256)]
theorem bz:∀n v,(nb n v).length=n
 | 0,_=>rfl
 | n+1,v=>by rw[nb,a0p,bz n];rfl
theorem axw(l x):nmV (l++[x])=nmV l*256+x.toNat:=by simp[nmV]
theorem azY:∀n l,l.length=n->nmV l<256 ^ n
 | 0,l,h=>by rw[List.length_eq_zero_iff.1 h];decide
 | n+1,l,h=>by
   obtain⟨r,x,rfl⟩:∃r x,l=r++[x]:=by
    rcases List.eq_nil_or_concat l with e|⟨r,x,e⟩
    .rw[e]at h;simp at h
    grind
   have a:=x.toNat_lt;have:=azY n r (by simp at h;omega);rw[axw,Nat.pow_succ];omega
theorem pN {l:List α} {f}(h:j<l.length):(l.drop j).flatMap f++R=f l[j]++((l.drop (j+1)).flatMap f++R):=by rw[a0k h,a1i,a0M]
theorem wS {l:List α} {f}(h:¬ j<l.length):(l.drop j).flatMap f++R=R:=by rw[a0i (by omega)];rfl
abbrev PT(α:Type):Type:=LB->Option (α × LB)
structure gz where
 k:Nat
 cl:LN
 acc:LN
 nx:LN
structure jd where
 n:Nat
 k:Nat
 x:Nat
def aqt:List LB->Bool
 | []=>true
 | [_]=>true
 | a::b::l=>Op.bytesLess a b&&aqt (b::l)
structure kN where
 rc:LB
 bl:List LB
 wt:Nat
 ev:Nat
 rp:Nat
structure bX where
 op:Nat
 x:Nat
 a:Nat
 b:Nat
def stands(nr nt n i:Nat)(c:bX):Bool :=
 match c.op with
 | 0=>c.x==0&&c.a==0&&c.b==0
 | 1=>decide (c.x<nr)&&(decide (i<c.a)&&decide (c.a<n))&&c.b==0
 | 2=>decide (c.x<nt)&&(decide (i<c.a)&&decide (c.a<n))&&(decide (i<c.b)&&decide (c.b<n))
 | _=>false
structure mP where
 names:List LB
 consts:List LB
 zg:List gz
 tests:List jd
 q9:List kN
 code:List bX
def I4:LB:=[79,66,49]
def eT(t:LB):LB:=nb 1 t.length++t
def We(l:List LB):LB:=nb 1 l.length++l.flatMap eT
def eA(a:gz):LB:=nb 1 a.acc.length++(nb 2 a.k++(a.cl.flatMap (nb 1)++(a.acc.flatMap (nb 1)++a.nx.flatMap (nb 1))))
def pR(t:jd):LB:=nb 1 t.n++(nb 1 t.k++nb 1 t.x)
def eH(h:kN):LB:=eT h.rc++(We h.bl++(nb 3 h.wt++(nb 3 h.ev++nb 3 h.rp)))
def eI(c:bX):LB:=nb 1 c.op++(nb 1 c.x++(nb 2 c.a++nb 2 c.b))
def eM(m:mP):LB:=I4++(We m.names++(We m.consts++((nb 1 m.zg.length++m.zg.flatMap eA)++((nb 1 m.tests.length++m.tests.flatMap pR)++((nb 1 m.q9.length++m.q9.flatMap eH)++(nb 2 m.code.length++m.code.flatMap eI))))))
def Bo(n:LB):Prop:=n.length<9/\aJ n=true
structure Mo(a:gz):Prop where
 s1:1<=a.acc.length
 s2:a.acc.length<=40
 k1:1<=a.k
 k2:a.k<=256
 cl:a.cl.length=256
 cls:∀c∈a.cl,c<a.k
 acc:∀c∈a.acc,c<2
 nx:a.nx.length=a.acc.length*a.k
 nxs:∀c∈a.nx,c<a.acc.length
structure Lu(nn nc na:Nat)(t:jd):Prop where
 n:t.n<nn
 k:t.k<2
 x:t.x<if t.k=1 then na else nc
structure afH(h:kN):Prop where
 rc:Bo h.rc
 b1:h.bl.length<5
 b2:∀n∈h.bl,Bo n
 wt:h.wt<100000
 ev:h.ev<100000
 rp:h.rp<100000
structure awT(nr nt n i:Nat)(c:bX):Prop where
 s:stands nr nt n i c=true
 op:c.op<3
 x:c.x<256
 a:c.a<65536
 b:c.b<65536
structure MOK(m:mP):Prop where
 names:m.names.length<256/\∀n∈m.names,Bo n
 consts:m.consts.length<256/\∀n∈m.consts,n.length<41
 zg:m.zg.length<256/\∀a∈m.zg,Mo a
 tests:m.tests.length<256/\∀t∈m.tests,Lu m.names.length m.consts.length m.zg.length t
 q9:m.q9.length<17/\∀h∈m.q9,afH h
 code:1<=m.code.length/\m.code.length<65536/\∀j (h:j<m.code.length),awT m.q9.length m.tests.length m.code.length j m.code[j]
def yC(a:gz)(s:Nat):LB->Nat
 | []=>s
 | b::v=>yC a (a.nx.getD (s*a.k+a.cl.getD b.toNat 0) 0) v
def Jz(m:mP)(v:LB)(t:jd):Bool :=
 if t.k=0 then v==m.consts.getD t.x [] else (m.zg.getD t.x ⟨0,[],[],[]⟩).acc.getD (yC (m.zg.getD t.x ⟨0,[],[],[]⟩) 0 v) 0==1
def runM(m:mP)(V:LB->LB):Nat->Nat->LN
 | 0,_=>[]
 | n+1,k=>match m.code[k]? with
   | some c=>match c.op with
     | 0=>[]
     | 1=>c.x::runM m V n c.a
     | _=>match m.tests[c.x]? with
       | some t=>runM m V n (if Jz m (V (m.names.getD t.n [])) t then c.a else c.b)
       | none=>[]
   | none=>[]
def RW(A:LN)(k:Nat)(w:World)(v:Value)(vs:List (List Value)):Prop :=
 ∃a cap,v=.slice a vs.length cap/\vs.length<=cap/\∀(j:Nat) (h:j<vs.length),∃g off,a=some (zB g off)/\g∉A/\g<w.heap.size/\∀c x,vs[j][c]?=some x->w.cell? (zB g (off+j*k+c))=some x
theorem RW.aC(h:RW A k w v vs)(f:aB S w w')(m:∀g∈S,g∈A):RW A k w' v vs:=by obtain⟨a,cap,rfl,q,o⟩:=h;refine⟨a,cap,rfl,q,λj l=>?_⟩;obtain⟨g,off,rfl,d,b,n⟩:=o j l;exact⟨g,off,rfl,d,a0t b f.size,λc x e=>(f.cell (p:=(zB g (off+j*k+c))) b (λi=>d (m g i))).trans (n c x e)⟩
theorem RW.grown {row}(h:RW A k w v vs)(b:w.grownBy w' row)(a:∀r,row=some r->r∈A):RW A k w' v vs :=
 h.aC (S:=A) ((aB.refl A w).grown b (λr e=>.inl (a r e))) (λ_ h=>h)
def RW.cO(h:RW A k w v vs)(d:∀g∈B,g∈A\/w.heap.size<=g):RW B k w v vs:=by
 obtain⟨a,cap,rfl,m,l⟩:=h;refine⟨a,cap,rfl,m,λj c=>?_⟩;obtain⟨g,off,rfl,i,f,e⟩:=l j c;refine⟨g,off,rfl,λb=>?_,f,e⟩;rcases d g b with h|h
 .exact i h
 omega
theorem RW.nil(A k w):RW A k w zN []:=⟨none,0,rfl,a0b _,λj a=>absurd a (by simp)⟩
def OW(e:TypeId)(k base:Nat)(w:World)(v:Value)(vs:List (List Value)):Prop:=w.ownsRow base e k v vs.length vs.flatten/\∀x∈vs,x.length=k
theorem OW.nil(e k base w):OW e k base w zN []:=⟨World.ownsRow_nil w base e k,by simp⟩
theorem OW.aC{base}(h:OW e k base w v vs)(f:aB S w w')(a:∀g∈S,g<base):OW e k base w' v vs:=⟨fG h.1 f a,h.2⟩
theorem OW.shape{base}(h:OW e k base w v vs):∃a cap,v=.slice a vs.length cap:=by
 rcases h.1.2 with⟨e,b⟩|⟨g,cap,cur,e,_⟩
 .grind
 exact⟨_,_,e⟩
theorem OW.lt{base}(h:OW e k base w v vs) {g}(a:v.ownBlock=some g):base<=g/\g<w.heap.size:=h.1.lt g a
def OW.empty(e k base)(w:World)(hb:base<=w.heap.size):OW e k base (w.alloc (.cells #[] e)) (zS w.heap.size 0 0) []:=by refine⟨⟨by simp,.inr ⟨w.heap.size,0,#[],rfl,hb,?_,a0b _,by omega,by simp,by simp⟩⟩,by simp⟩;show(w.heap.push (.cells #[] e))[w.heap.size]?=_;simp
theorem abr:∀(vs:List (List Value)),(∀x∈vs,x.length=k)->∀j (h:j<vs.length) c x,vs[j][c]?=some x->vs.flatten[j*k+c]?=some x
 | [],_,j,h,_,_,_=>absurd h (by simp)
 | y::vs,a,0,_,c,x,b=>by grind
 | y::vs,a,j+1,h,c,x,b=>by have d:=a y (by simp);have e:(j+1)*k=j*k+k:=Nat.succ_mul j k;rw[List.flatten_cons,a0K (by omega),show(j+1)*k+c-y.length=j*k+c by omega];exact abr vs (λz hz=>a z (by simp[hz])) j (by simpa using h) c x (by simpa using b)
theorem OW.rw{base}(h:OW e k base w v vs)(i:∀g,v.ownBlock=some g->g∉A):RW A k w v vs:=by
 rcases h.1.2 with⟨rfl,n⟩|⟨g,cap,cur,rfl,hb,f,b,m,l,ht⟩
 .grind [RW.nil,RW]
 refine⟨_,cap,rfl,b,λj d=>⟨g,0,rfl,i g rfl,(a0c.1 f).1,λc x a=>?_⟩⟩;have:=World.ownsRow.cells h.1 rfl (j*k+c) x (abr vs h.2 j d c x a);rwa [add0,show j*k+c=0+j*k+c by omega]at this
def kg {z}(h:(Tryz.prog.info? e).map (λi=>(i.zero,i.size,i.bytes))=some (some z,k,b)):∃i,Tryz.prog.info? e=some i/\i.zero=some z/\i.size=k/\i.bytes=b:=by simp_all
theorem qD {o} {Q:Exit->Act->World->Prop}(w)(m:o.guard=none)(s x t e z k c)
 (I:(Tryz.prog.info? e).map (λi=>(i.zero,i.size,i.bytes))=some (some z,k,c)) (ht:Tryz.prog.underlying t=some (.slice e)) (H:z.cells.size=k) (G:0<k)
 (ho:o.op=.call { callee:=.builtin .append,args:=#[s,x],argTypes:=#[t,t] })
 (base v vs b1 cs) (r:a.eval s=v) (f:OW e k base w v vs) (p:a.eval x=zS b1 1 1)
 (d:cs.length=k) (J:∀j u,cs[j]?=some u->zC w b1 j u) (q:∀u∈cs,u.oneCell'=true) (hlen:(vs.length+1)*c<=140737488355328) (M:vs.length<=140737488355328) (l:base<=w.heap.size)
 (h:∀g cap w',OW e k base w' (zS g (vs.length+1) cap) (vs++[cs])->w.grownBy w' v.ownBlock->(v.ownBlock=some g\/g=w.heap.size)->g<w'.heap.size->wpList Tryz.prog ops Q rest (a.put o.dst (zS g (vs.length+1) cap)) w') :
 wpList Tryz.prog ops Q (o::rest) a w:=by
 obtain⟨n,A,gT,F,E⟩:=kg I;refine wpList_append_lies w m s x t ho base e n z k c ht A gT F E H G v vs.length vs.flatten r f.1 (zA b1) 1 1 cs p (by omega) ?_ q (by decide) (by unfold maxLen;omega) hlen l w.heap.size rfl ?_
 .grind [add0]
 intro g cap w' L D C B;refine h g cap w' ⟨?_,?_⟩ D C B
 .grind
 intro y b;rw[a0e,a0w]at b;rcases b with b|rfl
 .exact f.2 y b
 omega
structure V6 where
 n:Value
 c:Value
 a:Value
 t:Value
 r:Value
 i:Value
def sc(L:List LB):List (List Value):=L.map λs=>[zT s]
theorem abt(L s):sc L++[[zT s]]=sc (L++[s]):=by simp[sc]
theorem iC(L):(sc L).length=L.length:=by simp[sc]
theorem ant {o} {Q:Exit->Act->World->Prop}(w)(d:o.guard=none)(s x)
 (ho:o.op=.call { callee:=.builtin .append,args:=#[s,x],argTypes:=#[46,46] })
 (base v acc b1 y) (f:a.eval s=v) (j:OW 9 1 base w v (sc acc)) (e:a.eval x=zS b1 1 1)
 (k:zC w b1 0 (zT y)) (hlen:acc.length<=1000000) (c:base<=w.heap.size)
 (h:∀g cap w',OW 9 1 base w' (zS g (acc.length+1) cap) (sc (acc++[y]))->w.grownBy w' v.ownBlock->(v.ownBlock=some g\/g=w.heap.size)->g<w'.heap.size->wpList Tryz.prog ops Q rest (a.put o.dst (zS g (acc.length+1) cap)) w') :
 wpList Tryz.prog ops Q (o::rest) a w:=by
 have i:=iC acc;refine qD _ d _ _ _ _ _ _ _ uY Tryz.underlying46 rfl (by decide) ho _ _ _ _ [zT y] f j e rfl ?_ ?_ (by omega) (by omega) c ?_
 .grind
 .intro u b;simp at b;subst b;rfl
 rw[i,abt];omega
theorem aB.over{T a b c}(h:aB T a b)(k:aB S b c)(j:∀x∈S,a.heap.size<=x\/x∈T):aB T a c :=
 ⟨k.os.trans h.os,k.tape.trans h.tape,k.output.trans h.output,a0h h.size k.size,λi e f=>by rw[k.block i (a0t e h.size) (λg=>by rcases j i g with d|d;exact absurd d (by omega);exact f d)];exact h.block i e f⟩
def bc(L:LN):List (List Value):=L.map λa=>[.bool (a==1)]
def ic(L:LN):List (List Value):=L.map λ(n:Nat)=>[zI n]
theorem aqp(L s):ic L++[[zI (s:Nat)]]=ic (L++[s]):=by simp[ic]
theorem afI(L):(bc L).length=L.length:=by simp[bc]
theorem TM(L):(ic L).length=L.length:=by simp[ic]
theorem anu {o} {Q:Exit->Act->World->Prop}(w)(d:o.guard=none)(s x)
 (ho:o.op=.call { callee:=.builtin .append,args:=#[s,x],argTypes:=#[63,63] })
 (base v acc b1 y) (f:a.eval s=v) (j:OW 3 1 base w v (ic acc)) (e:a.eval x=zS b1 1 1)
 (k:zC w b1 0 (zI (y:Nat))) (hlen:acc.length<=1000000) (c:base<=w.heap.size)
 (h:∀g cap w',OW 3 1 base w' (zS g (acc.length+1) cap) (ic (acc++[y]))->w.grownBy w' v.ownBlock->(v.ownBlock=some g\/g=w.heap.size)->g<w'.heap.size->wpList Tryz.prog ops Q rest (a.put o.dst (zS g (acc.length+1) cap)) w') :
 wpList Tryz.prog ops Q (o::rest) a w:=by
 have i:=TM acc;refine qD _ d _ _ _ _ _ _ _ ZB Tryz.underlying63 rfl (by decide) ho _ _ _ _ [zI (y:Nat)] f j e rfl ?_ ?_ (by omega) (by omega) c ?_
 .grind
 .intro u b;simp[a0w]at b;subst b;rfl
 rw[i,aqp];omega
theorem OW.grown{base row}(h:OW e k base w v vs)(d:w.grownBy w' row)(b:∀r,v.ownBlock=some r->row≠some r):OW e k base w' v vs:=by
 refine⟨⟨h.1.1,?_⟩,h.2⟩;rcases h.1.2 with c|⟨g,cap,cur,rfl,hb,a,rest⟩
 .exact .inl c
 exact .inr ⟨g,cap,cur,rfl,hb,(d.block g (a0c.1 a).1 (λe=>b g rfl e.symm)).trans a,rest⟩
theorem OW.aY{base}(h:OW e k base w v vs)(f:aB S w w')(c:∀r,v.ownBlock=some r->r∉S):OW e k base w' v vs:=by
 refine⟨⟨h.1.1,?_⟩,h.2⟩;rcases h.1.2 with b|⟨g,cap,cur,rfl,hb,a,rest⟩
 .exact .inl b
 exact .inr ⟨g,cap,cur,rfl,hb,(f.block g (a0c.1 a).1 (c g rfl)).trans a,rest⟩
theorem OW.base{base b2}(h:OW e k base w v vs)(hb:b2<=base):OW e k b2 w v vs:=by
 refine⟨⟨h.1.1,?_⟩,h.2⟩;rcases h.1.2 with a|⟨g,cap,cur,rfl,b,rest⟩
 .exact .inl a
 exact .inr ⟨g,cap,cur,rfl,by omega,rest⟩
theorem CU {o} {K:Act->World->Prop} {Q:Exit->Act->World->Prop}(w)(l:o.guard=none)(s x t e z k c)
 (I:(Tryz.prog.info? e).map (λi=>(i.zero,i.size,i.bytes))=some (some z,k,c)) (ht:Tryz.prog.underlying t=some (.slice e)) (G:z.cells.size=k) (F:0<k)
 (ho:o.op=.call { callee:=.builtin .append,args:=#[s,x],argTypes:=#[t,t] })
 (base v vs b1 cs fr) (p:a.eval s=v) (d:OW e k base w v vs) (n:a.eval x=zS b1 1 1)
 (f:cs.size=k) (hb:w.heap[b1]?=some (.cells cs e fr)) (J:cs.all (·.oneCell')=true) (hlen:(vs.length+1)*c<=140737488355328) (M:vs.length<=140737488355328) (j:base<=w.heap.size) (H) (r:w.heap.size=H)
 (h:∀g cap w',OW e k base w' (zS g (vs.length+1) cap) (vs++[cs.toList])->w.grownBy w' v.ownBlock->(v.ownBlock=some g\/g=H)->g<w'.heap.size->K (a.put o.dst (zS g (vs.length+1) cap)) w') :
 if Region.wanted o (yielded ops a.tmps)=true then Oper.wp Tryz.prog o a w K Q else E:=by
 obtain⟨m,q,gT,D,C⟩:=kg I;refine step_append_lies w l s x t ho base e m z k c ht q gT D C G F v vs.length vs.flatten p d.1 (zA b1) 1 1 cs.toList n (by rw[a3o,f];omega) (World.news_of_block hb) ?_ (by decide) (by unfold maxLen;omega) hlen j H r ?_
 .grind [Array.all_eq_true_iff_forall_mem]
 intro g cap w' L B A u;refine h g cap w' ⟨?_,?_⟩ B A u
 .grind
 intro y b;rw[a0e,a0w]at b;rcases b with b|rfl
 .exact d.2 y b
 grind
def kV(x:jd):Array Value:=#[zI (x.n:Nat),zI (x.k:Nat),zI (x.x:Nat)]
def tc(L:List jd):List (List Value):=L.map λx=>(kV x).toList
def akj(x):(kV x).all (·.oneCell')=true:=by simp[kV,Value.oneCell']
theorem YX(L):(tc L).length=L.length:=by simp[tc]
theorem aqr(L x):tc L++[(kV x).toList]=tc (L++[x]):=by simp[tc]
def anv:(Tryz.prog.info? 102).map (λi=>(i.zero,i.size,i.bytes))=some (some (.agg #[zI 0,zI 0,zI 0]),3,24):=by kernel_rfl
structure TQ(α:Type) where
 rel:LN->World->Array Value->α->Prop
 aC:∀{A S:LN} {w w':World} {cs:Array Value} {x:α},rel A w cs x->aB S w w'->(∀g∈S,g∈A)->rel A w' cs x
 cO:∀{A B:LN} {w:World} {cs:Array Value} {x:α},rel A w cs x->(∀g∈B,g∈A\/w.heap.size<=g)->rel B w cs x
def dV{α}(I:TQ α)(A:LN)(w:World)(a:List (Array Value))(xs:List α):Prop:=a.length=xs.length/\∀(n:Nat) cs x,a[n]?=some cs->xs[n]?=some x->I.rel A w cs x
theorem dV.nil(I:TQ α)(A w):dV I A w [] []:=⟨rfl,λn cs x h=>by simp at h⟩
theorem dV.aC {I:TQ α} {a xs}(h:dV I A w a xs)(f:aB S w w')(b:∀g∈S,g∈A):dV I A w' a xs:=⟨h.1,λn cs x d c=>I.aC (h.2 n cs x d c) f b⟩
def dV.cO {I:TQ α} {a xs}(h:dV I A w a xs)(b:∀g∈B,g∈A\/w.heap.size<=g):dV I B w a xs:=⟨h.1,λn cs x d c=>I.cO (h.2 n cs x d c) b⟩
theorem dV.snoc {I:TQ α} {e xs cs} {x:α}(h:dV I A w e xs)(f:I.rel A w cs x):dV I A w (e++[cs]) (xs++[x]):=by
 refine⟨by simp[h.1],λn c y d b=>?_⟩;rcases Nat.lt_trichotomy n e.length with a|a|a
 .rw[a0s a]at d;rw[a0s (by rw[<-h.1];exact a)]at b;exact h.2 n c y d b
 .subst a;rw[a0K (a0b _)]at d;rw[a0K (by rw[h.1];exact a0b _),h.1]at b;simp at d b;subst d b;exact f
 grind
theorem dV.app {I:TQ α} {g row b xs}(h:dV I (A++row.toList) w b xs)(c:w.grownBy w' row)(i:row=some g\/g=w.heap.size):dV I (A++[g]) w' b xs:=by
 have f:dV I (A++(g::row.toList)) w b xs:=h.cO (by
  intro x a;simp at a;rcases a with a|rfl|a
  .left;simp[a]
  .grind
  left;simp[a])
 have d:dV I (A++(g::row.toList)) w' b xs:=f.aC ((aB.refl row.toList w).grown c (λr e=>.inl (by simp[e]))) (by intro x a;simp at a;simp[a]);exact d.cO (by intro x a;left;simp at a |-;rcases a with a|a<;>simp[a])
def fZ(a:List (Array Value)):List (List Value):=a.map (·.toList)
theorem jA(a):(fZ a).length=a.length:=by simp[fZ]
theorem Gi(a c):fZ a++[c.toList]=fZ (a++[c]):=by simp[fZ]
def Lv(x:gz)(b a:Value):Array Value:=(Value.int .i64 x.k::(nv .u8 x.cl++[b,a])).toArray
def adY:TQ gz where
 rel A w cs x:=∃b a,cs=Lv x b a/\RW A 1 w b (bc x.acc)/\RW A 1 w a (ic x.nx)
 aC:=by rintro A S w w' cs x ⟨b,a,e,d,c⟩ f g;exact⟨b,a,e,d.aC f g,c.aC f g⟩
 cO:=by rintro A B w cs x ⟨b,a,e,d,c⟩ h;exact⟨b,a,e,d.cO h,c.cO h⟩
def ahU:(Tryz.prog.info? 100).map (λi=>(i.zero,i.size,i.bytes))=some (some (.agg Tryz.zeroCells100),259,312):=by kernel_rfl
def Lx {o} {K:Act->World->Prop} {Q:Exit->Act->World->Prop}(w)(b:o.guard=none)(x)(ho:o.op=.load 100 x)(g)(c:a.eval x=zP g)(cs)(e:(loadVar 100 (zA g)).run Tryz.prog w=.ok (.agg cs) w)(h:K (a.put o.dst (.agg cs)) w) :
 if Region.wanted o (yielded ops a.tmps)=true then Oper.wp Tryz.prog o a w K Q else E:=by
 have d:Region.wanted o (yielded ops a.tmps)=true:=by simp[Region.wanted,b]
 rw[a0m d];exact H9 x ho g c cs e h
def AA {o} {K:Act->World->Prop} {Q:Exit->Act->World->Prop}(w)(d:o.guard=none)(x)(ho:o.op=.buildSlice 47 1 #[(0,x)])(cs)(g:a.eval x=.agg cs)(j:cs.size=259)(h:K (a.put o.dst (zS w.heap.size 1 1)) (w.alloc (.cells cs 100))) :
 if Region.wanted o (yielded ops a.tmps)=true then Oper.wp Tryz.prog o a w K Q else E:=by
 have i:Region.wanted o (yielded ops a.tmps)=true:=by simp[Region.wanted,d]
 rw[a0m i];obtain⟨f,k,gT,b,m⟩:=kg ahU;refine wp_buildSlice 47 100 1 _ ho cs f _ Tryz.underlying47 k gT (by omega) (by omega) ?_ h;have e:((#[(0,x)]:Array (Nat × Operand)).map λ(y:Nat × Operand)=>(y.1,a.eval y.2)).toList=(([Value.agg cs]:List Value).zipIdx 0).map λy=>(y.2,y.1):=by simp[g]
 rw[b];refine Eq.trans (congrArg _ e) ((Great.fill_whole (by omega) [Value.agg cs] ((Array.range (1*259)).map ((Value.agg Tryz.zeroCells100).cells[· % (Value.agg Tryz.zeroCells100).cells.size]!)) (by intro v c;simp at c;subst c;exact j) (by simp)).trans ?_);simp[Value.cells]
def RW.str(h:RW A 1 w v (sc L)):∃a cap,v=.slice a L.length cap/\∀j (b:j<L.length),∃g off,a=some (zB g off)/\g<w.heap.size/\zC w g (off+j) (.string (bs L[j])):=by
 obtain⟨a,cap,rfl,i,f⟩:=h;refine⟨a,cap,by rw[iC],λj b=>?_⟩;obtain⟨g,off,e,_,d,c⟩:=f j (by rw[iC];omega);refine⟨g,off,e,d,?_⟩;have:=c 0 (.string (bs L[j])) (by simp[sc]);rwa [a1H,a1Q]at this
def aO(x:kN)(a:Value):Array Value:=#[zT x.rc,a,zI (x.wt:Nat),zI (x.ev:Nat),zI (x.rp:Nat)]
def Gj:TQ kN where
 rel A w cs x:=∃a,cs=aO x a/\RW A 1 w a (sc x.bl)
 aC:=by rintro A S w w' cs x ⟨a,c,b⟩ f d;exact⟨a,c,b.aC f d⟩
 cO:=by rintro A B w cs x ⟨a,c,b⟩ e;exact⟨a,c,b.cO e⟩
abbrev hz:Array Value:=#[.string ByteArray.empty,zN,zI 0,zI 0,zI 0]
def aqs:(Tryz.prog.info? 68).map (·.size)=some 5:=by kernel_rfl
def yZ {g}(e d c b a)(h:w.heap[g]?=some (.cells #[o0,o1,o2,o3,o4] t (0,0))):(((((w.setCell (zA g) e).setCell (zB g 1) d).setCell (zB g 2) c).setCell (zB g 3) b).setCell (zB g 4) a).heap[g]?=some (.cells #[e,d,c,b,a] t (0,0)):=by simp[World.setCell,a0v,h]
def l8(w g e d c b a):aB [g] w (((((w.setCell (zA g) e).setCell (zB g 1) d).setCell (zB g 2) c).setCell (zB g 3) b).setCell (zB g 4) a) :=
 (((((aB.refl [g] w).setCell (p:=(zA g)) (.inl (by simp)) e).setCell (p:=(zB g 1)) (.inl (by simp)) d).setCell (p:=(zB g 2)) (.inl (by simp)) c).setCell (p:=(zB g 3)) (.inl (by simp)) b).setCell (p:=(zB g 4)) (.inl (by simp)) a
def Gl {g cs}(h:w.heap[g]?=some (.cells cs 68 (0,0)))(a:cs.size=5):(loadVar 68 (zA g)).run Tryz.prog w=.ok (.agg cs) w :=
 run_loadVar_row w g 68 68 cs (0,0) _ h Tryz.underlying68 rfl (by rw[a];exact aqs)
def CV:(Tryz.prog.info? 68).map (λi=>(i.zero,i.size,i.bytes))=some (some (.agg hz),5,64):=by kernel_rfl
def ay9(x a n c):(aO x (.slice a n c)).all (·.oneCell')=true:=by simp[aO,Value.oneCell']
def jT(x:bX):Array Value:=#[zI (x.op:Nat),zI (x.x:Nat),zI (x.a:Nat),zI (x.b:Nat)]
def akk(x):(jT x).all (·.oneCell')=true:=by simp[jT,Value.oneCell']
def uj(L:List bX):List (List Value):=L.map λx=>(jT x).toList
theorem CZ(L):(uj L).length=L.length:=by simp[uj]
theorem Nb(L x):uj L++[(jT x).toList]=uj (L++[x]):=by simp[uj]
def TS:(Tryz.prog.info? 105).map (λi=>(i.zero,i.size,i.bytes))=some (some (.agg #[zI 0,zI 0,zI 0,zI 0]),4,32):=by kernel_rfl
def VB {g}(d c b a)(h:w.heap[g]?=some (.cells #[o0,o1,o2,o3] t (0,0))):((((w.setCell (zA g) d).setCell (zB g 1) c).setCell (zB g 2) b).setCell (zB g 3) a).heap[g]?=some (.cells #[d,c,b,a] t (0,0)):=by simp[World.setCell,a0v,h]
def Nc(w g d c b a):aB [g] w ((((w.setCell (zA g) d).setCell (zB g 1) c).setCell (zB g 2) b).setCell (zB g 3) a) :=
 ((((aB.refl [g] w).setCell (p:=(zA g)) (.inl (by simp)) d).setCell (p:=(zB g 1)) (.inl (by simp)) c).setCell (p:=(zB g 2)) (.inl (by simp)) b).setCell (p:=(zB g 3)) (.inl (by simp)) a
structure PG(A:LN)(w:World)(V:V6)(m:mP):Prop where
 n:RW A 1 w V.n (sc m.names)
 c:RW A 1 w V.c (sc m.consts)
 a:∃bB,RW A 259 w V.a (fZ bB)/\dV adY A w bB m.zg
 t:RW A 3 w V.t (tc m.tests)
 r:∃bB,RW A 5 w V.r (fZ bB)/\dV Gj A w bB m.q9
 i:RW A 4 w V.i (uj m.code)
theorem PG.aC {V m}(h:PG A w V m)(f:aB S w w')(b:∀g∈S,g∈A):PG A w' V m:=by obtain⟨o,l,k⟩:=h.a;obtain⟨d,j,e⟩:=h.r;exact⟨h.n.aC f b,h.c.aC f b,⟨o,l.aC f b,k.aC f b⟩,h.t.aC f b,⟨d,j.aC f b,e.aC f b⟩,h.i.aC f b⟩
def PG.cO {V m}(h:PG A w V m)(b:∀g∈B,g∈A\/w.heap.size<=g):PG B w V m:=by obtain⟨l,k,j⟩:=h.a;obtain⟨d,f,e⟩:=h.r;exact⟨h.n.cO b,h.c.cO b,⟨l,k.cO b,j.cO b⟩,h.t.cO b,⟨d,f.cO b,e.cO b⟩,h.i.cO b⟩
def V6.z:V6:=⟨zN,zN,zN,zN,zN,zN⟩
def V6.cells(V:V6):Array Value:=#[V.n,V.c,V.a,V.t,V.r,V.i]
def anw:(Tryz.prog.info? 51).map (·.size)=some 6:=by kernel_rfl
def adZ {g cs}(h:w.heap[g]?=some (.cells cs 51 (0,0)))(a:cs.size=6):(loadVar 51 (zA g)).run Tryz.prog w=.ok (.agg cs) w :=
 run_loadVar_row w g 51 51 cs (0,0) _ h Tryz.underlying51 rfl (by rw[a];exact anw)
def ad1 {g o5}(f e d c b a)(h:w.heap[g]?=some (.cells #[o0,o1,o2,o3,o4,o5] t (0,0))):((((((w.setCell (zA g) f).setCell (zB g 1) e).setCell (zB g 2) d).setCell (zB g 3) c).setCell (zB g 4) b).setCell (zB g 5) a).heap[g]?=some (.cells #[f,e,d,c,b,a] t (0,0)):=by simp[World.setCell,a0v,h]
def ad2(w g f e d c b a):aB [g] w ((((((w.setCell (zA g) f).setCell (zB g 1) e).setCell (zB g 2) d).setCell (zB g 3) c).setCell (zB g 4) b).setCell (zB g 5) a) :=
 (((((((aB.refl [g] w).setCell (p:=(zA g)) (.inl (by simp)) f).setCell (p:=(zB g 1)) (.inl (by simp)) e).setCell (p:=(zB g 2)) (.inl (by simp)) d).setCell (p:=(zB g 3)) (.inl (by simp)) c).setCell (p:=(zB g 4)) (.inl (by simp)) b)).setCell (p:=(zB g 5)) (.inl (by simp)) a
def RW.shape(h:RW A k w v vs):∃a c,v=.slice a vs.length c:=by obtain⟨a,c,e,_⟩:=h;exact⟨a,c,e⟩
theorem RW.num {L}(h:RW A 1 w v (ic L)):∃a cap,v=.slice a L.length cap/\∀j (b:j<L.length),∃g off,a=some (zB g off)/\g<w.heap.size/\zC w g (off+j) (zI (L[j]:Nat)):=by
 obtain⟨a,cap,rfl,i,f⟩:=h;refine⟨a,cap,by rw[TM],λj b=>?_⟩;obtain⟨g,off,e,_,d,c⟩:=f j (by rw[TM];omega);refine⟨g,off,e,d,?_⟩;have:=c 0 (zI (L[j]:Nat)) (by simp[ic]);rwa [a1H,a1Q]at this
theorem RW.bool {L}(h:RW A 1 w v (bc L)):∃a cap,v=.slice a L.length cap/\∀j (b:j<L.length),∃g off,a=some (zB g off)/\g<w.heap.size/\zC w g (off+j) (.bool (L[j]==1)):=by
 obtain⟨a,cap,rfl,i,f⟩:=h;refine⟨a,cap,by rw[afI],λj b=>?_⟩;obtain⟨g,off,e,_,d,c⟩:=f j (by rw[afI];omega);refine⟨g,off,e,d,?_⟩;have:=c 0 (.bool (L[j]==1)) (by simp[bc]);rwa [a1H,a1Q]at this
def sP {I:TQ α} {d xs}(h:RW A k w v (fZ d))(i:dV I A w d xs) :
 ∃a cap,v=.slice a xs.length cap/\∀j (f:j<xs.length),∃g off cs,a=some (zB g off)/\g<w.heap.size/\g∉A/\I.rel A w cs xs[j]/\∀c x,cs[c]?=some x->zC w g (off+j*k+c) x:=by
 obtain⟨a,cap,rfl,q,p⟩:=h;refine⟨a,cap,by rw[jA,i.1],λj f=>?_⟩;have b:j<d.length:=by rw[i.1];omega
 obtain⟨g,off,e,o,n,m⟩:=p j (by rw[jA];omega);refine⟨g,off,d[j],e,n,o,i.2 j _ _ (a0a b) (a0a f),λc x l=>m c x ?_⟩;simp[fZ,l]
theorem aB.at {p}(f:aB [] w W)(a:p.block<w.heap.size)(h:w.cell? p=some v):W.cell? p=some v:=(f.cell a (by simp)).trans h
def azx:TQ kN where
 rel A w cs x:=∃g,cs=aO x (zS g x.bl.length x.bl.length)/\RW A 1 w (zS g x.bl.length x.bl.length) (sc x.bl)
 aC:=by rintro A S w w' cs x ⟨g,b,a⟩ f c;exact⟨g,b,a.aC f c⟩
 cO:=by rintro A B w cs x ⟨g,b,a⟩ d;exact⟨g,b,a.cO d⟩
def RW.afJ{g c}(h:RW A k w (zS g n c) vs)(f:g∉B):RW B k w (zS g n c) vs:=by obtain⟨a,cap,e,o,m⟩:=h;refine⟨a,cap,e,o,λj d=>?_⟩;obtain⟨p,off,b,q,l,i⟩:=m j d;refine⟨p,off,b,?_,l,i⟩;simp only[Value.slice.injEq]at e;rw[<-e.1]at b;simp only[Option.some.injEq,Addr.mk.injEq,a2u]at b;rw[<-b.1];omega
theorem Nf(w:World)(o a):((w.alloc o).alloc a).heap[w.heap.size+1]?=some a:=by
 have:=bD (w.alloc o) a;rwa [show(w.alloc o).heap.size=w.heap.size+1 by simp]at this
def qE {fn p ty}(h:fn.results=#[.cell p ty])(tmps w g cs)
 (a:tmps.getD p undef=zP g) (b:(loadVar ty (zA g)).run Tryz.prog w=.ok (.agg cs) w) :
 (results fn tmps).run Tryz.prog w=.ok (.agg cs) w:=by
 have c:tmps[p]?.getD undef=zP g:=by simpa using a
 simp[results,h,c,asAddr,b]
structure AUm(w:World)(g q:Nat)(x:gz)(va vn:Value):Prop where
 lt:g<w.heap.size
 c0:w.cell? (zB g q)=some (zI (x.k:Nat))
 cc:∀c,c<256->w.cell? (zB g (q+1+c))=some (.int .u8 (x.cl.getD c 0:Nat))
 ca:w.cell? (zB g (q+257))=some va
 cn:w.cell? (zB g (q+258))=some vn
theorem AUm.aC {g q x b a}(h:AUm w g q x b a)(f:aB [] w w'):AUm w' g q x b a :=
 ⟨a0t h.lt f.size,(f.cell h.lt (by simp)).trans h.c0,λc d=>(f.cell h.lt (by simp)).trans (h.cc c d),(f.cell h.lt (by simp)).trans h.ca,(f.cell h.lt (by simp)).trans h.cn⟩
structure PR(A:LN)(w:World)(pb:Nat)(V:V6)(m:mP):Prop where
 row:w.heap[pb]?=some (.cells V.cells 53 (0,0))
 pg:PG (pb::A) w V m
 av:pb∉A
theorem PR.aC {V m}(h:PR A w pb V m)(f:aB S w w')(a:∀g∈S,g∈A):PR A w' pb V m :=
 ⟨(f.block pb (a0c.1 h.row).1 (λb=>h.av (a _ b))).trans h.row,h.pg.aC f (λg c=>by simp[a g c]),h.av⟩
def PR.cO {V m}(h:PR A w pb V m)(c:∀g∈B,g∈A):PR B w pb V m:=⟨h.row,h.pg.cO (λg b=>by left;simp at b |-;rcases b with a|a;exact .inl a;exact .inr (c g a)),λd=>h.av (c _ d)⟩
def aB.TU {B}(f:aB S w W)(b:Below B W w')(d:w.heap.size<=B):aB S w w' :=
 ⟨b.os.trans f.os,b.tape.trans f.tape,b.output.trans f.output,a0h f.size b.size,λk a c=>(b.block k (by omega)).trans (f.block k a c)⟩
def VC:(Tryz.prog.info? 9).map (·.size)=some 1:=by kernel_rfl
def iL(L:List LB)(x:LB):Nat:=L.findIdx (·==x)
def l9(L:List LB)(x:LB):List LB:=if iL L x=L.length then L++[x] else L
def QE(a b:jd):Bool:=a.n==b.n&&(a.k==b.k&&a.x==b.x)
def C6(L:List jd)(x:jd):Nat:=L.findIdx (QE · x)
def pE(L:List jd)(x:jd):List jd:=if C6 L x=L.length then L++[x] else L
structure CS where
 n:List LB
 c:List LB
 x:List LB
 a:List gz
 t:List jd
 q:List (List (Nat × Bool))
def nP(re:LB->Nat)(bI:LB->gz)(s:CS)(m:CM):Option (jd × CS) :=
 if m.2.1=2\/m.2.1=3 then
  if iL s.x m.2.2<s.x.length then some (⟨iL s.n m.1,1,iL s.x m.2.2⟩,{ s with n:=l9 s.n m.1 })
  else if re m.2.2=0 then some (⟨iL s.n m.1,1,iL s.x m.2.2⟩,{ s with n:=l9 s.n m.1,x:=s.x++[m.2.2],a:=s.a++[bI m.2.2] })
  else none
 else some (⟨iL s.n m.1,0,iL s.c m.2.2⟩,{ s with n:=l9 s.n m.1,c:=l9 s.c m.2.2 })
def IV(m:CM):Bool:=m.2.1==0||m.2.1==2
def nu(re:LB->Nat)(bI:LB->gz):CS->List (Nat × Bool)->List CM->Except Nat (List (Nat × Bool) × CS)
 | s,acc,[]=>.ok (acc,s)
 | s,acc,m::r=>match nP re bI s m with
   | none=>.error (re m.2.2)
   | some (t,s1)=>nu re bI { s1 with t:=pE s1.t t } (acc++[(C6 s1.t t,IV m)]) r
def pread(re:LB->Nat)(bI:LB->gz):CS->Nat->List CR->Except (Nat × Nat) CS
 | s,_,[]=>.ok s
 | s,i,c::r=>match nu re bI s [] c.ifs with
   | .error e=>.error (e,i+2)
   | .ok (l,s1)=>pread re bI { s1 with q:=s1.q++[l] } (i+1) r
def nQ(C:List CR)(d:Nat):Nat->Option Nat
 | 0=>none
 | j+1=>if (C[j]?.map λc=>c.d+1)=some d then some j else nQ C d j
def par(C:List CR)(i:Nat):Option Nat:=match C[i]? with | some c=>nQ C c.d i|none=>none
def uk(x:Int)(y:Nat):Nat:=if x=-1 then y else x.toNat
def ny(a:kN)(r:CR):kN:=⟨if r.rc == [45] then a.rc else r.rc,if r.tb then r.jM else a.bl,uk r.wt a.wt,uk r.ev a.ev,uk r.rp a.rp⟩
def lQ:kN:=⟨[],[],30,300,14400⟩
def uK(C:List CR)(H:List kN)(i:Nat):kN:=match par C i with | some p=>H.getD p lQ|none=>lQ
def fD(C:List CR):Nat->List kN
 | 0=>[]
 | i+1=>fD C i++[match C[i]? with | some c=>ny (uK C (fD C i) i) c|none=>lQ]
def bR:List (Nat × Bool)->Nat->Nat->List bX->Nat × List bX
 | [],y,_,l=>(y,l)
 | c::r,y,n,l=>((bR r y n l).2.length,(bR r y n l).2++[if c.2 then ⟨2,c.1,(bR r y n l).1,n⟩ else ⟨2,c.1,n,(bR r y n l).1⟩])
def kids(C:List CR)(r:Nat):LN:=(List.range C.length).filter λj=>decide (r<j)&&(par C j==some r)
def ji(rec:Nat->Nat->List bX->Nat × List bX)(C:List CR)(q:List (List (Nat × Bool)))(done:Nat)(l:List bX):LN->Nat × LN × List bX
 | []=>(done,[],l)
 | c::r =>
   let x:=ji rec C q done l r
   let b:=rec c (if (C[c]?.map (·.co))=some true then x.1 else done) x.2.2
   let s:=bR (q.getD c []) b.1 x.1 b.2
   (s.1,b.1::x.2.1,s.2)
def lS(q:List (List (Nat × Bool)))(first:Nat)(l:List bX):List (Nat × Nat)->Nat × List bX
 | []=>(first,l)
 | c::r=>bR (q.getD c.1 []) c.2 (lS q first l r).1 (lS q first l r).2
def ig(C:List CR)(q:List (List (Nat × Bool))):Nat->Nat->Nat->List bX->Nat × List bX
 | 0,_,d,l=>(d,l)
 | f+1,r,d,l =>
   let x:=ji (ig C q f) C q d l (kids C r)
   lS q x.2.2.length (x.2.2++[⟨1,r,d,0⟩]) ((kids C r).zip x.2.1)
def mG(l:List bX):Nat->List Bool->List Int->Nat->List Int
 | 0,_,N,_=>N
 | i+1,R,N,c =>
   if R.getD i false then
    match l[i]? with
    | some x=>mG l i (if x.op=0 then R else if x.op=2 then (R.set x.a true).set x.b true else R.set x.a true) (N.set i c) (c+1)
    | none=>N
   else mG l i R (N.set i (-1)) c
def numsOf(l:List bX)(first:Nat):List Int:=mG l l.length ((List.replicate l.length false).set first true) (List.replicate l.length 0) 0
def aci(N:List Int)(x:bX):bX:=⟨x.op,x.x,if x.op=0 then x.a else (N.getD x.a 0).toNat,if x.op=2 then (N.getD x.b 0).toNat else x.b⟩
def nY(l:List bX)(N:List Int):Nat->List bX->List bX
 | 0,out=>out
 | i+1,out=>if N.getD i 0<0 then nY l N i out else match l[i]? with | some x=>nY l N i (out++[aci N x])|none=>out
def mH(l:List bX)(first:Nat):List bX:=nY l (numsOf l first) (first + 1) []
def C8(C:List CR)(q:List (List (Nat × Bool))):List bX :=
 if C.isEmpty then [⟨0,0,0,0⟩] else
  let x:=ig C q 6 0 0 [⟨0,0,0,0⟩]
  mH x.2 x.1
def iZ(C:List CR)(s:CS):mP:=⟨s.n,s.c,s.a,s.t,fD C C.length,C8 C s.q⟩
def lT:CS:=⟨[],[],[],[],[],[]⟩
theorem asA {x}(a:j<L.length)(h:∀i (b:i<j),(L[i]==x)=false)(he:(L[j]==x)=true):iL L x=j:=by grind [iL,List.findIdx_eq]
theorem anx {x}(h:∀i (a:i<L.length),(L[i]==x)=false):iL L x=L.length:=by grind [iL]
theorem Eg(L x):iL L x<=L.length:=a2U
theorem asB {L x}(a:j<L.length)(h:∀i (b:i<j),QE L[i] x=false)(he:QE L[j] x=true):C6 L x=j:=by grind [C6,List.findIdx_eq]
theorem anz {L x}(h:∀i (a:i<L.length),QE L[i] x=false):C6 L x=L.length:=by grind [C6]
theorem alT(L x):C6 L x<=L.length:=a2U
def GL(l:List bX):Prop:=∀i (h:i<l.length),l[i].op=0\/(l[i].op=1/\l[i].a<i)\/(l[i].op=2/\l[i].a<i/\l[i].b<i)
theorem GL.snoc {l x}(h:GL l)(e:x.op=0\/(x.op=1/\x.a<l.length)\/(x.op=2/\x.a<l.length/\x.b<l.length)):GL (l++[x]):=by
 intro i d;simp at d;by_cases c:i<l.length
 .rw[List.getElem_append_left c];exact h i c
 grind
theorem uL {l}(h:GL l){y}(a:y<l.length)(b:n<l.length):∀q:List (Nat × Bool),GL (bR q y n l).2/\(bR q y n l).1<(bR q y n l).2.length/\(bR q y n l).2.length=l.length+q.length
 | []=>⟨h,a,rfl⟩
 | c::r=>by
   obtain⟨d,f,e⟩:=uL h a b r;refine⟨?_,by simp[bR],by simp[bR];omega⟩;rw[bR];refine d.snoc ?_;split
   .grind
   grind
def RG(rec:Nat->Nat->List bX->Nat × List bX):Prop:=∀c d l,GL l->d<l.length->GL (rec c d l).2/\(rec c d l).1<(rec c d l).2.length/\l.length<=(rec c d l).2.length
def IW {rec:Nat->Nat->List bX->Nat × List bX}(e:RG rec)(C q) {d l}(h:GL l)(hd:d<l.length):∀K:LN,
 GL (ji rec C q d l K).2.2/\(ji rec C q d l K).1<(ji rec C q d l K).2.2.length/\l.length<=(ji rec C q d l K).2.2.length/\(∀b∈(ji rec C q d l K).2.1,b<(ji rec C q d l K).2.2.length)/\(ji rec C q d l K).2.1.length=K.length
 | []=>⟨h,hd,a0b _,by simp[ji],rfl⟩
 | c::r=>by
   obtain⟨i,o,n,g,f⟩:=IW e C q h hd r;rw[ji];generalize ji rec C q d l r=x at *;obtain⟨k,j,p⟩:=e c (if (C[c]?.map (·.co))=some true then x.1 else d) x.2.2 i (by split<;>omega);generalize rec c (if (C[c]?.map (·.co))=some true then x.1 else d) x.2.2=b at *;obtain⟨k1,k2,m⟩:=uL k j (by omega:x.1<b.2.length) (q.getD c []);refine⟨k1,k2,by show l.length<=(bR _ _ _ _).2.length;omega,?_,by simp[f]⟩;intro y a;show y<(bR _ _ _ _).2.length;rcases a0l.1 a with rfl|a
   .omega
   have:=g y a;omega
def QF(q) {first l}(h:GL l)(a:first < l.length):∀Z:List (Nat × Nat),(∀z∈Z,z.2<l.length)->GL (lS q first l Z).2/\(lS q first l Z).1<(lS q first l Z).2.length/\l.length<=(lS q first l Z).2.length
 | [],_=>⟨h,a,a0b _⟩
 | z::r,hz=>by
   obtain⟨d,c,f⟩:=QF q h a r (λy b=>hz y (by simp[b]));have:=hz z (by simp);rw[lS];generalize lS q first l r=x at *
   obtain⟨k1,k2,e⟩:=uL d (by omega:z.2<x.2.length) c (q.getD z.1 []);exact⟨k1,k2,by omega⟩
def C9(C q):∀f,RG (ig C q f)
 | 0=>λc d l h hd=>⟨h,hd,a0b _⟩
 | f+1=>λr d l h hd=>by
   obtain⟨e,j,i,b,g⟩:=IW (C9 C q f) C q h hd (kids C r);rw[ig];generalize ji (ig C q f) C q d l (kids C r)=x at *;obtain⟨k1,k2,a⟩:=QF q (first:=x.2.2.length) (l:=x.2.2++[⟨1,r,d,0⟩]) (e.snoc (.inr (.inl ⟨rfl,by show d<_;omega⟩))) (by simp) ((kids C r).zip x.2.1) (by intro z hz;have:=b z.2 (List.of_mem_zip hz).2;simp;omega);exact⟨k1,k2,by simp at a;omega⟩
theorem QG(l):∀i R N c,(mG l i R N c).length=N.length
 | 0,_,_,_=>rfl
 | i+1,R,N,c=>by
   rw[mG];split
   .split
    .rw[QG];simp
    rfl
   rw[QG];simp
def OM(i:Nat)(R:List Bool)(N:List Int)(t:Nat):Prop:=if t<i then R.getD t false=true else 0<=N.getD t 0
def ad3(l:List bX)(i:Nat)(R:List Bool)(N:List Int):Prop:=∀j x,i<=j->l[j]?=some x->0<=N.getD j 0->(x.op≠0->OM i R N x.a)/\(x.op=2->OM i R N x.b)
theorem getD_set_ne(L:List α)(i j)(x d:α)(h:i≠j):(L.set i x).getD j d=L.getD j d:=by simp[List.getD,List.getElem?_set_ne h]
theorem yg(L:List α)(i)(x d:α)(h:i<L.length):(L.set i x).getD i d=x:=by simp[List.getD,h]
theorem LG {l}(p:GL l):∀i (R:List Bool) (N:List Int) (c:Nat),i<=l.length->R.length=l.length->N.length=l.length->ad3 l i R N->ad3 l 0 R (mG l i R N c)
 | 0,R,N,c,_,_,_,h=>h
 | i+1,R,N,c,E,r,z,h=>by
   rw[mG];obtain⟨x,n⟩:∃x,l[i]?=some x:=⟨l[i],a0a (by omega)⟩;have o:=p i (by omega);have D:l[i]'(by omega)=x:=by rw[a0a (by omega)]at n;exact Option.some.inj n
   rw[D]at o;have step:∀(e:List Bool) (v:Int),e.length=l.length->(∀t,R.getD t false=true->e.getD t false=true)->(R.getD i false=true->0<=v)->∀t,OM (i+1) R N t->OM i e (N.set i v) t:=by grind [OM,yg,getD_set_ne]
   split
   .rename_i k;simp only[n];have fin:∀e:List Bool,e.length=l.length->(∀t,R.getD t false=true->e.getD t false=true)->(x.op≠0->e.getD x.a false=true)->(x.op=2->e.getD x.b false=true)->ad3 l 0 R (mG l i e (N.set i (c:Int)) (c+1)):=by
     intro e m u B hb;have s:ad3 l i e (N.set i (c:Int)):=by
      intro j y C g d;by_cases w:j=i
      .subst w;rw[n]at g;cases g;constructor
       .intro ho;unfold OM;rw[a0m (by omega)];exact B ho
       intro ho;unfold OM;rw[a0m (by omega)];exact hb ho
      rw[getD_set_ne _ _ _ _ _ (by omega)]at d;obtain⟨k1,k2⟩:=h j y (by omega) g d;exact⟨λho=>step e c m u (λ_=>by omega) _ (k1 ho),λho=>step e c m u (λ_=>by omega) _ (k2 ho)⟩
     have:=LG p i e (N.set i (c:Int)) (c+1) (by omega) m (by simp[z]) s;intro j y A g d;obtain⟨k1,k2⟩:=this j y A g d;exact⟨λho=>by simpa[OM] using k1 ho,λho=>by simpa[OM] using k2 ho⟩
    by_cases A:x.op=0
    .grind
    grind
   rename_i k;have s:ad3 l i R (N.set i (-1)):=by
    intro j y C g d;by_cases w:j=i
    .grind
    rw[getD_set_ne _ _ _ _ _ (by omega)]at d;obtain⟨k1,k2⟩:=h j y (by omega) g d;exact⟨λho=>step R (-1) r (λt ht=>ht) (λq=>absurd q k) _ (k1 ho),λho=>step R (-1) r (λt ht=>ht) (λq=>absurd q k) _ (k2 ho)⟩
   exact LG p i R (N.set i (-1)) c (by omega) r (by simp[z]) s
def Eh(l first):(numsOf l first).length=l.length:=by unfold numsOf;rw[QG];simp
theorem IY {l}(c:GL l)(first j x)(d:l[j]?=some x)(e:0<=(numsOf l first).getD j 0):(x.op≠0->0<=(numsOf l first).getD x.a 0)/\(x.op=2->0<=(numsOf l first).getD x.b 0):=by grind [ad3,LG,numsOf,OM]
end
section
variable {b d g gb gg k kb:Nat} {e:TypeId} {w w' w0 w1 w2:World} {v:Value} {vs:List (List Value)} {A L S Z:LN} {sa:List gz} {V:V6} {s:CS} {C:List CR} {X a p x:NF} {l1:List bX} {ls:List NF}
structure RD where
 ty:TypeId
 k:Nat
 v:Value
 vs:List (List Value)
structure RWS(base:Nat)(w:World)(rs:List RD):Prop where
 asz:∀(i:Nat) (r:RD),rs[i]?=some r->OW r.ty r.k base w r.v r.vs
 d:∀(i j:Nat) (r s:RD),i≠j->rs[i]?=some r->rs[j]?=some s->∀g,r.v.ownBlock=some g->s.v.ownBlock≠some g
def owns(rs:List RD):LN:=rs.flatMap λr=>r.v.ownBlock.toList
theorem oK {rs}:g∈owns rs↔∃(i:Nat) (r:RD),rs[i]?=some r/\r.v.ownBlock=some g:=by
 unfold owns;rw[a1l];constructor
 .rintro⟨r,a,c⟩;obtain⟨i,b,rfl⟩:=a3f.1 a;exact⟨i,rs[i],a0a b,by simpa using c⟩
 grind
def OW.awU{base row}(h:OW e k base w v vs)(d:w.grownBy w' row)(hb:∀g,row=some g->v.ownBlock≠some g):OW e k base w' v vs:=by
 refine⟨⟨h.1.1,?_⟩,h.2⟩;rcases h.1.2 with c|⟨g,cap,cur,rfl,b,a,rest⟩
 .exact .inl c
 refine .inr ⟨g,cap,cur,rfl,b,?_,rest⟩;rw[d.block g (a0c.1 a).1 (λe=>hb g e.symm rfl)];omega
theorem RWS.aC {base rs}(h:RWS base w rs)(f:aB S w w')(b:∀g∈S,g<base):RWS base w' rs:=⟨λi r a=>(h.asz i r a).aC f b,h.d⟩
theorem RWS.grow{base rs}(h:RWS base w rs)(i) {r r'}(n:rs[i]?=some r)(y:w.grownBy w' r.v.ownBlock)(ho:OW r'.ty r'.k base w' r'.v r'.vs)(hb:r'.v.ownBlock=some gg)(l:r.v.ownBlock=some gg\/gg=w.heap.size):RWS base w' (rs.set i r'):=by
 have:=(a0d.1 n).1;have get:∀(j:Nat) (s:RD),(rs.set i r')[j]?=some s->(j=i/\s=r')\/(j≠i/\rs[j]?=some s):=by grind
 have:∀(j:Nat) (s:RD),j≠i->rs[j]?=some s->s.v.ownBlock≠some gg:=by
  intro j s f c e;rcases l with l|l
  .exact h.d i j r s (λk=>f k.symm) n c gg l e
  have:=(h.asz j s c).lt e;omega
 refine⟨λj s c=>?_,λj k a b p f u g o=>?_⟩
 .rcases get j s c with⟨_,rfl⟩|⟨f,c⟩
  .omega
  exact(h.asz j s c).awU y (λg q=>h.d i j r s (λk=>f k.symm) n c g q)
 rcases get j a f with⟨rfl,rfl⟩|⟨x,m⟩<;>rcases get k b u with⟨rfl,rfl⟩|⟨t,z⟩
 .omega
 .grind
 .grind
 exact h.d j k a b p m z g o
theorem dV.turn {α} {I:TQ α}{B row b xs}(h:dV I A w b xs)(d:w.grownBy w' row)(c:∀r,row=some r->r∈A)(j:row=some gg\/gg=w.heap.size)(e:∀g∈B,g∈A\/g=gg):dV I B w' b xs:=by
 have i:dV I (A++[w.heap.size]) w b xs:=h.cO (by intro g a;simp at a;rcases a with a|a;exact .inl a;omega);have f:dV I (A++[w.heap.size]) w' b xs:=i.aC ((aB.refl row.toList w).grown d (λr c=>.inl (by simp[c]))) (by intro g a;simp at a;simp[c g a]);refine f.cO (λg a=>.inl ?_);rcases e g a with a|rfl
 .simp[a]
 grind
def VN {rs}(i) {r r'}(f:rs[i]?=some r)(hb:r'.v.ownBlock=some gg):∀g∈Z++kb::owns (rs.set i r'),g∈Z++kb::owns rs\/g=gg:=by
 have d:i<rs.length:=(a0d.1 f).1;intro g a;rcases a0e.1 a with a|a
 .exact .inl (a0e.2 (.inl a))
 rcases a0l.1 a with rfl|a
 .exact .inl (by simp)
 obtain⟨j,s,b,c⟩:=oK.1 a;by_cases e:j=i
 .subst e;rw[List.getElem?_set_self d]at b;cases b;rw[hb]at c;exact .inr (Option.some.inj c).symm
 rw[List.getElem?_set_ne (λh=>e h.symm)]at b;exact .inl (a0e.2 (.inr (a0l.2 (.inr (oK.2 ⟨j,s,b,c⟩)))))
def VP {rs}(i:Nat) {r}(a:rs[i]?=some r)(ho:r.v.ownBlock=some g):g∈Z++kb::owns rs:=a0e.2 (.inr (a0l.2 (.inr (oK.2 ⟨i,r,a,ho⟩))))
def cc(L:List (Nat × Bool)):List (List Value):=L.map λc=>[zI (c.1:Nat),.bool c.2]
theorem YY(L):(cc L).length=L.length:=by simp[cc]
theorem ahV(L c):cc L++[[zI (c.1:Nat),.bool c.2]]=cc (L++[c]):=by simp[cc]
def aqu:TQ (List (Nat × Bool)) where
 rel A w cs x:=∃a,cs=#[a]/\RW A 2 w a (cc x)
 aC:=by rintro A S w w' cs x ⟨a,c,b⟩ f d;exact⟨a,c,b.aC f d⟩
 cO:=by rintro A B w cs x ⟨a,c,b⟩ e;exact⟨a,c,b.cO e⟩
structure KG(Z:LN)(w0:World)(kb:Nat)(w:World)(rs:List RD)(ca:List (Array Value))(sa:List gz)(cq:List (Array Value))(sq:List (List (Nat × Bool))):Prop where
 fr:aB [kb] w0 w
 lo:kb<w0.heap.size
 rw:RWS w0.heap.size w rs
 ai:dV adY (Z++kb::owns rs) w ca sa
 qi:dV aqu (Z++kb::owns rs) w cq sq
theorem KG.aC {rs ca cq c}(h:KG Z w0 kb w rs ca sa cq c)(f:aB S w w')(b:∀g∈S,g=kb):KG Z w0 kb w' rs ca sa cq c :=
 ⟨h.fr.over f (λx d=>.inr (by simp[b x d])),h.lo,h.rw.aC f (λg a=>by rw[b g a];exact h.lo),h.ai.aC f (λg a=>by simp[b g a]),h.qi.aC f (λg a=>by simp[b g a])⟩
def KG.alU {rs ca cq c}(h:KG Z w0 kb w rs ca sa cq c)(hb:w.heap.size<=b):KG (b::Z) w0 kb w rs ca sa cq c :=
 ⟨h.fr,h.lo,h.rw,h.ai.cO (λg a=>by simp at a |-;rcases a with rfl|a;exact .inr hb;exact .inl a),h.qi.cO (λg a=>by simp at a |-;rcases a with rfl|a;exact .inr hb;exact .inl a)⟩
def KG.afK {rs ca cq c}(h:KG (b::Z) w0 kb w rs ca sa cq c):KG Z w0 kb w rs ca sa cq c :=
 ⟨h.fr,h.lo,h.rw,h.ai.cO (λg a=>.inl (by simp at a |-;exact .inr a)),h.qi.cO (λg a=>.inl (by simp at a |-;exact .inr a))⟩
theorem KG.off {rs ca cq c}(h:KG Z w0 kb w rs ca sa cq c)(f:aB S w w')(l:∀g∈S,g∈Z)(q:∀g∈S,w0.heap.size<=g)(ho:∀g∈S,g∉owns rs):KG Z w0 kb w' rs ca sa cq c:=by
 refine⟨h.fr.over f (λx n=>.inl (q x n)),h.lo,⟨λi r k=>?_,h.rw.d⟩,h.ai.aC f (λg b=>by simp[l g b]),h.qi.aC f (λg b=>by simp[l g b])⟩;have a:=h.rw.asz i r k;refine⟨⟨a.1.1,?_⟩,a.2⟩;rcases a.1.2 with o|⟨g,cap,cur,e,m,j,rest⟩
 .exact .inl o
 refine .inr ⟨g,cap,cur,e,m,?_,rest⟩;rw[f.block g (a0c.1 j).1 (λp=>ho g p (oK.2 ⟨i,r,k,by rw[e];rfl⟩))];exact j
theorem KG.grow {rs ca cq f}(h:KG Z w0 kb w rs ca sa cq f)(i) {r r'}(b:rs[i]?=some r)(c:w.grownBy w' r.v.ownBlock)(ho:OW r'.ty r'.k w0.heap.size w' r'.v r'.vs)(hb:r'.v.ownBlock=some gg)(d:r.v.ownBlock=some gg\/gg=w.heap.size):KG Z w0 kb w' (rs.set i r') ca sa cq f:=by
 have n:=(a0d.1 b).1;have l:∀g,r.v.ownBlock=some g->g∈Z++kb::owns rs:=λg e=>a0e.2 (.inr (a0l.2 (.inr (oK.2 ⟨i,r,b,e⟩))));have m:∀g∈Z++kb::owns (rs.set i r'),g∈Z++kb::owns rs\/g=gg:=by
  intro g a;rcases a0e.1 a with a|a
  .grind
  rcases a0l.1 a with rfl|a
  .exact .inl (by simp)
  obtain⟨j,s,p,o⟩:=oK.1 a;by_cases e:j=i
  .grind
  grind [oK]
 exact⟨h.fr.grown c (λg e=>.inr ((h.rw.asz i r b).lt e).1),h.lo,h.rw.grow i b c ho hb d,h.ai.turn c l d m,h.qi.turn c l d m⟩
structure V4 where
 rt:Value
 x:Value
 q:Value
 l:Value
abbrev VD(V:V6)(U:V4):Array Value:=#[V.n,V.c,V.a,V.t,V.r,V.i,U.rt,U.x,U.q,U.l]
def KR(w:World)(b:Nat)(V:V6)(U:V4):Prop:=w.heap[b]?=some (.cells (VD V U) 122 (0,0))
theorem KR.c {U}(h:KR w b V U)(i):w.cell? (zB b i)=(VD V U)[i]?:=by unfold KR at h;simp[World.cell?,h]
theorem KR.fz {U}(h:KR w b V U)(o):w.frozen? (zB b o)=false:=by unfold KR at h;simp[World.frozen?,h]
theorem KR.lt {U}(h:KR w b V U):b<w.heap.size:=(a0c.1 h).1
theorem KR.aC {U}(h:KR w b V U)(f:aB S w w')(a:b∉S):KR w' b V U:=(f.block b h.lt a).trans h
theorem KR.grown {U row}(h:KR w b V U)(c:w.grownBy w' row)(a:∀r,row=some r->r≠b):KR w' b V U:=(c.block b h.lt (λe=>a b e.symm rfl)).trans h
theorem KR.set{V' U U'}(h:KR w b V U)(i v)(e:(VD V U).setIfInBounds i v=VD V' U'):KR (w.setCell (zB b i) v) b V' U':=by unfold KR at h |-;rw[<-e];simp[World.setCell,a0v,h]
abbrev Gm(V:V6)(U:V4)(s:CS)(ca cq:List (Array Value)):List RD :=
 [⟨9,1,V.n,sc s.n⟩,⟨9,1,V.c,sc s.c⟩,⟨9,1,U.x,sc s.x⟩,⟨100,259,V.a,fZ ca⟩,⟨102,3,V.t,tc s.t⟩,⟨147,1,U.q,fZ cq⟩]
structure KS(Z:LN)(w0:World)(kb:Nat)(w:World)(V:V6)(U:V4)(s:CS):Prop where
 row:KR w kb V U
 g:∃ca cq,KG Z w0 kb w (Gm V U s ca cq) ca s.a cq s.q
theorem KS.aC {U}(h:KS Z w0 kb w V U s)(f:aB [] w w'):KS Z w0 kb w' V U s:=by obtain⟨ca,cq,g⟩:=h.g;exact⟨h.row.aC f (by simp),ca,cq,g.aC f (by simp)⟩
def KS.alU {U}(h:KS Z w0 kb w V U s)(hb:w.heap.size<=b):KS (b::Z) w0 kb w V U s:=by obtain⟨ca,cq,g⟩:=h.g;exact⟨h.row,ca,cq,g.alU hb⟩
def KS.afK {U}(h:KS (b::Z) w0 kb w V U s):KS Z w0 kb w V U s:=by obtain⟨ca,cq,g⟩:=h.g;exact⟨h.row,ca,cq,g.afK⟩
def VE(w v A L x)(h:RW A 1 w v (sc L))(y:L.length<=1048576) :
 zF 75 #[v,zT x] w λe w'=>e=zR (zI (iL L x:Nat))/\w=w':=by
 obtain⟨a,c,rfl,R⟩:=h.str;have l:=aT;clear h;delta zF;go_in;go_wp2_with fail;go_loopg [9] L.length (λk n wr=>∃j:Nat,j+k=L.length/\n=zI j/\wr=w/\(∀i (b:i<j) (l:i<L.length),(L[i]==x)=false));exact⟨0,by omega,rfl,rfl,λi b=>by omega⟩
 .obtain⟨j,t,rfl,q,d⟩:=hrel;subst q;by_cases m:j<L.length
  .have r:=decLt j L.length (by omega);obtain⟨g,_,rfl,u,_⟩:=R j m;cases he:(L[j]==x)
   .have o:∀i (b:i<j+1) (l:i<L.length),(L[i]==x)=false:=λi b p=>by
     by_cases e:i=j
     .subst e;exact he
     exact d i (by omega) p
    generalize L[j]=s at *;clear d;go_wp2;go_roundg (gk-1);exact⟨j+1,by omega,by go_num,rfl,o⟩;omega
   have f:iL L x=j:=asA m (λi b=>d i b (by omega)) he;generalize L[j]=s at *;clear d;go_wp2;go_ret;rw[f];exact⟨rfl,rfl⟩
  have f:iL L x=L.length:=anx (λi b=>d i (by omega) b);clear d;go_wp2;go_ret;rw[f];exact⟨rfl,rfl⟩
def rcl(c:CR)(ek iJ:Value):Array Value:=#[zI (c.d:Nat),zT c.rc,.bool c.tb,ek,zI c.wt,zI c.ev,zI c.rp,iJ,.bool c.co]
def LH(L:List CM):List (List Value):=L.map Bb
def rtI:TQ CR where
 rel A w cs c:=∃ek iJ,cs=rcl c ek iJ/\RW A 1 w ek (sc c.jM)/\RW A 3 w iJ (LH c.ifs)
 aC:=by rintro A S w w' cs x ⟨b,a,g,e,d⟩ f h;exact⟨b,a,g,e.aC f h,d.aC f h⟩
 cO:=by rintro A B w cs x ⟨b,a,g,e,d⟩ i;exact⟨b,a,g,e.cO i,d.cO i⟩
def QH(A:LN)(w:World)(v:Value)(C:List CR):Prop:=∃a,RW A 9 w v (fZ a)/\dV rtI A w a C
theorem QH.aC(h:QH A w v C)(f:aB S w w')(a:∀g∈S,g∈A):QH A w' v C:=by obtain⟨d,c,b⟩:=h;exact⟨d,c.aC f a,b.aC f a⟩
def Gn(C:List CR)(i:Nat):Int:=match par C i with | some p=>(p:Int)|none=>-1
def OT(w v A C)(h:QH A w v C)(hC:C.length<=1048576)(hd:∀c∈C,c.d<=1048576)(i)(r:i<C.length) :
 zF 61 #[v,zI i] w λe w'=>e=zR (zI (Gn C i))/\∃q,w'=w.drewN q:=by
 obtain⟨P,z,y⟩:=h;obtain⟨a,cp,rfl,R⟩:=sP z y;obtain⟨g,off,cs,rfl,N,_,⟨ek,iJ,rfl,_⟩,k1⟩:=R i r;have M:zC w g (off+i*9) (zI (C[i].d:Nat)):=k1 0 _ rfl;have o:Gn C i=match nQ C C[i].d i with | some p=>(p:Int)|none=>-1:=by unfold Gn par;rw[a0a r]
 have H:=hd C[i] (a0u r);have T:decide ((i:Int)<0)=false:=a0f (by omega);have I:=aBc C.length i (by omega);generalize E:C[i].d=b at *;clear z y k1 E;delta zF;go_in;go_wp2_with fail;go_loopg [5] i (λk B wr=>∃(j q:Nat) (x:Int),j<=i/\k=j/\B=zI x/\x=(j:Int)-1/\wr=w.drewN q/\(nQ C b j=nQ C b i));exact⟨i,0,_,by omega,rfl,rfl,by omega,rfl,by rfl⟩
 .obtain⟨j,q,x,G,rfl,rfl,u,F,f⟩:=hrel;subst F;rcases gk with _|n
  .obtain rfl:x=-1:=by omega
   clear u;have s:Gn C i=-1:=by rw[o,<-f];rfl
   clear f o;go_wp2;go_ret;rw[s];exact⟨rfl,q,rfl⟩
  obtain rfl:x=(n:Int):=by omega
  clear u;obtain⟨O,t,cs,e,_,_,⟨ek,iJ,rfl,_⟩,k1⟩:=R n (by omega);simp only[Option.some.injEq,Addr.mk.injEq,a2u]at e;obtain⟨rfl,rfl⟩:=e;have L:zC w g (off+n*9) (zI (C[n].d:Nat)):=k1 0 _ rfl;have S:=hd C[n] (a0u _);have m:nQ C b (n+1)=if C[n].d+1=b then some n else nQ C b n:=by rw[nQ,a0a (by omega)];simp
  generalize C[n].d=l at *;by_cases he:l+1=b
  .have s:Gn C i=(n:Int):=by rw[o,<-f,m,a0m he]
   have hb:((l:Int)==(b:Int)-1)=true:=by simp;omega
   have J:decide ((l:Int)=(b:Int)-1)=true:=a0g (by omega);clear f o m k1;go_wp2_with fail;go_quiet (fail);go_wp2;go_ret;rw[s];exact⟨rfl,_,yD _ _ _⟩
  have D:nQ C b n=nQ C b i:=by rw[<-f,m,a0n he]
  have hb:((l:Int)==(b:Int)-1)=false:=by simp;omega
  have J:decide ((l:Int)=(b:Int)-1)=false:=a0f (by omega);clear f m k1;go_wp2_with fail;go_quiet (fail);go_wp2;go_roundg n;exact⟨n,_,_,by omega,rfl,rfl,by omega,rfl,D⟩;omega
def LM(w x)(y:Nat)(b:-1<=x) :
 zF 77 #[zI x,zI y] w λe w'=>e=zR (zI (uk x y:Nat))/\w=w':=by
 by_cases h:x=-1
 .subst h;delta zF;go_in;go_wp2;go_ret;exact⟨rfl,rfl⟩
 have a:((uk x y:Nat):Int)=x:=by unfold uk;rw[a0n h];omega
 have hb:(x == -1)=false:=by simp[h]
 delta zF;go_in;go_wp2;go_ret;rw[a];exact⟨rfl,rfl⟩
structure LY(w0:World)(kb:Nat)(w:World)(V:V6)(U:V4)(l:List bX):Prop where
 row:KR w kb V U
 fr:aB [kb] w0 w
 lo:kb<w0.heap.size
 asz:OW 105 4 w0.heap.size w U.l (uj l)
theorem LY.aC {U l}(h:LY w0 kb w V U l)(f:aB [] w w'):LY w0 kb w' V U l :=
 ⟨h.row.aC f (by simp),h.fr.over f (by simp),h.lo,h.asz.aC f (by simp)⟩
structure LF(kb:Nat)(w:World)(a:Value)(w':World)(b:Value):Prop where
 f:aB (kb::a.ownBlock.toList) w w'
 asz:∀g,b.ownBlock=some g->a.ownBlock=some g\/w.heap.size<=g
theorem LF.refl(kb w a):LF kb w a w a:=⟨zK,λg h=>.inl h⟩
theorem LF.trans {a b c}(h:LF kb w a w1 b)(k:LF kb w1 b w2 c):LF kb w a w2 c:=by
 refine⟨h.f.over k.f ?_,λg i=>?_⟩
 .intro x e;rcases a0l.1 e with rfl|e
  .exact .inr (by simp)
  rcases h.asz x (by simpa using e) with d|d
  .exact .inr (by simp[d])
  omega
 rcases k.asz g i with d|d
 .exact h.asz g d
 exact .inr (a0h h.f.size d)
theorem LF.pre {a b}(h:aB [] w w1)(k:LF kb w1 a w2 b):LF kb w a w2 b:=by have d:LF kb w a w1 a:=⟨zK.over h (by simp),λg c=>.inl c⟩;exact d.trans k
theorem OW.off{base}(h:OW e k base w v vs)(f:aB S w w')(d:∀g,v.ownBlock=some g->g∉S):OW e k base w' v vs:=by
 refine⟨⟨h.1.1,?_⟩,h.2⟩;rcases h.1.2 with c|⟨g,cap,cur,rfl,b,a,rest⟩
 .exact .inl c
 refine .inr ⟨g,cap,cur,rfl,b,?_,rest⟩;rw[f.block g (a0c.1 a).1 (d g rfl)];omega
abbrev V4.lay(U:V4)(v:Value):V4:=⟨U.rt,U.x,U.q,v⟩
def TW(w0 kb w V U l)(h:LY w0 kb w V U l)(x)(M:l.length<=1000000000) :
 zF 63 #[zP kb,.agg (jT x)] w λe w'=>e=zR (zI (l.length:Nat))/\∃v,LY w0 kb w' V (U.lay v) (l++[x])/\LF kb w U.l w' v:=by
 obtain⟨rt,D,q,L⟩:=U;obtain⟨n,co,he⟩:=h.asz.shape;rw[CZ]at he;subst he;have O:=h.asz;have HR:=h.row;have I:=h.fr;have F:=h.lo;have:=h.row.lt;have:=h.fr.size;have J:∀r,Value.ownBlock (.slice n l.length co)=some r->r≠kb:=λr f=>by have:=(O.lt f).1;omega
 have y:=h.row.c 9;have B:=h.row.fz 9;simp at y;have m:=CZ l;obtain⟨op,s,a,b⟩:=x;clear h;simp only[jT];delta zF;go_in;go_wp2_with fail;go_region_law ((refine CU _ (by rfl) _ _ 49 105 _ 4 32 TS Tryz.underlying49 (by rfl) (by omega) (by rfl) w0.heap.size (.slice n l.length co) (uj l) (w.heap.size+1) (jT ⟨op,s,a,b⟩) (0,0) (by rfl) (O.aC (S:=[]) ((zG.alloc _).drew) (by simp)) (by rfl) (by rfl) (by exact Nf _ _ _) (akk _) (by rw[m];omega) (by rw[m];omega) (by simp;omega) (w.heap.size+2) (by simp) ?_;intro gg d k i j z R;rw[m]at i |-;have R4:=(HR.aC (S:=[]) ((zG.alloc _).drew) (by simp)).grown j J;have t:=R4.c 9;have C:=R4.fz 9;simp at t));all_goals
  have A:=R4.set (U':=⟨rt,D,q,zS gg (l.length+1) d⟩) (V':=V) 9 (zS gg (l.length+1) d) rfl;have E:=A.c 9;simp at E;rw[Nb]at i;have H:OW 105 4 w0.heap.size (k.setCell (zB kb 9) (zS gg (l.length+1) d)) (zS gg (l.length+1) d) (uj (l++[⟨op,s,a,b⟩])):=i.aC (S:=[kb]) ((aB.refl [kb] _).setCell (p:=(zB kb 9)) (.inl (by simp)) _) (by simp;omega);have F5:aB [kb] w0 (k.setCell (zB kb 9) (zS gg (l.length+1) d)):=((((I.alloc _).alloc _).drew).grown j (λr f=>.inr (O.lt f).1)).setCell (p:=(zB kb 9)) (.inl (by simp)) _;have o:LF kb w (.slice n l.length co) (k.setCell (zB kb 9) (zS gg (l.length+1) d)) (zS gg (l.length+1) d):=by
   refine⟨(((((aB.refl _ w).alloc _).alloc _).drew).grown j (λr f=>.inl (by simp[f]))).setCell (p:=(zB kb 9)) (.inl (by simp)) _,λg G=>?_⟩;cases G;rcases z with u|u
   .exact .inl u
   exact .inr (by show w.heap.size<=gg;omega)
  clear j i z t C y B;go_wp2;go_ret;exact⟨congrArg Ending.returned (by go_num),_,⟨A,F5,F,H⟩,o⟩
def QR(A:LN)(w:World)(v:Value)(q:List (List (Nat × Bool))):Prop:=∃cq,RW A 1 w v (fZ cq)/\dV aqu A w cq q
theorem QR.aC {q}(h:QR A w v q)(f:aB S w w')(a:∀g∈S,g∈A):QR A w' v q:=by obtain⟨d,c,b⟩:=h;exact⟨d,c.aC f a,b.aC f a⟩
def RW.con {L}(h:RW A 2 w v (cc L)):∃a cap,v=.slice a L.length cap/\∀j (b:j<L.length),∃g off,a=some (zB g off)/\g∉A/\g<w.heap.size/\zC w g (off+j*2) (zI (L[j].1:Nat))/\zC w g (off+j*2+1) (.bool L[j].2):=by obtain⟨a,cap,e,l,i⟩:=h;rw[YY]at e;refine⟨a,cap,e,λj b=>?_⟩;obtain⟨g,off,k,f,d,c⟩:=i j (by rw[YY];omega);exact⟨g,off,k,f,d,c 0 _ (by simp[cc]),c 1 _ (by simp[cc])⟩
def LU(w0 kb w V U l)(h:LY w0 kb w V U l)(q)(hq:QR [kb] w0 U.q q)(t:∀x∈q,x.length<=1000)(r y n:Nat)(N:r<q.length)(Kv:q.length<=1000)(hl:l.length<=900000000) :
 zF 79 #[zP kb,zI r,zI y,zI n] w λe w'=>e=zR (zI ((bR q[r] y n l).1:Nat))/\∃v,LY w0 kb w' V (U.lay v) (bR q[r] y n l).2/\LF kb w U.l w' v:=by
 obtain⟨rt,T,_,A⟩:=U;obtain⟨_,P,O⟩:=hq;obtain⟨_,D,e,rq⟩:=sP P O;simp only at e;subst e;obtain⟨gq,J,_,rfl,C,RU,⟨_,rfl,S⟩,k1⟩:=rq r N;obtain⟨_,_,rfl,RB⟩:=S.con;have X:=(h.fr.cell C RU).trans (k1 0 _ rfl);rw[a1H,a1Q]at X;have c8:=h.row.c 8;simp at c8;have hQ:=t q[r] (a0u N);clear P O rq k1 S t;generalize q[r]=Q at *;delta zF;go_in;go_wp2_with fail;go_loopg [2,10] Q.length (λk f B wr=>∃(j a:Nat) (x:Int) (l1:List bX) (v:Value),j<=Q.length/\k=j/\B=zI x/\x=(j:Int)-1/\f=zI a/\Z_ (l1.length=l.length+(Q.length-j))/\Z_ (bR (Q.drop j) y n l=(a,l1))/\Z_ (LY w0 kb wr V ⟨rt,T,.slice (some (zB gq J)) q.length D,v⟩ l1)/\Z_ (LF kb w A wr v));exact⟨Q.length,y,_,l,A,a0b _,rfl,rfl,by omega,rfl,by show _=_;omega,by show _=_;simp[bR],h,LF.refl _ _ _⟩
 .obtain⟨j,a,x,l1,v,_,rfl,rfl,M,rfl,d,F,L1,b⟩:=hrel;rcases gk with _|m
  .obtain rfl:x=-1:=by omega
   clear M;go_wp2;go_ret;have:=F.o;rw[a2j]at this;rw[this];exact⟨rfl,v,L1,b⟩
  obtain rfl:x=(m:Int):=by omega
  clear M;obtain⟨gc,L,rfl,R,g,I,H⟩:=RB m (by omega);have W:=(L1.o.fr.cell (p:=(zB gc (L+m*2))) g R).trans I;have s1:=(L1.o.fr.cell (p:=(zB gc (L+m*2+1))) g R).trans H;have:=a0t g L1.o.fr.size;have z:bR (Q.drop m) y n l=(l1.length,l1++[if Q[m].2 then ⟨2,Q[m].1,a,n⟩ else ⟨2,Q[m].1,n,a⟩]):=by rw[a0k (by omega),bR,F.o]
  generalize Q[m]=c at *;obtain⟨ct,Y⟩:=c;simp only at W s1 z;clear I H F;cases Y with
  | true =>
    have G:Z_ (bR (Q.drop m) y n l=(l1.length,l1++[⟨2,ct,a,n⟩])):=z;have i:=(TW w0 kb (wr.alloc (.cells #[zI 2,zI ct,zI a,zI n] 105)) V _ l1 (L1.o.aC zG) ⟨2,ct,a,n⟩ (by rw[d.o];omega));simp only[jT]at i;clear z;go_wp2_with fail;refine i.mono ?_;rintro e w2 ⟨rfl,f,E,u⟩;have s:Z_ (LF kb w A w2 f):=b.o.trans (u.pre zG);clear i u b;go_wp2;go_roundg m;exact⟨m,l1.length,_,_,f,by omega,rfl,rfl,by omega,rfl,by show _=_;simp[d.o];omega,G,E,s⟩;omega
  | false =>
    have G:Z_ (bR (Q.drop m) y n l=(l1.length,l1++[⟨2,ct,n,a⟩])):=z;have i:=(TW w0 kb (wr.alloc (.cells #[zI 2,zI ct,zI n,zI a] 105)) V _ l1 (L1.o.aC zG) ⟨2,ct,n,a⟩ (by rw[d.o];omega));simp only[jT]at i;clear z;go_wp2_with fail;refine i.mono ?_;rintro e w2 ⟨rfl,f,E,u⟩;have s:Z_ (LF kb w A w2 f):=b.o.trans (u.pre zG);clear i u b;go_wp2;go_roundg m;exact⟨m,l1.length,_,_,f,by omega,rfl,rfl,by omega,rfl,by show _=_;simp[d.o];omega,G,E,s⟩;omega
theorem ahW(wr:World)(q v t):((wr.drewN q).alloc (Obj.cells #[v] t)).cell? ⟨wr.heap.size,0,none⟩=some v:=by
 have h:((wr.drewN q).alloc (.cells #[v] t)).heap[wr.heap.size]?=some (.cells #[v] t):=bD _ _;unfold World.cell?;simp only[h];rfl
def OU(C:List CR)(r j:Nat):Bool:=decide (r<j)&&(par C j==some r)
theorem abu(C r):kids C r=(List.range C.length).filter (OU C r):=rfl
def ahX(C r):(List.range (r+1)).filter (OU C r)=[]:=by rw[List.filter_eq_nil_iff];intro j a;rw[a2b]at a;simp[OU];omega
def akl(C r j)(h:r<j):(List.range (j+1)).filter (OU C r)=(List.range j).filter (OU C r)++(if (par C j==some r)=true then [j] else []):=by
 rw[List.range_succ,a3v];congr 1;cases a:(par C j==some r)<;>simp[OU,h,a]
def aqx(C)(j r:Nat):(Gn C j==(r:Int))=(par C j==some r):=by
 unfold Gn;cases par C j with
 | none=>simp
 | some p=>rw[a0T];simp;omega
def YH(kb w V U)(s:KR w kb V U)(C)(zV:QH [kb] w U.rt C)(hC:C.length<=1000)(hd:∀c∈C,c.d<=1048576)(r)(q:r<C.length) :
 zF 78 #[zP kb,zI r] w λe w'=>∃v,e=zR v/\aB [] w w'/\OW 3 1 w.heap.size w' v (ic (kids C r)):=by
 obtain⟨rt,L,N,P⟩:=U;obtain⟨D,R,l⟩:∃a cap,rt=.slice a C.length cap:=by obtain⟨Z,A,z⟩:=zV;obtain⟨a,cap,e,_⟩:=sP A z;exact⟨a,cap,e⟩
 subst l;delta zF;go_in;go_wp2_with fail;go_loopg [5,6] (C.length-(r+1)) (λk u t wr=>∃(j:Nat) (acc:LN),r<j/\j+k=C.length/\t=zI j/\Z_ (acc=(List.range j).filter (OU C r))/\acc.length<=j/\aB [] w wr/\OW 3 1 w.heap.size wr u (ic acc));exact⟨r+1,[],by omega,by omega,by go_num,by show _=_;exact(ahX _ _).symm,by simp,zJ,OW.empty _ _ _ _ (a0b _)⟩
 .obtain⟨j,acc,i,W,rfl,b,X,F,O⟩:=hrel;obtain⟨E,co,he⟩:=O.shape;rw[TM]at he;subst he;have:=F.size;have c6:=(s.aC F (by simp)).c 6;simp at c6;by_cases G:j<C.length
  .have h:=OT _ _ [kb] C (zV.aC F (by simp)) (by omega) hd j G;have f:=aqx C j r;have g:=akl C r j i;generalize Gn C j=T at *;cases hb:(par C j==some r)
   .have n:Z_ (acc=(List.range (j+1)).filter (OU C r)):=by show _=_;rw[g,hb,b.o];simp
    rw[hb]at f;clear g b hb;go_wp2_with fail;refine h.mono ?_;rintro e w2 ⟨rfl,p,rfl⟩;clear h;go_wp2;go_roundg (gk-1);exact⟨j+1,acc,by omega,by omega,by go_num,n,by omega,F.drewN _,O.aC ((aB.refl [] _).drewN _) (by simp)⟩;omega
   have n:Z_ (acc++[j]=(List.range (j+1)).filter (OU C r)):=by show _=_;rw[g,hb,b.o];simp
   rw[hb]at f;clear g b hb;go_wp2_with fail;refine h.mono ?_;rintro e _ ⟨rfl,p,rfl⟩;clear h;go_wp2_with (at_builtin;refine anu _ rfl _ _ rfl w.heap.size (.slice E acc.length co) acc wr.heap.size j rfl (O.aC (S:=[]) (((aB.refl [] _).drewN p).alloc _) (by simp)) rfl (ahW _ _ _ _) (by omega) (by simp;omega) ?_;intro Y _ M H J m _;clear m);go_roundg (gk-1);exact⟨j+1,acc++[j],by omega,by omega,by go_num,n,by simp;omega,((F.drewN _).alloc _).grown J (λr q=>.inr (O.lt q).1),H⟩;omega
  have y:j=C.length:=by omega
  have I:Z_ (acc=kids C r):=by show _=_;rw[b.o,y,abu]
  clear b;go_wp2;go_ret;rw[<-I.o];exact⟨_,rfl,F,O⟩
theorem Ei(y n l):∀q:List (Nat × Bool),(bR q y n l).2.length=l.length+q.length
 | []=>rfl
 | c::r=>by simp[bR,Ei y n l r];omega
def bnd:Nat->Nat
 | 0=>0
 | f+1=>16*(bnd f+8)+1
theorem Xl {q:List (List (Nat × Bool))}(hq:∀x∈q,x.length<=4)(c):(q.getD c []).length<=4:=by grind
def Ng {rec:Nat->Nat->List bX->Nat × List bX} {R}(a:∀c d l,(rec c d l).2.length<=l.length+R)(C) {q}(hq:∀x∈q,x.length<=4)(d l):∀K:LN,(ji rec C q d l K).2.2.length<=l.length+K.length*(R+4)
 | []=>by simp[ji]
 | c::r=>by have h:=Ng a C hq d l r;rw[ji];generalize ji rec C q d l r=x at *;have:=a c (if (C[c]?.map (·.co))=some true then x.1 else d) x.2.2;generalize rec c (if (C[c]?.map (·.co))=some true then x.1 else d) x.2.2=b at *;have:=Ei b.1 x.1 b.2 (q.getD c []);have:=Xl hq c;show(bR _ _ _ _).2.length<=_;rw[a0r,a0J];omega
def VF {q}(hq:∀x∈q,x.length<=4)(first l):∀Z:List (Nat × Nat),(lS q first l Z).2.length<=l.length+Z.length*4
 | []=>by simp[lS]
 | z::r=>by
   have c:=VF hq first l r
   rw[lS];have b:=Ei z.2 (lS q first l r).1 (lS q first l r).2 (q.getD z.1 []);have a:=Xl hq z.1;rw[a0r,a0J];omega
theorem ad4(C r):(kids C r).length<=C.length:=by grind [abu]
def Gp(hC:C.length<=16) {q}(hq:∀x∈q,x.length<=4):∀f r d l,(ig C q f r d l).2.length<=l.length+bnd f
 | 0,_,_,l=>by simp[ig]
 | f+1,r,d,l=>by
   have g:=Ng (Gp hC hq f) C hq d l (kids C r);rw[ig];generalize ji (ig C q f) C q d l (kids C r)=x at *;have a:=VF hq x.2.2.length (x.2.2++[⟨1,r,d,0⟩]) ((kids C r).zip x.2.1);have:=ad4 C r;have:((kids C r).zip x.2.1).length<=(kids C r).length:=by rw[List.length_zip];omega
   have:(kids C r).length*(bnd f+4)<=16*(bnd f+4):=a0z _ (by omega);simp at a;rw[bnd];omega
theorem Xm:∀{i p},nQ C d i=some p->p<i/\∃c,C[p]?=some c/\c.d+1=d
 | 0,p,h=>by simp[nQ]at h
 | j+1,p,h=>by
   rw[nQ]at h;split at h
   .grind
   obtain⟨b,a⟩:=Xm h;exact⟨by omega,a⟩
theorem anA {r c}(h:c∈kids C r)(a:r<C.length):∃b:c<C.length,r<c/\C[r].d+1=C[c].d:=by grind [abu,OU,par,Xm]
structure LC(w0:World)(kb:Nat)(rt vq:Value)(C:List CR)(q:List (List (Nat × Bool))):Prop where
 zV:QH [kb] w0 rt C
 hq:QR [kb] w0 vq q
 ql:q.length=C.length
 qb:∀x∈q,x.length<=4
 cl:C.length<=16
 d:∀c∈C,c.d<=5
def BG(w:World)(gb:Nat)(L:LN):Prop:=w.heap[gb]?=some (.cells (nv .i64 L).toArray 3 (0,0))
theorem BG.cell(h:BG w gb L)(i)(a:i<L.length):zC w gb i (zI (L[i]:Nat)):=by unfold BG at h;simp[World.cell?,h,nv,a]
theorem BG.fz(h:BG w gb L)(i):w.frozen? (zB gb i)=false:=by unfold BG at h;simp[World.frozen?,h]
theorem BG.lt(h:BG w gb L):gb<w.heap.size:=(a0c.1 h).1
theorem BG.aC(h:BG w gb L)(f:aB S w w')(a:gb∉S):BG w' gb L:=(f.block gb h.lt a).trans h
theorem BG.set(h:BG w gb L)(i y:Nat):BG (w.setCell (zB gb i) (zI y)) gb (L.set i y):=by unfold BG at h |-;simp[World.setCell,a0v,h,nv,a2d]
def ad5:(Tryz.prog.info? 3).map (λi=>(i.zero,i.size,i.bytes))=some (some (zI 0),1,8):=by kernel_rfl
theorem akm(n):madeCells #[zI 0] n=(nv .i64 (List.replicate n 0)).toArray:=by
 apply Array.ext
 .simp[size_madeCells,nv]
 intro i b a;simp[madeCells,nv,Nat.mod_one]
def anB(n:Nat)(f:n<=1000000)(u):(Instr.makeSlice 63 (zI (n:Int)) (zI (n:Int))).run Tryz.prog u=.ok (zS u.heap.size n n) (u.alloc (.cells (nv .i64 (List.replicate n 0)).toArray 3)):=by obtain⟨a,b,gT,d,c⟩:=kg ad5;have:=run_make (P:=Tryz.prog) u 63 3 a _ Tryz.underlying63 b gT .i64 .i64 (n:Int) (n:Int) (by omega) (a3n _) (by rw[c];omega) (by omega);rw[d,a2A,a1H]at this;rw[this];have e:(Value.int .i64 0).cells=#[zI 0]:=rfl;rw[e,akm]
theorem QH.co(h:QH A w v C):∃a cap,v=.slice a C.length cap/\∀j (b:j<C.length),∃g off,a=some (zB g off)/\g∉A/\g<w.heap.size/\zC w g (off+j*9+8) (.bool C[j].co):=by obtain⟨l,i,f⟩:=h;obtain⟨a,cap,e,r⟩:=sP i f;refine⟨a,cap,e,λj b=>?_⟩;obtain⟨g,off,cs,k,d,c,⟨ek,iJ,rfl,_⟩,k1⟩:=r j b;exact⟨g,off,k,c,d,k1 8 _ rfl⟩
theorem OW.awY {base}(h:OW 3 1 base w v (ic L)):∃a cap,v=.slice a L.length cap/\∀j (d:j<L.length),∃g,a=some (zA g)/\v.ownBlock=some g/\g<w.heap.size/\zC w g j (zI (L[j]:Nat)):=by
 obtain⟨a,cap,e⟩:=h.shape;rw[TM]at e;subst e;refine⟨a,cap,rfl,λj d=>?_⟩;obtain⟨o,i,b,k⟩:=(h.rw (A:=[]) (by simp)).num;simp only[Value.slice.injEq,a1W]at b;obtain⟨rfl,rfl⟩:=b;obtain⟨g,off,rfl,l,f⟩:=k j d;have c:=h.1.2;rcases c with m|⟨n,i,cur,b,_⟩
 .grind
 simp only[Value.slice.injEq,Option.some.injEq,Addr.mk.injEq]at b;obtain⟨⟨rfl,rfl,_⟩,_⟩:=b;rw[a1n]at f;exact⟨_,rfl,rfl,l,f⟩
theorem LY.off {U l}(h:LY w0 kb w V U l)(f:aB S w w')(b:kb∉S)(c:∀g∈S,w0.heap.size<=g)(ho:∀g,U.l.ownBlock=some g->g∉S):LY w0 kb w' V U l :=
 ⟨h.row.aC f b,h.fr.over f (λx a=>.inl (c x a)),h.lo,h.asz.off f ho⟩
def TX {b wr e}{c i:Value}(F:aB S b wr)(k:kb∈S)(j:∀g,c.ownBlock=some g->g∈S)(OV:∀g,v.ownBlock=some g->c.ownBlock=some g\/b.heap.size<=g)(h:LF kb wr v e i) :
 aB S b e/\∀g,i.ownBlock=some g->c.ownBlock=some g\/b.heap.size<=g:=by
 refine⟨F.over h.f ?_,λg l=>?_⟩
 .intro x d;rcases a0l.1 d with rfl|d
  .exact .inr k
  rcases OV x (by simpa using d) with a|a
  .exact .inr (j x a)
  omega
 rcases h.asz g l with a|a
 .exact OV g a
 exact .inr (a0h F.size a)
theorem anC(m b L):(List.replicate (m+1) 0++L).set m b=List.replicate m 0++(b::L):=by rw[List.replicate_succ',a0M,a1v _ _ (by simp)];simp
def aqy(rec:Nat->Nat->List bX->Nat × List bX)(C q d l)(K:LN)(m c)(f:m<K.length)(g:K[m]=c)(i:c<C.length)(hq:c<q.length) {sec a}(h:ji rec C q d l (K.drop (m+1))=(sec,a,l1)) {l2}(hb:rec c (if C[c].co then sec else d) l1=(b,l2)) :
 ji rec C q d l (K.drop m)=((bR q[c] b sec l2).1,b::a,(bR q[c] b sec l2).2):=by
 subst g;have e:(if (C[K[m]]?.map (·.co))=some true then sec else d)=(if C[K[m]].co then sec else d):=by rw[a0a i];simp
 rw[a0k f,ji,h];simp only[e,hb];rw[a0x,a0a hq];rfl
def aqz(q first l)(K a:LN)(m c)(f:m<K.length)(d:K[m]=c)(hq:c<q.length)(e:m<a.length) {b}(h:lS q first l ((K.zip a).drop (m+1))=(b,l1)) :
 lS q first l ((K.zip a).drop m)=bR q[c] a[m] b l1:=by
 subst d;rw[a0k (by rw[List.length_zip];omega),lS,h];simp only[List.getElem_zip];rw[a0x,a0a hq];rfl
def LRQ(w0:World)(kb:Nat)(V:V6)(rt a b:Value)(C:List CR)(q:List (List (Nat × Bool)))(f:Nat):Prop :=
 ∀(r d:Nat) (w:World) (c:Value) (l:List bX),LY w0 kb w V ⟨rt,a,b,c⟩ l->(g:r<C.length)->6<=C[r].d+f->l.length+bnd f<=800000000 ->
  zF 64 #[zP kb,zI r,zI d] w λe w'=>e=zR (zI ((ig C q f r d l).1:Nat))/\∃v,LY w0 kb w' V ⟨rt,a,b,v⟩ (ig C q f r d l).2/\LF kb w c w' v
def abv(w0 kb V rt M L C q)(s:LC w0 kb rt L C q)(f)(ih:LRQ w0 kb V rt M L C q f):LRQ w0 kb V rt M L C q (f+1):=by
 intro r d w U l L0 hr hf hl;have uA:=s.cl;have Kv:=s.ql;have hKl:=ad4 C r;have N1:=YH _ _ V ⟨rt,M,L,U⟩ L0.row _ (s.zV.aC L0.fr (by simp)) (by omega) (λc h=>by have:=s.d c h;omega) _ hr;have HKM:∀c∈kids C r,∃s:c<C.length,r<c/\C[r].d+1=C[c].d:=λc h=>anA h hr;have HR:ig _ _ (f+1) r d l=lS _ _ _ ((kids C r).zip (ji (ig C q f) C q d l (kids C r)).2.1):=rfl;have jU:=L0.lo;have gT:=L0.fr.size;have E:∀g,U.ownBlock=some g->g<w.heap.size:=λg i=>(L0.asz.lt i).2;obtain⟨art,uR,ert,HCO⟩:=s.zV.co;subst ert;have uh:∀y,ji (ig C q f) C q d l (kids C r)=y->y.2.2.length<=l.length+16*(bnd f+4):=by intro y Y;have a:=Ng (Gp s.cl s.qb f) C s.qb d l (kids C r);have h2:(kids C r).length*(bnd f+4)<=16*(bnd f+4):=a0z _ (by omega);rw[<-Y];omega
 have HB1:∀n,n+1<=(kids C r).length->∀y,ji (ig C q f) C q d l ((kids C r).drop (n+1))=y->y.2.2.length<=l.length+15*(bnd f+4):=by intro n _ y Y;have a:=Ng (Gp s.cl s.qb f) C s.qb d l ((kids C r).drop (n+1));have h2:((kids C r).drop (n+1)).length*(bnd f+4)<=15*(bnd f+4):=a0z _ (by rw[a2F];omega);rw[<-Y];omega
 have yX:bnd (f+1)=16*(bnd f+8)+1:=rfl;have jE:l.length+16*(bnd f+8)+1<=800000000:=by have:=yX;omega
 have Yz:C[r].d+(f+1)≥6:=hf;clear hf hl yX;generalize C[r].d=dr at *;generalize kids C r=K at *;have Oh:=anB K.length (by omega);delta zF;go_in;go_wp2_with fail;refine N1.mono ?_;clear N1;rintro e w1 ⟨_,rfl,sZ,hO1⟩;obtain⟨ak,ck,rfl,HK⟩:=hO1.awY;have HKB:∀g,Value.ownBlock (.slice ak K.length ck)=some g->w.heap.size<=g:=λg i=>(hO1.lt i).1;obtain⟨S,D⟩:∃S,S=w1.alloc (.cells (nv .i64 (List.replicate K.length 0)).toArray 3):=⟨_,rfl⟩;have A:aB [] w1 S:=by rw[D];exact zG
 have fM:=sZ.size;have I:S.heap.size=w1.heap.size+1:=by rw[D];simp[Z_]
 have HBG:BG S w1.heap.size (List.replicate K.length 0):=by rw[D];exact bD _ _
 clear hO1;go_wp2_with fail;go_loopg [9,10] K.length (λk v9 v10 wr=>∃(j sec:Nat) (x:Int) (o:LN) (l1:List bX) (v:Value),j<=K.length/\k=j/\v10=zI x/\x=(j:Int)-1/\v9=zI sec/\(ji (ig C q f) C q d l (K.drop j)=(sec,o,l1))/\(o.length=K.length-j)/\(LY w0 kb wr V ⟨.slice art C.length uR,M,L,v⟩ l1)/\(BG wr w1.heap.size (List.replicate j 0++o))/\(aB (kb::w1.heap.size::U.ownBlock.toList) S wr)/\(∀g,v.ownBlock=some g->U.ownBlock=some g\/S.heap.size<=g))
 case atStart =>
  refine⟨K.length,d,_,[],l,U,a0b _,rfl,rfl,by omega,rfl,?_,?_,?_,?_,?_,?_⟩
  .show _=_;simp[ji]
  .show _=_;simp
  .show LY _ _ _ _ _ _;rw[<-D];exact L0.aC (sZ.trans A)
  .show BG _ _ _;rw[<-D,a0R];exact HBG
  .show aB _ _ _;rw[<-D];exact zK
  exact λg i=>.inl i
 case round =>
  obtain⟨j,sec,x,o,l1,v,_,rfl,rfl,G,rfl,HV,yX,L1,B1,FO,OV⟩:=hrel;have Dt:∀g,v.ownBlock=some g->g≠w1.heap.size:=λg i e=>by
   have h2:=I;rcases OV g i with a|a
   .have:=E g a;omega
   omega
  have r6:=L1.row.c 6;simp at r6;rcases gk with _|m
  .obtain rfl:x=-1:=by omega
   clear G;have N:=HV;rw[a2j]at N;have kM:=uh _ N;simp only at kM;have Bq:=yX;have tV:ig C q (f+1) r d l=lS q l1.length (l1++[⟨1,r,d,0⟩]) (K.zip o):=by have:=HR;rw[N]at this;exact this
   have B0:BG wr w1.heap.size o:=by show BG _ _ _;have:=B1;simpa using this
   have z:kb≠w1.heap.size:=by omega
   have N4:=TW w0 kb wr V _ l1 L1 ⟨1,r,d,0⟩ (by omega);simp only[jT]at N4;have QJ:(l1++[(⟨1,r,d,0⟩:bX)]).length=l1.length+1:=by show _=_;simp
   clear N HV yX HR uh HB1 ih;go_wp2_with fail;refine N4.mono ?_;clear N4;rintro e w3 ⟨rfl,v3,L3,t⟩;obtain⟨FO3,B⟩:=TX FO (by simp) (λg i=>by simp[i]) OV t;have B3:=(B0.aC t.f (by intro h;simp at h;rcases h with a|a;exact z a.symm;exact Dt _ a rfl));clear t;generalize oP:l1++[(⟨1,r,d,0⟩:bX)]=l2 at *;clear oP;go_wp2_with fail;go_loopg [14,15] K.length (λk v14 v15 wr=>∃(j Z:Nat) (x:Int) (X:List bX) (v:Value),j<=K.length/\k=j/\v15=zI x/\x=(j:Int)-1/\v14=zI Z/\(lS q l1.length l2 ((K.zip o).drop j)=(Z,X))/\(LY w0 kb wr V ⟨.slice art C.length uR,M,L,v⟩ X)/\(BG wr w1.heap.size o)/\(aB (kb::w1.heap.size::U.ownBlock.toList) S wr)/\(∀g,v.ownBlock=some g->U.ownBlock=some g\/S.heap.size<=g))
   case atStart =>
    refine⟨K.length,l1.length,_,l2,v3,a0b _,rfl,rfl,by omega,rfl,?_,L3,B3,FO3,B⟩;show _=_;rw[a0i (by rw[List.length_zip];omega)];rfl
   case round =>
    obtain⟨j,Z,x,X,v4,_,rfl,rfl,G,rfl,J,L4,B4,F,OV4⟩:=hrel;rcases gk with _|m
    .obtain rfl:x=-1:=by omega
     clear G;have hv4:=J;rw[a2j]at hv4;have PZ:ig C q (f+1) r d l=(Z,X):=tV.trans hv4;have HLF:LF kb w U wr v4:=by
      refine⟨(zK.over (sZ.trans A) (by simp)).over F ?_,λg i=>?_⟩
      .intro y Y;simp at Y;rcases Y with rfl|rfl|Y
       .exact .inr (by simp)
       .exact .inl (by omega)
       exact .inr (by simp[Y])
      rcases OV4 g i with a|a
      .exact .inl a
      exact .inr (by have:=I;omega)
     clear hv4 J;go_wp2;go_ret;rw[PZ];exact⟨rfl,v4,L4,HLF⟩
    obtain rfl:x=(m:Int):=by omega
    clear G;obtain⟨gk,rfl,iD,RU,p0⟩:=HK m (by omega);have hgw:=HKB gk iD;have s0:zC wr gk m (zI (K[m]:Nat)):=by
     refine(F.cell (p:=(zB gk m)) (a0t RU A.size) ?_).trans ((A.cell (p:=(zB gk m)) RU (by simp)).trans p0);intro h;simp at h;rcases h with a|a|a
     .omega
     .omega
     have:=E gk a;omega
    obtain⟨c,O⟩:∃c,K[m]=c:=⟨_,rfl⟩;rw[O]at s0;obtain⟨P,rP,hdc⟩:=HKM c (by rw[<-O];exact a0u _);have hqc:c<q.length:=by omega
    have hbm:m<o.length:=by omega
    have t0:=B4.cell m hbm;have hl3:X.length<=900000000:=by have a:=VF s.qb l1.length l2 ((K.zip o).drop (m+1));rw[J]at a;simp only[a2F,List.length_zip]at a;have:=QJ;omega
    have T:=aqz q l1.length l2 K o m c (by omega) O hqc hbm J;have N5:∀W,aB [] wr W->zF 79 #[zP kb,zI (c:Nat),zI (o[m]:Nat),zI (Z:Nat)] W λe w'=>e=zR (zI ((bR q[c] o[m] Z X).1:Nat))/\∃v,LY w0 kb w' V ⟨.slice art C.length uR,M,L,v⟩ (bR q[c] o[m] Z X).2/\LF kb W v4 w' v:=λW hW=>LU w0 kb W V _ X (L4.aC hW) q s.hq (λx G=>by have:=s.qb x G;omega) c o[m] Z hqc (by omega) hl3;generalize o[m]=bm at *;have FN:aB [] wr wr.drew:=(aB.refl [] _).drew;clear J O p0 iD;go_wp2_with fail;go_region_with (go_at_call 79;refine(N5 _ FN).mono ?_;rintro e w6 ⟨rfl,v6,L6,aqA⟩);all_goals
     obtain⟨FO6,OV6⟩:=TX F (by simp) (λg i=>by simp[i]) OV4 (aqA.pre FN);have B6:BG w6 w1.heap.size o:=by
      refine(B4.aC FN (by simp)).aC aqA.f ?_;intro h;simp at h;rcases h with a|a
      .exact z a.symm
      have h2:=I;rcases OV4 _ a with h3|h3
      .have:=E _ h3;omega
      omega
     clear aqA;go_wp2;go_roundg m;exact⟨m,_,_,_,v6,by omega,rfl,rfl,by omega,rfl,T,L6,B6,FO6,OV6⟩;omega
  obtain rfl:x=(m:Int):=by omega
  clear G;obtain⟨gk,rfl,iD,RU,p0⟩:=HK m (by omega);have:=HKB gk iD;have s0:zC wr gk m (zI (K[m]:Nat)):=by
   refine(FO.cell (p:=(zB gk m)) (a0t RU A.size) ?_).trans ((A.cell (p:=(zB gk m)) RU (by simp)).trans p0);intro h;simp at h;rcases h with a|a|a
   .omega
   .omega
   have:=E gk a;omega
  obtain⟨c,HKE⟩:∃c,K[m]=c:=⟨_,rfl⟩;rw[HKE]at s0;obtain⟨P,_,_⟩:=HKM c (by rw[<-HKE];exact a0u _);have:c<q.length:=by omega
  obtain⟨gr,or,rfl,awZ,atQ,t0⟩:=HCO c P;have s8:=(L1.fr.cell (p:=(zB gr (or+c*9+8))) atQ awZ).trans t0;have kv:=HB1 m (by omega) _ HV;simp only at kv;have xZ:∀R:Nat,(ig C q f c R l1).2.length<=l1.length+bnd f:=λR=>Gp s.cl s.qb f c R l1;have HN3:∀(u:World) (vu:Value) (lu:List bX) (yy nn:Nat),LY w0 kb u V ⟨.slice (some (zB gr or)) C.length uR,M,L,vu⟩ lu->lu.length<=900000000->zF 79 #[zP kb,zI (c:Nat),zI yy,zI nn] u λe w'=>e=zR (zI ((bR q[c] yy nn lu).1:Nat))/\∃v,LY w0 kb w' V ⟨.slice (some (zB gr or)) C.length uR,M,L,v⟩ (bR q[c] yy nn lu).2/\LF kb u vu w' v:=λu vu lu yy nn hu hlu=>LU w0 kb u V _ lu hu q s.hq (λx G=>by have:=s.qb x G;omega) c yy nn (by omega) (by omega) hlu;have sU:6<=C[c].d+f:=by omega
  have ZX:l1.length+bnd f<=800000000:=by omega
  have HN2:∀R:Nat,zF 64 #[zP kb,zI (c:Nat),zI (R:Nat)] wr λe w'=>e=zR (zI ((ig C q f c R l1).1:Nat))/\∃v',LY w0 kb w' V ⟨.slice (some (zB gr or)) C.length uR,M,L,v'⟩ (ig C q f c R l1).2/\LF kb wr v w' v':=λR=>ih c R wr v l1 L1 P sU ZX;clear t0 p0;obtain⟨bd,H⟩:∃bd,bd=if C[c].co then sec else d:=⟨_,rfl⟩
  have N2:=HN2 bd;have jR:=xZ bd;have HLB:∀x,ig C q f c bd l1=x->ji (ig C q f) C q d l (K.drop m)=((bR q[c] x.1 sec x.2).1,x.1::o,(bR q[c] x.1 sec x.2).2):=λx G=>aqy _ C q d l K m c (by omega) HKE P (by omega) HV (b:=x.1) (l2:=x.2) (by rw[<-H];exact G);generalize Yv:ig C q f c bd l1=bb at *;have T:=HLB bb rfl;obtain⟨b,l2⟩:=bb;simp only at N2 jR T;have:=yX;have z:kb≠w1.heap.size:=by omega
  have:=Ei b sec l2 q[c];clear HLB Yv HV xZ HN2 sU kv yX iD;cases HCO:C[c].co;all_goals
   rw[HCO]at H s8;simp only[a0G,a0A,a0I]at H;rw[H]at N2;clear H;go_wp2_with fail;refine N2.mono ?_;clear N2;rintro e w3 ⟨rfl,v3,hL3,t⟩;obtain⟨Gq,B⟩:=TX FO (by simp) (λg i=>by simp[i]) OV t;have B3:=B1.aC t.f (by intro h;simp at h;rcases h with a|a;exact z a.symm;exact Dt _ a rfl);have y0:=B3.cell m (by simp;omega);have y1:=B3.fz m;have atS:∀g,v3.ownBlock=some g->g≠w1.heap.size:=λg i e=>by
    have h2:=I;rcases B g i with a|a
    .have:=E g a;omega
    omega
   have FB:aB [w1.heap.size] w3 (w3.setCell (zB w1.heap.size m) (zI (b:Nat))):=zK.setCell (p:=(zB w1.heap.size m)) (.inl (by simp)) _;have hL4:=hL3.off FB (by simp;exact z) (by simp;omega) (λg i=>by simp;exact atS g i);have N3:=HN3 _ v3 l2 b sec hL4 (by omega);have B4:=B3.set m b;have F:=Gq.over FB (by simp);clear hL3 t Gq B3 atS FB hL4;go_wp2_with fail;refine N3.mono ?_;clear N3;rintro e w5 ⟨rfl,v5,L5,aqB⟩;obtain⟨FO5,OV5⟩:=TX F (by simp) (λg i=>by simp[i]) B aqB;have B5:BG w5 w1.heap.size (List.replicate m 0++(b::o)):=by
    rw[<-anC];refine B4.aC aqB.f ?_;intro h;simp at h;rcases h with a|a
    .exact z a.symm
    have:=I;rcases B _ a with h3|h3
    .have:=E _ h3;omega
    omega
   clear aqB B4 F B y0 y1;go_wp2;go_roundg m;exact⟨m,_,_,b::o,_,v5,by omega,rfl,rfl,by omega,rfl,T,by show _=_;simp;omega,L5,B5,FO5,OV5⟩;omega
def O0(w0 kb V rt b a C q)(c:LC w0 kb rt a C q):∀f,LRQ w0 kb V rt b a C q f
 | 0=>by intro r d w g l h e j i;have:=c.d C[r] (a0u e);omega
 | f+1=>abv w0 kb V rt b a C q c f (O0 w0 kb V rt b a C q c f)
def NB(w:World)(g:Nat)(N:List Int):Prop:=w.heap[g]?=some (.cells (N.map λn=>Value.int .i64 n).toArray 3 (0,0))
def RB(w:World)(g:Nat)(R:List Bool):Prop:=w.heap[g]?=some (.cells (R.map λb=>Value.bool b).toArray 4 (0,0))
theorem NB.cell {L}(h:NB w g L)(i)(a:i<L.length):zC w g i (zI L[i]):=by unfold NB at h;simp[World.cell?,h,a]
theorem NB.fz {L}(h:NB w g L)(i):w.frozen? (zB g i)=false:=by unfold NB at h;simp[World.frozen?,h]
theorem NB.lt {L}(h:NB w g L):g<w.heap.size:=(a0c.1 h).1
theorem NB.aC {L}(h:NB w g L)(f:aB S w w')(a:g∉S):NB w' g L:=(f.block g h.lt a).trans h
theorem NB.set {L:List Int}(h:NB w g L)(i:Nat)(y:Int):NB (w.setCell (zB g i) (zI y)) g (L.set i y):=by unfold NB at h |-;simp[World.setCell,a0v,h,a2d]
theorem RB.cell {L}(h:RB w g L)(i)(a:i<L.length):zC w g i (.bool L[i]):=by unfold RB at h;simp[World.cell?,h,a]
theorem RB.fz {L}(h:RB w g L)(i):w.frozen? (zB g i)=false:=by unfold RB at h;simp[World.frozen?,h]
theorem RB.lt {L}(h:RB w g L):g<w.heap.size:=(a0c.1 h).1
theorem RB.aC {L}(h:RB w g L)(f:aB S w w')(a:g∉S):RB w' g L:=(f.block g h.lt a).trans h
theorem RB.set {L}(h:RB w g L)(i y):RB (w.setCell (zB g i) (.bool y)) g (L.set i y):=by unfold RB at h |-;simp[World.setCell,a0v,h,a2d]
def akn:(Tryz.prog.info? 4).map (λi=>(i.zero,i.size,i.bytes))=some (some (.bool false),1,1):=by kernel_rfl
theorem ahY(n):madeCells #[.bool false] n=((List.replicate n false).map λb=>Value.bool b).toArray:=by
 apply Array.ext
 .simp[size_madeCells]
 intro i c a;simp[madeCells,Nat.mod_one]
def abx(n:Nat)(g:n<=1000000000)(u):(Instr.makeSlice 98 (zI (n:Int)) (zI (n:Int))).run Tryz.prog u=.ok (zS u.heap.size n n) (u.alloc (.cells ((List.replicate n false).map λb=>Value.bool b).toArray 4)):=by obtain⟨a,c,gT,f,d⟩:=kg akn;have:=run_make (P:=Tryz.prog) u 98 4 a _ Tryz.underlying98 c gT .i64 .i64 (n:Int) (n:Int) (by omega) (a3n _) (by rw[d];omega) (by omega);rw[f,a2A,a1H]at this;rw[this];have e:(Value.bool false).cells=#[.bool false]:=rfl;rw[e,ahY]
theorem ahZ(n):madeCells #[zI 0] n=((List.replicate n (0:Int)).map λb=>Value.int .i64 b).toArray:=by
 apply Array.ext
 .simp[size_madeCells]
 intro i c a;simp[madeCells,Nat.mod_one]
def ako(n:Nat)(g:n<=1000000000)(u):(Instr.makeSlice 63 (zI (n:Int)) (zI (n:Int))).run Tryz.prog u=.ok (zS u.heap.size n n) (u.alloc (.cells ((List.replicate n (0:Int)).map λb=>Value.int .i64 b).toArray 3)):=by obtain⟨a,c,gT,f,d⟩:=kg ad5;have:=run_make (P:=Tryz.prog) u 63 3 a _ Tryz.underlying63 c gT .i64 .i64 (n:Int) (n:Int) (by omega) (a3n _) (by rw[d];omega) (by omega);rw[f,a2A,a1H]at this;rw[this];have e:(Value.int .i64 0).cells=#[zI 0]:=rfl;rw[e,ahZ]
theorem RW.ins {L}(h:RW A 4 w v (uj L)):∃a cap,v=.slice a L.length cap/\∀j (d:j<L.length),∃g off,a=some (zB g off)/\g<w.heap.size/\zC w g (off+j*4) (zI (L[j].op:Nat))/\zC w g (off+j*4+1) (zI (L[j].x:Nat))/\zC w g (off+j*4+2) (zI (L[j].a:Nat))/\zC w g (off+j*4+3) (zI (L[j].b:Nat)):=by obtain⟨a,cap,e,m,i⟩:=h;rw[CZ]at e;refine⟨a,cap,e,λj d=>?_⟩;obtain⟨g,off,k,l,f,c⟩:=i j (by rw[CZ];omega);exact⟨g,off,k,f,c 0 _ (by simp[uj,jT]),c 1 _ (by simp[uj,jT]),c 2 _ (by simp[uj,jT]),c 3 _ (by simp[uj,jT])⟩
def aby(w v A l)(h:RW A 4 w v (uj l))(G:GL l)(first)(hf:first < l.length)(hl:l.length<=900000000) :
 zF 80 #[v,zI first] w λe w'=>∃g,e=zR (zS g l.length l.length)/\aB [] w w'/\w.heap.size<=g/\NB w' g (numsOf l first):=by
 obtain⟨a,_,rfl,R⟩:=h.ins;have W:=G;have:=ako l.length (by omega);have:=abx l.length (by omega);delta zF;go_in;go_wp2;go_loopg [7,8] l.length (λk v7 v8 wr=>∃(j d:Nat) (x:Int) (R:List Bool) (N:List Int),j<=l.length/\k=j/\v8=zI x/\x=(j:Int)-1/\v7=zI d/\d+j<=l.length/\(R.length=l.length)/\(N.length=l.length)/\(mG l j R N d=numsOf l first)/\aB [] w wr/\(RB wr w.heap.size R)/\(NB wr (w.heap.size+1) N))
 case atStart =>
  refine⟨l.length,0,_,(List.replicate l.length false).set first true,List.replicate l.length 0,a0b _,rfl,rfl,by omega,rfl,by omega,?_,?_,?_,zJ.alloc _,?_,?_⟩
  .simp
  .simp
  .rfl
  .show RB _ _ _;unfold RB;rw[zG.block w.heap.size (by simp) (by simp),bD];have e:(Array.replicate l.length (Value.bool false)).setIfInBounds first (Value.bool true)=(((List.replicate l.length false).set first true).map λb=>Value.bool b).toArray:=by apply Array.ext';simp[Array.toList_setIfInBounds,a2d]
   rw[e]
  show NB _ _ _;unfold NB;rw[Nf];simp
 case round =>
  obtain⟨j,d,x,f,N,_,rfl,rfl,hx,rfl,_,U,V,s,F,C,I⟩:=hrel;rcases gk with _|m
  .obtain rfl:x=-1:=by omega
   have t:=s;clear hx s;go_wp2;go_ret;exact⟨_,rfl,F,by omega,by rw[<-t];exact I⟩
  obtain rfl:x=(m:Int):=by omega
  clear hx;have J:=U;have Y:=V;have:=C.lt;have:=I.cell m (by omega);have:=I.fz;have r0:=C.cell m (by omega);have:=C.fz;obtain⟨E,ol,rfl,G,q0,q1,q2,q3⟩:=R m (by omega);have t0:=(F.cell G (by simp)).trans q0;have t1:=(F.cell (p:=(zB E (ol+m*4+1))) G (by simp)).trans q1;have t2:=(F.cell (p:=(zB E (ol+m*4+2))) G (by simp)).trans q2;have Z:=(F.cell (p:=(zB E (ol+m*4+3))) G (by simp)).trans q3;have o:mG l (m+1) f N d=if f[m]=true then mG l m (if l[m].op=0 then f else if l[m].op=2 then (f.set l[m].a true).set l[m].b true else f.set l[m].a true) (N.set m d) (d+1) else mG l m f (N.set m (-1)) d:=by rw[mG,a0a (by omega)];simp[List.getD,J,show m<l.length by omega]
  have H:=W m (by omega);generalize N[m]=nm at *;have q:∀(u:World) (i:Nat) (y:Value),aB [w.heap.size+1] u (u.setCell (zB (w.heap.size+1) i) y):=λu i y=>zK.setCell (.inl (by simp)) _;have r:∀(u:World) (i:Nat) (y:Value),aB [w.heap.size] u (u.setCell (zB w.heap.size i) y):=λu i y=>zK.setCell (.inl (by simp)) _;clear q0 q1 q2 q3;cases hb:f[m]
  .rw[hb]at r0 o;simp[a0A,a0I]at o;have t:mG l m f (N.set m (-1)) d=numsOf l first:=o.symm.trans s;clear o s H t0 t1 t2 Z hb;go_wp2;go_roundg m;exact⟨m,d,_,f,N.set m (-1),by omega,rfl,rfl,by omega,rfl,by omega,U,by simp[Y],t,F.over (q _ _ _) (by simp),C.aC (q _ _ _) (by simp),I.set m (-1)⟩;omega
  rw[hb]at r0 o;simp[a0G]at o;have:m<l.length:=by omega
  generalize P:l[m]=c at *;obtain⟨_,_,n,D⟩:=c;simp only at t0 t1 t2 Z o H;clear hb P;have HZ:∀u:World,NB u (w.heap.size+1) ((N.set m (-1)).set m d)->NB u (w.heap.size+1) (N.set m d):=λu hu=>by rw[List.set_set]at hu;exact hu
  have B:(N.set m (d:Int)).length=l.length:=by simp[Y]
  have z:=HZ _ ((I.set m (-1)).set m d);have L:=(C.aC (q wr m (zI (-1))) (by simp)).aC (q _ m (zI (d:Nat))) (by simp);have M:=(F.over (q wr m (zI (-1))) (by simp)).over (q _ m (zI (d:Nat))) (by simp);clear HZ;rcases H with rfl|⟨rfl,ha⟩|⟨rfl,_,hb⟩
  .have t:mG l m f (N.set m d) (d+1)=numsOf l first:=o.symm.trans s
   clear o s;go_wp2;go_roundg m;exact⟨m,d+1,_,f,N.set m d,by omega,rfl,rfl,by omega,by go_num,by omega,U,B,t,M.alloc _,L.aC zG (by simp),z.aC zG (by simp)⟩;omega
  .have t:mG l m (f.set n true) (N.set m d) (d+1)=numsOf l first:=o.symm.trans s
   have ra:=C.cell n (by omega);generalize f[n]=O at *;clear o s;go_wp2;go_roundg m;exact⟨m,d+1,_,f.set n true,N.set m d,by omega,rfl,rfl,by omega,by go_num,by omega,by simp[J],B,t,(M.over (r _ _ _) (by simp)).alloc _,(L.set n true).aC zG (by simp),(z.aC (r _ _ _) (by simp)).aC zG (by simp)⟩;omega
  have t:mG l m ((f.set n true).set D true) (N.set m d) (d+1)=numsOf l first:=o.symm.trans s;have:=C.cell n (by omega);have rb:=C.cell D (by omega);have S:=decLt D l.length (by omega);generalize f[n]=O at *;generalize f[D]=rbb at *;clear o s
  by_cases X:n=D
  .subst X;clear rb S hb;go_wp2;go_roundg m;exact⟨m,d+1,_,(f.set n true).set n true,N.set m d,by omega,rfl,rfl,by omega,by go_num,by omega,by simp[J],B,t,((M.over (r _ _ _) (by simp)).over (r _ _ _) (by simp)).alloc _,((L.set n true).set n true).aC zG (by simp),((z.aC (r _ _ _) (by simp)).aC (r _ _ _) (by simp)).aC zG (by simp)⟩;omega
  have:D≠n:=λe=>X e.symm;go_wp2;go_roundg m;exact⟨m,d+1,_,(f.set n true).set D true,N.set m d,by omega,rfl,rfl,by omega,by go_num,by omega,by simp[J],B,t,((M.over (r _ _ _) (by simp)).over (r _ _ _) (by simp)).alloc _,((L.set n true).set D true).aC zG (by simp),((z.aC (r _ _ _) (by simp)).aC (r _ _ _) (by simp)).aC zG (by simp)⟩;omega
mutual
def qZ(c d:Nat):NF->Prop
 | .zero=>True
 | .one=>True
 | .set s=>s.testBit c=s.testBit d
 | .pair a b=>qZ c d a/\qZ c d b
 | .sum l=>ah0 c d l
 | .star a=>qZ c d a
def ah0(c d:Nat):List NF->Prop
 | []=>True
 | x::r=>qZ c d x/\ah0 c d r
end
theorem Gr{c}:∀{l},ah0 c d l↔∀x∈l,qZ c d x
 | []=>by simp[ah0]
 | x::r=>by simp only[ah0,a0l,forall_eq_or_imp,Gr]
def BI{c}(a):∀b,qZ c d a->qZ c d b->qZ c d (aG a b):=by
 refine NF.ind (P:=λa=>∀b,qZ c d a->qZ c d b->qZ c d (aG a b)) ?_ a;intro a f b e hb;cases a with
 | zero=>trivial
 | one=>exact hb
 | pair x y=>cases b<;>first | trivial|exact e|exact f x (by simp[NF.size];omega) _ e.1 (f y (by simp[NF.size];omega) _ e.2 hb)
 | set s=>cases b<;>first | trivial|exact e|exact⟨e,hb⟩
 | sum l=>cases b<;>first | trivial|exact e|exact⟨e,hb⟩
 | star x=>cases b<;>first | trivial|exact e|exact⟨e,hb⟩
theorem akp{c}(h:qZ c d x)(e:p∈parts x):qZ c d p:=by
 cases x with
 | zero=>simp[parts]at e
 | sum l=>exact Gr.1 h p e
 | one=>simp[parts]at e;subst e;omega
 | set s=>simp[parts]at e;subst e;omega
 | pair a b=>simp[parts]at e;subst e;omega
 | star a=>simp[parts]at e;subst e;omega
def aqC{c l}(h:∀p∈l,qZ c d p):qZ c d (mkS l):=by
 match l,h with
 | [],_=>trivial
 | [x],h=>exact h x (by simp)
 | x::y::r,h=>exact Gr.2 h
theorem YZ{c}(h:∀x∈ls,qZ c d x):qZ c d (bQ ls):=by
 have f:∀p∈ls.flatMap parts,qZ c d p:=λp b=>by grind [akp]
 refine aqC λp b=>?_;rcases jl.1 (kK b) with⟨e,_⟩|⟨_,rfl⟩
 .exact f p e
 show(bf _).testBit c=(bf _).testBit d;rw[mg,mg];generalize ls.flatMap parts=F at f;induction F with
 | nil=>rfl
 | cons a r g =>
   simp only[a3m];rw[g λp b=>f p (by simp[b])];congr 1;have:=f a (by simp);cases a<;>simp[bits];exact this
def anD{c}(h:qZ c d a):qZ c d (iH a):=by cases a<;>first | trivial|exact h
def anE{c}(b x):qZ c d x->qZ c d (left b x):=by
 refine NF.ind (P:=λx=>qZ c d x->qZ c d (left b x)) ?_ x;intro x e h;cases x with
 | zero=>trivial
 | one=>trivial
 | set s=>simp only[left];split<;>trivial
 | pair a y =>
   have g:=e a (by simp[NF.size];omega) h.1;simp only[left];split
   .exact YZ (by
     intro z hz;simp at hz;rcases hz with rfl|rfl
     .exact BI _ _ g h.2
     exact e y (by simp[NF.size];omega) h.2)
   exact BI _ _ g h.2
 | sum l=>simp only[left,fP];refine YZ ?_;intro z hz;obtain⟨p,f,rfl⟩:=a0q.1 hz;exact e p (by have:=dx f;simp[NF.size];omega) (Gr.1 h p f)
 | star a=>exact BI _ _ (e a (by simp[NF.size]) h) h
theorem anF{c}(x):qZ c d x->left c x=left d x:=by
 refine NF.ind (P:=λx=>qZ c d x->left c x=left d x) ?_ x;intro x b h;cases x with
 | zero=>rfl
 | one=>rfl
 | set s=>simp only[left];rw[show s.testBit c=s.testBit d from h]
 | pair a y=>simp only[left];rw[b a (by simp[NF.size];omega) h.1,b y (by simp[NF.size];omega) h.2]
 | sum l =>
   simp only[left,fP];congr 1;apply a2s;intro p e;exact b p (by have:=dx e;simp[NF.size];omega) (Gr.1 h p e)
 | star a=>simp only[left];rw[b a (by simp[NF.size]) h]
theorem asC{c}(h:qZ c d X)(w):qZ c d (dW X w):=by
 unfold dW;induction w generalizing X with
 | nil=>exact h
 | cons b w a=>exact a (anE b X h)
def abz{c}(b:qZ c d a):∀k t,qZ c d t->qZ c d (eQ a k t)
 | 0,t,h=>h
 | k+1,t,h=>abz b k _ (BI a t b h)
def ah1{c}(b:qZ c d a):∀k t,qZ c d t->qZ c d (dG a k t)
 | 0,t,h=>h
 | k+1,t,h=>ah1 b k _ (YZ (by
    intro z hz;simp at hz;rcases hz with rfl|rfl
    .exact BI a t b h
    trivial))
mutual
theorem TZ{c:Nat}:∀{e:RX},(∀s∈dB e,s.testBit c=s.testBit d)->qZ c d (bn e)
 | .one s,h=>by
   simp only[bn];split
   .trivial
   exact h s (by simp[dB])
 | .seq l,h=>ad9 (l:=l) λs a=>h s (by simpa[dB] using a)
 | .alt l,h=>YZ (aea (l:=l) λs a=>h s (by simpa[dB] using a))
 | .rep x lo f,h=>by
   have b:qZ c d (bn x):=TZ λs a=>h s (by simpa[dB] using a);cases f with
   | none=>exact abz b lo _ (anD b)
   | some n=>exact abz b lo _ (ah1 b _ _ trivial)
theorem ad9{c:Nat}:∀{l:List RX},(∀s∈cz l,s.testBit c=s.testBit d)->qZ c d (sJ l)
 | [],_=>trivial
 | x::r,h=>BI _ _ (TZ λs a=>h s (by simp[cz,a])) (ad9 λs a=>h s (by simp[cz,a]))
theorem aea{c:Nat}:∀{l:List RX},(∀s∈cz l,s.testBit c=s.testBit d)->∀x∈iP l,qZ c d x
 | [],_,x,a=>by simp[iP]at a
 | y::r,h,x,a=>by
   simp only[iP,a0l]at a;rcases a with rfl|a
   .exact TZ λs b=>h s (by simp[cz,b])
   exact aea (l:=r) (λs b=>h s (by simp[cz,b])) x a
end
def sG(P:LN->Prop):Nat->LN->Prop
 | 0,w=>w=[]
 | k+1,w=>∃u v,w=u++v/\P u/\sG P k v
def EJ(P Q:LN->Prop)(w:LN):Prop:=∃u v,w=u++v/\P u/\Q v
def Str(P:LN->Prop)(w:LN):Prop:=∃k,sG P k w
mutual
def Lg:NF->LN->Prop
 | .zero,_=>False
 | .one,w=>w=[]
 | .set s,w=>∃c,w=[c]/\s.testBit c=true
 | .pair a b,w=>∃u v,w=u++v/\Lg a u/\Lg b v
 | .sum l,w=>LgL l w
 | .star a,w=>∃k,sG (Lg a) k w
def LgL:List NF->LN->Prop
 | [],_=>False
 | x::r,w=>Lg x w\/LgL r w
end
theorem ajb {w}:∀{l},LgL l w↔∃x∈l,Lg x w
 | []=>by simp[LgL]
 | x::r=>by simp[LgL,ajb (l:=r)]
theorem QK {P Q R w}:EJ (EJ P Q) R w↔EJ P (EJ Q R) w:=by
 constructor
 .rintro⟨_,v,rfl,⟨a,b,rfl,e,d⟩,c⟩;exact⟨a,b++v,by simp,e,b,v,rfl,d,c⟩
 rintro⟨a,_,rfl,e,b,v,rfl,d,c⟩;exact⟨a++b,v,by simp,⟨a,b,rfl,e,d⟩,c⟩
theorem rf {P Q b a w}(h:∀u,P u↔b u)(k:∀u,Q u↔a u):EJ P Q w↔EJ b a w:=by unfold EJ;simp only[h,k]
theorem QM {P a}(h:∀u,P u↔a u):∀k w,sG P k w↔sG a k w
 | 0,w=>Iff.rfl
 | k+1,w=>by simp only[sG,h,QM h k]
theorem Gs {P}:∀{j k u v},sG P j u->sG P k v->sG P (j+k) (u++v)
 | 0,k,u,v,h,g=>by rw[show u=[] from h];simpa using g
 | j+1,k,u,v,h,g=>by obtain⟨a,b,rfl,d,c⟩:=h;rw[show j+1+k=(j+k)+1 by omega];exact⟨a,b++v,by simp,d,Gs c g⟩
def I1 {P}:∀{j k w},sG P (j+k) w->∃u v,w=u++v/\sG P j u/\sG P k v
 | 0,k,w,h=>⟨[],w,rfl,rfl,by simpa using h⟩
 | j+1,k,w,h=>by rw[show j+1+k=(j+k)+1 by omega]at h;obtain⟨a,b,rfl,f,e⟩:=h;obtain⟨u,v,rfl,d,c⟩:=I1 e;exact⟨a++u,v,by simp,⟨a,u,rfl,f,d⟩,c⟩
theorem T9 {P w}:sG P 1 w↔P w:=by
 constructor
 .rintro⟨u,v,rfl,h,rfl⟩;simpa using h
 intro h;exact⟨w,[],by simp,h,rfl⟩
theorem L8(a:NF):∀(b:NF) (w:LN),Lg (aG a b) w↔EJ (Lg a) (Lg b) w:=by
 refine NF.ind (P:=λa=>∀(b:NF) (w:LN),Lg (aG a b) w↔EJ (Lg a) (Lg b) w) ?_ a;intro a c b w;have hz:∀a:NF,Lg (aG a .zero) w↔EJ (Lg a) (Lg .zero) w:=λa=>by rw[fJ];exact⟨λh=>h.elim,λ⟨_,_,_,_,h⟩=>h.elim⟩
 have ho:∀a:NF,Lg (aG a .one) w↔EJ (Lg a) (Lg .one) w:=λa=>by
  rw[bF];constructor
  .intro h;exact⟨w,[],by simp,h,rfl⟩
  rintro⟨u,v,rfl,h,d⟩;rw[show v=[] from d];simpa using h
 by_cases hb:aP b=true
 .have hd:∀a:NF,dP a=true->(Lg (aG a b) w↔EJ (Lg a) (Lg b) w):=λa g=>by rw[aX g hb];exact Iff.rfl
  cases a with
  | zero=>exact⟨λh=>h.elim,λ⟨_,_,_,h,_⟩=>h.elim⟩
  | one =>
    constructor
    .intro h;exact⟨[],w,rfl,rfl,h⟩
    rintro⟨u,v,rfl,f,h⟩;rw[show u=[] from f];exact h
  | set s=>exact hd _ rfl
  | sum l=>exact hd _ rfl
  | star x=>exact hd _ rfl
  | pair x y=>rw[dA hb,c x (by simp[NF.size];omega)];rw[rf (λ_=>Iff.rfl) (λu=>c y (by simp[NF.size];omega) b u)];exact QK.symm
 rcases fQ hb with e|e<;>subst e
 .exact hz a
 exact ho a
theorem anG {w}:Lg x w↔∃p∈parts x,Lg p w:=by
 cases x with
 | zero=>simp[parts,Lg]
 | sum l=>simp only[parts];exact ajb
 | _=>simp[parts]
theorem asD {l w}:Lg (mkS l) w↔∃p∈l,Lg p w:=by
 match l with
 | []=>simp[mkS,Lg]
 | [x]=>simp[mkS]
 | x::y::r=>exact ajb
def anH(h:dF p=true):p=.set (bits p):=by cases p<;>simp[dF]at h;rfl
theorem afL(k:∀x∈ls,wf x) {w}:Lg (bQ ls) w↔∃x∈ls,Lg x w:=by
 have j:=xC k;have e:(∃x∈ls,Lg x w)↔∃p∈ls.flatMap parts,Lg p w:=by grind [anG]
 rw[e,bQ,asD];generalize ls.flatMap parts=F at j;have f:∀p,p∈gU (bN F)↔p∈bN F:=λp=>iA (BU (J4 j));constructor
 .rintro⟨p,a,h⟩;rcases jl.1 ((f p).1 a) with⟨l,_⟩|⟨_,rfl⟩
  .exact⟨p,l,h⟩
  obtain⟨c,rfl,b⟩:=h;rw[mg,a1s]at b;obtain⟨q,hq,hb⟩:=b;refine⟨q,hq,?_⟩;cases q<;>simp[bits]at hb;exact⟨c,rfl,hb⟩
 rintro⟨p,a,h⟩;cases i:dF p with
 | false=>exact⟨p,(f p).2 (jl.2 (.inl ⟨a,i⟩)),h⟩
 | true =>
   have d:=anH i;rw[d]at h;obtain⟨c,rfl,b⟩:=h;have g:(bf F).testBit c=true:=by rw[mg,a1s];exact⟨p,a,b⟩
   refine⟨.set (bf F),(f _).2 (jl.2 (.inr ⟨?_,rfl⟩)),c,rfl,g⟩;intro e;rw[e]at g;simp at g
theorem abA {P}(h:∀u,P u->u=[]):∀k w,sG P k w->w=[]
 | 0,w,e=>e
 | k+1,w,⟨u,v,e,b,a⟩=>by rw[e,h u b,abA h k v a];rfl
def ah2 {P}:∀k w,sG (Str P) k w->Str P w
 | 0,w,h=>⟨0,h⟩
 | k+1,w,⟨u,v,e,⟨j,b⟩,a⟩=>by obtain⟨i,a⟩:=ah2 k v a;exact⟨j+i,e ▸ Gs b a⟩
theorem aqD(a w):Lg (iH a) w↔Str (Lg a) w:=by
 have hd:Lg (.star a) w↔Str (Lg a) w:=Iff.rfl;cases a with
 | zero =>
   constructor
   .intro h;exact⟨0,h⟩
   rintro⟨k,h⟩;exact abA (λu b=>b.elim) k w h
 | one =>
   constructor
   .intro h;exact⟨0,h⟩
   rintro⟨k,h⟩;exact abA (λu b=>b) k w h
 | star x =>
   constructor
   .intro h;exact⟨1,T9.2 h⟩
   rintro⟨k,h⟩;exact ah2 k w h
 | set s=>exact hd
 | pair x y=>exact hd
 | sum l=>exact hd
theorem afM(x):dK x=true↔Lg x []:=by
 refine NF.ind (P:=λx=>dK x=true↔Lg x []) ?_ x;intro x d;cases x with
 | zero=>simp[dK,Lg]
 | one=>simp[dK,Lg]
 | set s=>simp[dK,Lg]
 | pair a b =>
   simp[dK,a0O,d a (by simp[NF.size];omega),d b (by simp[NF.size];omega),Lg];constructor
   .grind
   simp_all
 | sum l =>
   simp[dK,Fh,a1s,Lg,ajb];constructor
   .rintro⟨p,c,h⟩;exact⟨p,c,(d p (by have:=dx c;simp[NF.size];omega)).1 h⟩
   rintro⟨p,c,h⟩;exact⟨p,c,(d p (by have:=dx c;simp[NF.size];omega)).2 h⟩
 | star a=>simp[dK,Lg,true_iff];exact⟨0,rfl⟩
def aeb {P c w}:∀{k},sG P k (c::w)->∃u v,w=u++v/\P (c::u)/\Str P v
 | 0,h=>by simp[sG]at h
 | k+1,⟨u,v,e,b,a⟩=>by
   cases u with
   | nil=>rw[a0V]at e;subst e;exact aeb a
   | cons d u=>simp only[a0L,List.cons.injEq]at e;obtain⟨rfl,rfl⟩:=e;exact⟨u,v,rfl,b,k,a⟩
theorem aqE(c x):wf x->∀w,Lg (left c x) w↔Lg x (c::w):=by
 refine NF.ind (P:=λx=>wf x->∀w,Lg (left c x) w↔Lg x (c::w)) ?_ x;intro x m j w;cases x with
 | zero=>simp[left,Lg]
 | one=>simp[left,Lg]
 | set s =>
   simp only[left];by_cases h:s.testBit c=true
   .rw[a0m h];constructor
    .intro e;rw[show w=[] from e];exact⟨c,rfl,h⟩
    rintro⟨d,e,_⟩;simp at e;exact e.2
   rw[a0n h];constructor
   .intro e;exact e.elim
   rintro⟨d,e,hd⟩;simp at e;rw[<-e.1]at hd;exact(h hd).elim
 | pair a b =>
   have n:=m a (by simp[NF.size];omega) j.1;have r:=m b (by simp[NF.size];omega) j.2.1;have ht:Lg (aG (left c a) b) w↔∃u v,w=u++v/\Lg a (c::u)/\Lg b v:=by grind [L8,EJ]
   have key:Lg (.pair a b) (c::w)↔(∃u v,w=u++v/\Lg a (c::u)/\Lg b v)\/(Lg a []/\Lg b (c::w)):=by
    constructor
    .rintro⟨u,v,e,g,f⟩;cases u with
     | nil=>rw[a0V]at e;subst e;exact .inr ⟨g,f⟩
     | cons d u=>simp only[a0L,List.cons.injEq]at e;obtain⟨rfl,rfl⟩:=e;exact .inl ⟨u,v,rfl,g,f⟩
    rintro(⟨u,v,rfl,g,f⟩|⟨g,f⟩)
    .exact⟨c::u,v,rfl,g,f⟩
    exact⟨[],c::w,rfl,g,f⟩
   rw[key];simp only[left];by_cases q:dK a=true
   .rw[a0m q,show kY (aG (left c a) b) (left c b)=bQ [aG (left c a) b,left c b] from rfl,afL (by
     intro z hz;simp at hz;rcases hz with rfl|rfl
     .exact lY (gI c a j.1) j.2.1
     exact gI c b j.2.1)]
    simp only[a0l,a1U,a2V,exists_eq_or_imp,exists_eq_left];rw[ht,r];have:=(afM a).1 q;simp[this]
   grind [Lg,afM]
 | sum l =>
   simp only[left,fP];have o:=kJ.1 j.1;rw[afL (by intro z hz;obtain⟨p,i,rfl⟩:=a0q.1 hz;exact gI c p (o p i))];show _↔LgL l (c::w);rw[ajb];constructor
   .rintro⟨z,hz,h⟩;obtain⟨p,i,rfl⟩:=a0q.1 hz;exact⟨p,i,(m p (by have:=dx i;simp[NF.size];omega) (o p i) w).1 h⟩
   rintro⟨p,i,h⟩;exact⟨left c p,a0q.2 ⟨p,i,rfl⟩,(m p (by have:=dx i;simp[NF.size];omega) (o p i) w).2 h⟩
 | star a =>
   have n:=m a (by simp[NF.size]) j.1;simp only[left];rw[L8];constructor
   .rintro⟨u,v,rfl,g,k,f⟩;exact⟨k+1,c::u,v,rfl,(n u).1 g,f⟩
   rintro⟨k,h⟩;obtain⟨u,v,rfl,g,f⟩:=aeb h;exact⟨u,v,rfl,(n u).2 g,f⟩
theorem au4(a:wf X)(w):dK (dW X w)=true↔Lg X w:=by
 rw[afM];induction w generalizing X with
 | nil=>exact Iff.rfl
 | cons c w b=>rw[show dW X (c::w)=dW (left c X) w from rfl,b (gI c X a)];exact aqE c X a w
mutual
def Rg:RX->LN->Prop
 | .one s,w=>∃c,w=[c]/\s.testBit c=true
 | .seq l,w=>RgS l w
 | .alt l,w=>RgA l w
 | .rep x lo a,w=>∃k,lo<=k/\(∀n,a=some n->k<=n)/\sG (Rg x) k w
def RgS:List RX->LN->Prop
 | [],w=>w=[]
 | x::r,w=>∃u v,w=u++v/\Rg x u/\RgS r v
def RgA:List RX->LN->Prop
 | [],_=>False
 | x::r,w=>Rg x w\/RgA r w
end
theorem afN:∀k t w,Lg (eQ a k t) w↔EJ (sG (Lg a) k) (Lg t) w
 | 0,t,w=>by
   constructor
   .intro h;exact⟨[],w,rfl,rfl,h⟩
   rintro⟨u,v,rfl,b,h⟩;rw[show u=[] from b];exact h
 | k+1,t,w=>by rw[Qp,L8,rf (λ_=>Iff.rfl) (λu=>afN k t u),<-QK];exact Iff.rfl
theorem alV(b:WC a):∀k w,Lg (dG a k .one) w↔∃j,j<=k/\sG (Lg a) j w
 | 0,w=>by
   constructor
   .intro h;exact⟨0,a0b _,h⟩
   rintro⟨j,e,h⟩;rw[show j=0 by omega]at h;exact h
 | k+1,w=>by
   rw[aaL,show kY (aG a (dG a k .one)) .one=bQ [aG a (dG a k .one),.one] from rfl,afL (by
    intro z hz;simp at hz;rcases hz with rfl|rfl
    .exact lY b.1 (E7 b k _ .one).1
    trivial)]
   simp only[a0l,a1U,a2V,exists_eq_or_imp,exists_eq_left];rw[L8,rf (λ_=>Iff.rfl) (λu=>alV b k u)];constructor
   .rintro(⟨u,v,rfl,d,j,e,c⟩|h)
    .exact⟨j+1,by omega,u,v,rfl,d,c⟩
    exact⟨0,by omega,h⟩
   rintro⟨j,e,h⟩;cases j with
   | zero=>exact .inr h
   | succ j=>obtain⟨u,v,rfl,d,c⟩:=h;exact .inl ⟨u,v,rfl,d,j,by omega,c⟩
theorem asE(i:WC a)(lo d)(e:∀n,d=some n->lo<=n)(w):Lg (kD a lo d) w↔∃k,lo<=k/\(∀n,d=some n->k<=n)/\sG (Lg a) k w:=by
 cases d with
 | none =>
   show Lg (eQ a lo (iH a)) w↔_;rw[afN,rf (λ_=>Iff.rfl) (λu=>aqD a u)];constructor
   .rintro⟨u,v,rfl,c,j,b⟩;exact⟨lo+j,by omega,by simp,Gs c b⟩
   rintro⟨k,g,_,h⟩;rw[show k=lo+(k-lo) by omega]at h;obtain⟨u,v,rfl,c,b⟩:=I1 h;exact⟨u,v,rfl,c,_,b⟩
 | some n =>
   have m:=e n rfl;show Lg (eQ a lo (dG a (n-lo) .one)) w↔_;rw[afN,rf (λ_=>Iff.rfl) (λu=>alV i (n-lo) u)];constructor
   .rintro⟨u,v,rfl,c,j,l,b⟩;exact⟨lo+j,by omega,by simp;omega,Gs c b⟩
   rintro⟨k,g,f,h⟩;have:=f n rfl;rw[show k=lo+(k-lo) by omega]at h;obtain⟨u,v,rfl,c,b⟩:=I1 h;exact⟨u,v,rfl,c,_,by omega,b⟩
mutual
theorem axE:∀{e:RX},tL e->∀w,Lg (bn e) w↔Rg e w
 | .one s,_,w=>by
   simp only[bn];by_cases h:s=0
   .rw[a0m h];simp[Lg,Rg,h]
   rw[a0n h];exact Iff.rfl
 | .seq l,ho,w=>ah3 (show jm l from ho) w
 | .alt l,ho,w=>by show Lg (bQ (iP l)) w↔RgA l w;rw[afL λx b=>(E8 ho.1 x b).1,ah4 ho.1 w]
 | .rep x lo a,ho,w=>by show Lg (kD (bn x) lo a) w↔∃k,lo<=k/\(∀n,a=some n->k<=n)/\sG (Rg x) k w;rw[asE (uC ho.1) lo a ho.2];simp only[QM (axE ho.1)]
theorem ah3:∀{l:List RX},jm l->∀w,Lg (sJ l) w↔RgS l w
 | [],_,w=>Iff.rfl
 | x::r,ho,w=>by show Lg (aG (bn x) (sJ r)) w↔EJ (Rg x) (RgS r) w;rw[L8];exact rf (axE ho.1) (ah3 ho.2)
theorem ah4:∀{l:List RX},jm l->∀w,(∃x∈iP l,Lg x w)↔RgA l w
 | [],_,w=>by simp[iP,RgA]
 | x::r,ho,w=>by simp only[iP,a0l,exists_eq_or_imp,RgA];rw[axE ho.1 w,ah4 ho.2 w]
end
end
end
end Go.Proofs.YtnkobfoopcolaaaGreat
