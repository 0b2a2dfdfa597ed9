import Derived.Test.YtgbdcmpmmkfbhaaGreatJ20
import Derived.Laws.MakeOwn
import Derived.Test.YtgbdcmpmmkfbhaaGreatJ1
set_option linter.unusedVariables false
set_option linter.unusedSimpArgs false
set_option linter.unnecessarySimpa false
set_option maxRecDepth 100000
set_option maxHeartbeats 8000000
namespace Go.Proofs.YtgbdcmpmmkfbhaaGreat
variable {s:CS} {g gb k kb:Nat} {w w' w0 w1 w2:World} {V:V6} {U:V4} {l l1:List gD} {a b v:Value} {A L S:LN} {C:List CR}
open Go.RowKit
def mF(re:LB->Nat):List CM->Nat
 | []=>0
 | m::r=>if (m.2.1==2||m.2.1==3)&&!(re m.2.2==0) then re m.2.2 else mF re r
def xF(re:LB->Nat):List CR->Nat->Nat × Nat
 | [],_=>(0,0)
 | c::r,i=>if !(mF re c.ifs==0) then (mF re c.ifs,i+2) else xF re r (i+1)
theorem akI {re:LB->Nat} {dw:LB->lS}(hx:∀y∈s.x,re y=0)(m:CM) :
 (pZ re dw s m=none/\(m.2.1==2||m.2.1==3)=true/\re m.2.2≠0)\/(∃t s1,pZ re dw s m=some (t,s1)/\(∀y∈s1.x,re y=0)/\((m.2.1==2||m.2.1==3)&&!(re m.2.2==0))=false):=by
 unfold pZ
 by_cases hk:m.2.1=2\/m.2.1=3
 ·have hkb:(m.2.1==2||m.2.1==3)=true:=by simpa using hk
  rw[a0j hk]
  by_cases hf:iZ s.x m.2.2<s.x.length
  ·rw[a0j hf]
   refine .inr ⟨_,_,rfl,hx,?_⟩;have hz:re m.2.2=0:=by
    have he:(s.x[iZ s.x m.2.2]==m.2.2)=true:=List.findIdx_getElem (p:=(·==m.2.2)) (xs:=s.x) (w:=hf);have:=hx _ (a0z hf);rw[eq_of_beq he]at this;exact this
   simp[hz]
  rw[a0g hf]
  by_cases hz:re m.2.2=0
  ·rw[a0j hz]
   refine .inr ⟨_,_,rfl,?_,by simp[hz]⟩;intro y hy;simp at hy;rcases hy with hy|rfl
   ·exact hx y hy
   exact hz
  rw[a0g hz];exact .inl ⟨rfl,hkb,hz⟩
 rw[a0g hk];refine .inr ⟨_,_,rfl,hx,?_⟩;have:(m.2.1==2||m.2.1==3)=false:=by simpa using hk
 simp[this]
theorem AV {re:LB->Nat} {dw:LB->lS}:∀(M:List CM) (s:CS) (acc:List (Nat × Bool)),(∀y∈s.x,re y=0) ->
 (∃e,qT re dw s acc M=.error e/\mF re M=e/\e≠0)\/(∃l s1,qT re dw s acc M=.ok (l,s1)/\mF re M=0/\∀y∈s1.x,re y=0)
 | [],s,acc,hx=>.inr ⟨acc,s,rfl,rfl,hx⟩
 | m::r,s,acc,hx=>by
   rcases akI (dw:=dw) hx m with⟨h1,h2,h3⟩|⟨t,s1,h1,h2,h3⟩
   ·refine .inl ⟨re m.2.2,?_,?_,h3⟩
    ·rw[qT,h1]
    rw[mF,h2];simp[h3]
   have e:qT re dw s acc (m::r)=qT re dw { s1 with t:=xR s1.t t } (acc++[(Qg s1.t t,abB m)]) r:=by rw[qT,h1]
   rw[e,mF,h3];exact AV r { s1 with t:=xR s1.t t } _ h2
theorem Oc {re:LB->Nat} {dw:LB->lS}:∀(C:List CR) (s:CS) (i:Nat),(∀y∈s.x,re y=0) ->
 (∃e,pread re dw s i C=.error e/\xF re C i=e/\e.1≠0)\/(∃s1,pread re dw s i C=.ok s1/\xF re C i=(0,0)/\∀y∈s1.x,re y=0)
 | [],s,i,hx=>.inr ⟨s,rfl,rfl,hx⟩
 | c::r,s,i,hx=>by
   rcases AV (dw:=dw) c.ifs s [] hx with⟨e,h1,h2,h3⟩|⟨l,s1,h1,h2,h3⟩
   ·refine .inl ⟨(e,i+2),?_,?_,h3⟩
    ·rw[pread,h1]
    rw[xF,h2];simp[h3]
   have e:pread re dw s i (c::r)=pread re dw { s1 with q:=s1.q++[l] } (i+1) r:=by rw[pread,h1]
   rw[e,xF,h2];exact Oc r { s1 with q:=s1.q++[l] } (i+1) h3
structure CSB(s:CS)(k:Nat):Prop where
 n:s.n.length<=k
 c:s.c.length<=k
 x:s.x.length<=k
 a:s.a.length<=k
 t:s.t.length<=k
theorem aar(L:List LB)(x:LB):(tq L x).length<=L.length+1:=by unfold tq;split<;>simp
theorem Qn(L:List pP)(x:pP):(xR L x).length<=L.length+1:=by unfold xR;split<;>simp
theorem aas {re:LB->Nat} {dw:LB->lS}{s1:CS} {t:pP}(h:CSB s k) {m:CM}(he:pZ re dw s m=some (t,s1)):CSB { s1 with t:=xR s1.t t } (k+1)/\s1.t=s.t/\s1.q=s.q:=by
 have hn:=aar s.n m.1;have hc:=aar s.c m.2.2;obtain⟨h1,h2,h3,h4,h5⟩:=h;unfold pZ at he
 split at he
 ·split at he
  ·cases he
   have ht:=Qn s.t ⟨iZ s.n m.1,1,iZ s.x m.2.2⟩;exact⟨⟨by simp only;omega,by simp only;omega,by simp only;omega,by simp only;omega,by simp only;omega⟩,rfl,rfl⟩
  split at he
  ·cases he
   have ht:=Qn s.t ⟨iZ s.n m.1,1,iZ s.x m.2.2⟩;exact⟨⟨by simp only;omega,by simp only;omega,by simp;omega,by simp;omega,by simp only;omega⟩,rfl,rfl⟩
  cases he
 cases he
 have ht:=Qn s.t ⟨iZ s.n m.1,0,iZ s.c m.2.2⟩;exact⟨⟨by simp only;omega,by simp only;omega,by simp only;omega,by simp only;omega,by simp only;omega⟩,rfl,rfl⟩
structure LY(w0:World)(kb:Nat)(w:World)(V:V6)(U:V4)(l:List gD):Prop where
 row:KR w kb V U
 fr:aA [kb] w0 w
 lo:kb<w0.heap.size
 o:OW 105 4 w0.heap.size w U.l (vY l)
theorem LY.aB(h:LY w0 kb w V U l)(f:aA [] w w'):LY w0 kb w' V U l :=
 ⟨h.row.aB f (by simp),h.fr.over f (by simp),h.lo,h.o.aB f (by simp)⟩
structure LF(kb:Nat)(w:World)(a:Value)(w':World)(b:Value):Prop where
 f:aA (kb::a.ownBlock.toList) w w'
 o:∀g,b.ownBlock=some g->a.ownBlock=some g\/w.heap.size<=g
theorem LF.refl(kb:Nat)(w:World)(a:Value):LF kb w a w a:=⟨aA.refl _ _,λg h=>.inl h⟩
theorem LF.trans{c:Value}(h:LF kb w a w1 b)(k:LF kb w1 b w2 c):LF kb w a w2 c:=by
 refine⟨h.f.over k.f ?_,λg hg=>?_⟩
 ·intro x hx
  rcases a0l.1 hx with rfl|hx
  ·exact .inr (by simp)
  rcases h.o x (by simpa using hx) with h1|h1
  ·exact .inr (by simp[h1])
  exact .inl h1
 rcases k.o g hg with h1|h1
 ·exact h.o g h1
 exact .inr (a0e h.f.size h1)
theorem LF.pre(h:aA [] w w1)(k:LF kb w1 a w2 b):LF kb w a w2 b:=by
 have h1:LF kb w a w1 a:=⟨(aA.refl _ _).over h (by simp),λg hg=>.inl hg⟩;exact h1.trans k
theorem OW.off {e:TypeId}{base:Nat} {vs:List (List Value)}(h:OW e k base w v vs)(f:aA S w w')(hS:∀g,v.ownBlock=some g->g∉S):OW e k base w' v vs:=by
 refine⟨⟨h.1.1,?_⟩,h.2⟩;rcases h.1.2 with hn|⟨g,cap,cur,rfl,zS,mP,rest⟩
 ·exact .inl hn
 refine .inr ⟨g,cap,cur,rfl,zS,?_,rest⟩;rw[f.block g (a0d.1 mP).1 (hS g rfl)];exact mP
abbrev V4.lay(U:V4)(v:Value):V4:=⟨U.rt,U.x,U.q,v⟩
theorem Od(w0:World)(kb:Nat)(w:World)(V:V6)(U:V4)(l:List gD)(h:LY w0 kb w V U l)(x:gD)(hl:l.length<=1000000000) :
 Calls Tryz.prog 31 #[.pointer (some ⟨kb,0,none⟩),.agg (kT x)] w λe w'=>e=.returned (.int .i64 (l.length:Nat))/\∃v,LY w0 kb w' V (U.lay v) (l++[x])/\LF kb w U.l w' v:=by
 obtain⟨rt,xx,q,vl⟩:=U;obtain⟨ao,co,he⟩:=h.o.shape;rw[zR]at he;subst he;have O:=aj h.o;have HR:=aj h.row;have HF:=aj h.fr;have l7:=h.lo;have LH:=h.row.lt;have Jw:=h.fr.size;have Ad:Z_ (∀r,Value.ownBlock (.slice ao l.length co)=some r->r≠kb):=λr hr=>by have:=(O.o.lt hr).1;omega
 have c9:=h.row.c 9;have z9:=h.row.fz 9;simp at c9;have jv:Z_ ((vY l).length=l.length):=zR l;obtain⟨op,xn,a,b⟩:=x;clear h;simp only[kT];go_enter Tryz.func31,Tryz.ntmps31
 go_wp2_with fail
 go_region_law ((refine uo _ (by rfl) _ _ 44 105 _ 4 32 NY Tryz.underlying44 (by rfl) (by omega) (by rfl) w0.heap.size (.slice ao l.length co) (vY l) (w.heap.size+1) (kT ⟨op,xn,a,b⟩) (0,0) (by rfl) (O.o.aB (S:=[]) ((((aA.refl [] _).alloc _).alloc _).drew) (by simp)) (by rfl) (by rfl) (by exact NZ _ _ _) (afo _) (by rw[jv.o];omega) (by rw[jv.o];omega) (by simp;omega) (w.heap.size+2) (by simp) ?_;intro gg aP w4 bF aG aX zx;rw[jv.o]at bF |-;have R4:=aj ((HR.o.aB (S:=[]) ((((aA.refl [] _).alloc _).alloc _).drew) (by simp)).grown aG Ad);have k9:=R4.o.c 9;have y9:=R4.o.fz 9;simp at k9))
 all_goals
  have R5:=aj (R4.o.set (U':=⟨rt,xx,q,.slice (some ⟨gg,0,none⟩) (l.length+1) aP⟩) (V':=V) 9 (.slice (some ⟨gg,0,none⟩) (l.length+1) aP) rfl);have m9:=R5.o.c 9;simp at m9;rw[I9]at bF;have O5:Z_ (OW 105 4 w0.heap.size (w4.setCell ⟨kb,9,none⟩ (.slice (some ⟨gg,0,none⟩) (l.length+1) aP)) (.slice (some ⟨gg,0,none⟩) (l.length+1) aP) (vY (l++[⟨op,xn,a,b⟩]))):=bF.aB (S:=[kb]) ((aA.refl [kb] _).setCell (p:=⟨kb,9,none⟩) (.inl (by simp)) _) (by simp;omega);have F5:Z_ (aA [kb] w0 (w4.setCell ⟨kb,9,none⟩ (.slice (some ⟨gg,0,none⟩) (l.length+1) aP))):=((((HF.o.alloc _).alloc _).drew).grown aG (λr hr=>.inr (O.o.lt hr).1)).setCell (p:=⟨kb,9,none⟩) (.inl (by simp)) _;have LF5:Z_ (LF kb w (.slice ao l.length co) (w4.setCell ⟨kb,9,none⟩ (.slice (some ⟨gg,0,none⟩) (l.length+1) aP)) (.slice (some ⟨gg,0,none⟩) (l.length+1) aP)):=by
   refine⟨(((((aA.refl _ w).alloc _).alloc _).drew).grown aG (λr hr=>.inl (by simp[hr]))).setCell (p:=⟨kb,9,none⟩) (.inl (by simp)) _,λg hg=>?_⟩;cases hg
   rcases aX with h1|h1
   ·exact .inl h1
   exact .inr (by show w.heap.size<=gg;omega)
  clear aG bF aX k9 y9 c9 z9;go_wp2;go_ret;exact⟨congrArg Ending.returned (by go_num),_,⟨R5,F5,l7,O5⟩,LF5⟩
theorem KS.J2 {Z Z':LN}(h:KS Z w0 kb w V U s)(hs:∀g∈Z',g∈Z\/w.heap.size<=g):KS Z' w0 kb w V U s:=by
 obtain⟨ca,cq,g⟩:=h.g;have av:∀x∈Z'++kb::owns (Ac V U s ca cq),x∈Z++kb::owns (Ac V U s ca cq)\/w.heap.size<=x:=by
  intro x hx;rcases a0b.1 hx with hx|hx
  ·rcases hs x hx with h1|h1
   ·exact .inl (a0b.2 (.inl h1))
   exact .inr h1
  exact .inl (a0b.2 (.inr hx))
 exact⟨h.row,ca,cq,g.fr,g.lo,g.rw,g.ai.bW av,g.qi.bW av⟩
theorem RW.mts {M:List CM}(h:RW A 3 w v (Hq M)):∃a cap,v=.slice a M.length cap/\∀(j:Nat) (hj:j<M.length),∃g off,a=some ⟨g,off,none⟩/\g∉A/\g<w.heap.size/\w.cell? ⟨g,off+j*3,none⟩=some (.string (bs M[j].1))/\w.cell? ⟨g,off+j*3+1,none⟩=some (.int .i64 (M[j].2.1:Nat))/\w.cell? ⟨g,off+j*3+2,none⟩=some (.string (bs M[j].2.2)):=by
 obtain⟨a,cap,e,h1,h2⟩:=h;rw[show(Hq M).length=M.length by simp[Hq]]at e;refine⟨a,cap,e,λj hj=>?_⟩;obtain⟨g,off,e2,h3,h4,h5⟩:=h2 j (by simpa[Hq] using hj);exact⟨g,off,e2,h3,h4,h5 0 _ (by simp[Hq,yF]),h5 1 _ (by simp[Hq,yF]),h5 2 _ (by simp[Hq,yF])⟩
theorem al4:(Tryz.prog.info? 90).map (λi=>(i.zero,i.size,i.bytes))=some (some (.slice none 0 0),1,24):=by kernel_rfl
theorem Oe:(Tryz.prog.info? 99).map (λi=>(i.zero,i.size,i.bytes))=some (some (.agg #[.int .i64 0,.bool false]),2,16):=by kernel_rfl
theorem Jc(w:World)(fd:Nat)(hb:Bool)(j:Nat)(u:Value)(hu:[Value.int .i64 (fd:Nat),Value.bool hb][j]?=some u):(w.alloc (Obj.cells #[.int .i64 (fd:Nat),.bool hb] 99)).cell? ⟨w.heap.size,j,none⟩=some u:=by
 have h1:=bK w (Obj.cells #[.int .i64 (fd:Nat),.bool hb] 99);simp only[World.cell?,h1];simpa using hu
theorem ah1(w:World)(v:Value)(j:Nat)(u:Value)(hu:[v][j]?=some u):(w.alloc (Obj.cells #[v] 90)).cell? ⟨w.heap.size,j,none⟩=some u:=by
 have h1:=bK w (Obj.cells #[v] 90);simp only[World.cell?,h1];simpa using hu
def RMQ(Z:LN)(re:LB->Nat)(dw:LB->lS)(w0:World)(kb:Nat)(V:V6)(U:V4)(s:CS)(M:List CM)(e:Ending)(w':World):Prop :=
 (∃n,qT re dw s [] M=.error n/\e=.returned (.int .i64 (n:Nat))/\aA [kb] w0 w') \/
 (∃l s1 V' U',qT re dw s [] M=.ok (l,s1)/\e=.returned (.int .i64 0)/\KS Z w0 kb w' V' U' { s1 with q:=s1.q++[l] }/\KV V V' U U')
theorem Og(Z:LN)(re:LB->Nat)(dw:LB->lS)(w0:World)(kb:Nat)(w:World)(V:V6)(U:V4)(s:CS)(h:KS Z w0 kb w V U s)(hZ:∀g∈Z,g<w.heap.size)(jX:CSB s 500)(v:Value)(M:List CM)(hM:RW [kb] 3 w0 v (Hq M))(hMl:M.length<=4)(hMk:∀m∈M,m.2.1<=3/\((m.2.1=2\/m.2.1=3)->RCP re dw m.2.2))(hq:s.q.length<=1000) :
 Calls Tryz.prog 14 #[.pointer (some ⟨kb,0,none⟩),v] w (RMQ Z re dw w0 kb V U s M):=by
 obtain⟨am,cm,rfl,r⟩:=hM.mts;have R:=aj r;have HK:=aj h;have HMK:=aj hMk;have l7:=h.lo;have LH:=h.row.lt;have HOL:=aj h.xh;have HZ:=aj hZ;have HCB:=aj jX;clear h hM r hMk hZ jX;go_enter Tryz.func14,Tryz.ntmps14
 go_wp2_with fail
 go_loopg [5,15] M.length (λk v5 v15 wr=>∃(j:Nat) (acc:List (Nat × Bool)) (sj:CS) (Vj:V6) (Uj:V4),j+k=M.length/\v15=.int .i64 j/\acc.length=j/\w.heap.size<=wr.heap.size/\OW 99 2 w.heap.size wr v5 (cc acc)/\Z_ (∀g,v5.ownBlock=some g->g∉Da Vj Uj)/\Z_ (KS (v5.ownBlock.toList++Z) w0 kb wr Vj Uj sj)/\Z_ (KV V Vj U Uj)/\Z_ (qT re dw sj acc (M.drop j)=qT re dw s [] M)/\Z_ (CSB sj (500+j))/\Z_ (sj.q=s.q))
 case atStart =>
  refine⟨0,[],s,V,U,by omega,rfl,rfl,by simp,OW.empty _ _ _ _ (a0a _),?_,?_,KV.refl _ _,?_,HCB,?_⟩
  ·intro g hg hm
   have e:w.heap.size=g:=by simpa[Value.ownBlock] using hg
   have:=HOL.o g (by simp[hm]);omega
  ·exact(HK.o.J2 (λg hg=>by
    rcases a0b.1 hg with h1|h1
    ·exact .inr (by have:g=w.heap.size:=by simpa[Value.ownBlock] using h1
                    omega)
    exact .inl h1)).aB ((aA.refl [] _).alloc _)
  ·show _=_;rfl
  show _=_;rfl
 case round =>
  obtain⟨j,acc,sj,Vj,Uj,sI,rfl,ja,hzr,hO,HNO,KJ,Dh,HP,CBJ,HQ⟩:=hrel;obtain⟨ac,ym,he⟩:=hO.shape;rw[TJ,ja]at he;subst he;have O:=aj hO;clear hO
  by_cases aO:j<M.length
  ·have iH:decide ((j:Int)<(M.length:Int))=true:=a0h (by omega)
   obtain⟨gm,om,rfl,akK,agx,q0,q1,q2⟩:=R.o j aO;have t0:=(KJ.o.fr.cell (p:=⟨gm,om+j*3,none⟩) agx akK).trans q0;have t1:=(KJ.o.fr.cell (p:=⟨gm,om+j*3+1,none⟩) agx akK).trans q1;have t2:=(KJ.o.fr.cell (p:=⟨gm,om+j*3+2,none⟩) agx akK).trans q2;have ard:=a0x agx KJ.o.fr.size;have hmk:=HMK.o M[j] (a0z aO);have hdp:M.drop j=M[j]::M.drop (j+1):=a0q aO;have HP1:Z_ (qT re dw sj acc (M[j]::M.drop (j+1))=qT re dw s [] M):=by show _=_;rw[<-hdp];exact HP
   generalize M[j]=m at *;obtain⟨nm,kd,vl⟩:=m;simp only at t0 t1 t2 hmk;have FU:=CBJ.o;obtain⟨b1,b2,b3,b4,b5⟩:=FU;have N1:=aj (adP ((Value.ownBlock (.slice ac j ym)).toList++Z) re dw w0 kb (wr.alloc (Obj.cells #[.string (bs nm),.int .i64 (kd:Nat),.string (bs vl)] 92)) Vj Uj sj (KJ.o.aB ((aA.refl [] _).alloc _)) (by
    intro g hg;rcases a0b.1 hg with h1|h1
    ·have:=(O.o.lt (by simpa using h1)).2
     simp;omega
    have:=HZ.o g h1;simp;omega) nm kd vl hmk.2 hmk.1 (by omega) (by omega) (by omega) (by omega))
   clear q0 q1 q2 HP hdp;go_wp2_with fail
   refine(N1.o).mono ?_;clear N1;rintro e w2 hT;rcases hT with⟨h1,h2,h3,t,rfl⟩|⟨t,s1,V2,U2,h1,rfl,hK2,adR,am3⟩
   ·have HE:Z_ (qT re dw s [] M=.error (re vl)):=by show _=_;rw[<-HP1.o,qT,h1]
    have bL:((re vl:Int) != 0)=true:=by rw[a1O];simp only at h2;omega
    have Es:((re vl:Int)==0)=false:=by rw[a0k];simp only at h2;omega
    have F3:=aj h3;clear h1 h2 h3;simp only[lT];go_wp2;go_ret;exact .inl ⟨_,HE,rfl,F3.o.alloc _⟩
   obtain⟨am4,zI,am5⟩:=aas CBJ.o h1;have Po:Z_ (qT re dw { s1 with t:=xR s1.t t } (acc++[(Qg s1.t t,abB (nm,kd,vl))]) (M.drop (j+1))=qT re dw s [] M):=by show _=_;rw[<-HP1.o,qT,h1]
   have CB2:=aj am4;have HQ2:Z_ ({ s1 with t:=xR s1.t t }.q=s.q):=am5.trans HQ;have N2:=aj (Ob _ w0 kb (w2.alloc (Obj.cells (lT t) 94)) V2 U2 s1 (hK2.aB ((aA.refl [] _).alloc _)) t (by rw[zI];omega));have K2F:=aj am3;have adS:=aj (Dh.o.trans adR);have hbm:(wr.alloc (Obj.cells #[.string (bs nm),.int .i64 (kd:Nat),.string (bs vl)] 92)).heap[wr.heap.size]?=some (.cells #[.string (bs nm),.int .i64 (kd:Nat),.string (bs vl)] 92 (0,0)):=bK _ _;have HBM:=aj hbm;have OL:=aj KJ.o.xh;obtain⟨tn,tk,tx⟩:=t;simp only[lT]at N2 |-;clear h1 hK2 adR am3 am4 zI am5 HP1 hbm Dh t0 t1 t2;go_wp2_with fail
   refine(N2.o).mono ?_;clear N2;rintro e w4 ⟨rfl,V4,hK4,hV4,am6⟩;have K24:KF kb (wr.alloc (Obj.cells #[.string (bs nm),.int .i64 (kd:Nat),.string (bs vl)] 92)) Vj Uj w4 V4 U2:=K2F.o.trans ((KF.of ((aA.refl [] w2).alloc _)).trans am6);have EN:w4.heap[wr.heap.size]?=some (.cells #[.string (bs nm),.int .i64 (kd:Nat),.string (bs vl)] 92 (0,0)):=(K24.f.block wr.heap.size (by simp) (λhm=>by have:=OL.o _ hm;omega)).trans HBM;have m1:w4.cell? ⟨wr.heap.size,1,none⟩=some (.int .i64 (kd:Nat)):=by simp[World.cell?,EN]
   have O4:=aj ((O.o.aB (S:=[]) ((aA.refl [] _).alloc _) (by simp)).off K24.f (λg hg hm=>by
    rcases a0l.1 hm with rfl|hm
    ·have:=(O.o.lt hg).1;omega
    exact HNO.o g hg hm))
   have NO4:Z_ (∀g,Value.ownBlock (.slice ac j ym)=some g->g∉Da V4 U2):=λg hg hm=>by
    rcases K24.o g hm with h1|h1
    ·exact HNO.o g hg h1
    have:=(O.o.lt hg).2;simp at h1;omega
   have K4:=aj hK4;have agy:Z_ (KV V V4 U U2):=⟨hV4.1.trans adS.o.1,hV4.2.trans adS.o.2.1,adS.o.2.2.1,adS.o.2.2.2⟩;have Vk:wr.heap.size<w4.heap.size:=(a0d.1 EN).1;have jv:Z_ ((cc acc).length=j):=by show _=_;rw[TJ];exact ja
   generalize hfd:Qg s1.t ⟨tn,tk,tx⟩=fd at *;clear hfd hK4 hV4 am6 K24 EN K2F HBM adS HNO KJ;rcases(show kd=0\/kd=1\/kd=2\/kd=3 by omega) with rfl|rfl|rfl|rfl
   ·go_wp2_with (at_builtin;refine og _ rfl _ _ 90 99 _ 2 16 Oe Tryz.underlying90 rfl (by omega) rfl w.heap.size (.slice ac j ym) (cc acc) w4.heap.size [.int .i64 (fd:Nat),.bool true] rfl (O4.o.aB (S:=[]) ((aA.refl [] _).alloc _) (by simp)) rfl rfl (Jc _ _ _) (by intro u hu;simp at hu;rcases hu with rfl|rfl<;>rfl) (by rw[jv.o];omega) (by rw[jv.o];omega) (by simp;omega) ?_;intro gg aP w5 lU aG aX adT;rw[jv.o]at lU |-;have O5:=aj lU;have G5:=aj aG;have xS:=aj aX;clear lU aG aX)
    have FA:aA [] w4 (w4.alloc (Obj.cells #[.int .i64 (fd:Nat),.bool true] 99)):=(aA.refl [] _).alloc _;have FG:aA (Value.ownBlock (.slice ac j ym)).toList (w4.alloc (Obj.cells #[.int .i64 (fd:Nat),.bool true] 99)) w5:=(aA.refl _ _).grown G5.o (λr hr=>.inl (by simp[hr]));have K5:KS ([gg]++Z) w0 kb w5 V4 U2 { s1 with t:=xR s1.t ⟨tn,tk,tx⟩ }:=by
     have k1:=(K4.o.aB FA).J2 (Z':=(Value.ownBlock (.slice ac j ym)).toList++(gg::Z)) (λg hg=>by
      rcases a0b.1 hg with h1|h1
      ·exact .inl (a0b.2 (.inl h1))
      rcases a0l.1 h1 with rfl|h1
      ·rcases xS.o with h2|h2
       ·exact .inl (a0b.2 (.inl (by simp[h2])))
       exact .inr (by rw[h2];exact a0a _)
      exact .inl (a0b.2 (.inr h1)))
     have k2:=k1.off FG (λg hg=>a0b.2 (.inl hg)) (λg hg=>by have:=(O4.o.lt (by simpa using hg)).1;omega) (λg hg=>NO4.o g (by simpa using hg));exact k2.J2 (λg hg=>.inl (a0b.2 (.inr (by simpa using hg))))
    have HK5:=aj K5;have NO5:Z_ (∀g,Value.ownBlock (.slice (some ⟨gg,0,none⟩) (j+1) aP)=some g->g∉Da V4 U2):=λg hg hm=>by
     have e:gg=g:=by simpa[Value.ownBlock] using hg
     subst e;rcases xS.o with h2|h2
     ·exact NO4.o _ h2 hm
     have h3:=K4.o.xh gg (by simp[hm]);rw[h2]at h3;simp at h3;omega
    have O6:=O5.o;rw[show cc acc++[[Value.int .i64 (fd:Nat),Value.bool true]]=cc (acc++[(fd,true)]) from Oa acc (fd,true)]at O6;have HO6:=aj O6;have yA:=FG.size;have Jl:=FA.size;clear FA FG K5 O6;go_roundg (gk-1)
    case measure=>omega
    case rel=>exact⟨j+1,acc++[(fd,true)],_,V4,U2,by omega,by go_num,by simp;omega,by omega,HO6,NO5,HK5,agy,Po,CB2,HQ2⟩
   ·go_wp2_with (at_builtin;refine og _ rfl _ _ 90 99 _ 2 16 Oe Tryz.underlying90 rfl (by omega) rfl w.heap.size (.slice ac j ym) (cc acc) w4.heap.size [.int .i64 (fd:Nat),.bool false] rfl (O4.o.aB (S:=[]) ((aA.refl [] _).alloc _) (by simp)) rfl rfl (Jc _ _ _) (by intro u hu;simp at hu;rcases hu with rfl|rfl<;>rfl) (by rw[jv.o];omega) (by rw[jv.o];omega) (by simp;omega) ?_;intro gg aP w5 lU aG aX adT;rw[jv.o]at lU |-;have O5:=aj lU;have G5:=aj aG;have xS:=aj aX;clear lU aG aX)
    have FA:aA [] w4 (w4.alloc (Obj.cells #[.int .i64 (fd:Nat),.bool false] 99)):=(aA.refl [] _).alloc _;have FG:aA (Value.ownBlock (.slice ac j ym)).toList (w4.alloc (Obj.cells #[.int .i64 (fd:Nat),.bool false] 99)) w5:=(aA.refl _ _).grown G5.o (λr hr=>.inl (by simp[hr]));have K5:KS ([gg]++Z) w0 kb w5 V4 U2 { s1 with t:=xR s1.t ⟨tn,tk,tx⟩ }:=by
     have k1:=(K4.o.aB FA).J2 (Z':=(Value.ownBlock (.slice ac j ym)).toList++(gg::Z)) (λg hg=>by
      rcases a0b.1 hg with h1|h1
      ·exact .inl (a0b.2 (.inl h1))
      rcases a0l.1 h1 with rfl|h1
      ·rcases xS.o with h2|h2
       ·exact .inl (a0b.2 (.inl (by simp[h2])))
       exact .inr (by rw[h2];exact a0a _)
      exact .inl (a0b.2 (.inr h1)))
     have k2:=k1.off FG (λg hg=>a0b.2 (.inl hg)) (λg hg=>by have:=(O4.o.lt (by simpa using hg)).1;omega) (λg hg=>NO4.o g (by simpa using hg));exact k2.J2 (λg hg=>.inl (a0b.2 (.inr (by simpa using hg))))
    have HK5:=aj K5;have NO5:Z_ (∀g,Value.ownBlock (.slice (some ⟨gg,0,none⟩) (j+1) aP)=some g->g∉Da V4 U2):=λg hg hm=>by
     have e:gg=g:=by simpa[Value.ownBlock] using hg
     subst e;rcases xS.o with h2|h2
     ·exact NO4.o _ h2 hm
     have h3:=K4.o.xh gg (by simp[hm]);rw[h2]at h3;simp at h3;omega
    have O6:=O5.o;rw[show cc acc++[[Value.int .i64 (fd:Nat),Value.bool false]]=cc (acc++[(fd,false)]) from Oa acc (fd,false)]at O6;have HO6:=aj O6;have yA:=FG.size;have Jl:=FA.size;clear FA FG K5 O6;go_roundg (gk-1)
    case measure=>omega
    case rel=>exact⟨j+1,acc++[(fd,false)],_,V4,U2,by omega,by go_num,by simp;omega,by omega,HO6,NO5,HK5,agy,Po,CB2,HQ2⟩
   ·go_wp2_with (at_builtin;refine og _ rfl _ _ 90 99 _ 2 16 Oe Tryz.underlying90 rfl (by omega) rfl w.heap.size (.slice ac j ym) (cc acc) w4.heap.size [.int .i64 (fd:Nat),.bool true] rfl (O4.o.aB (S:=[]) ((aA.refl [] _).alloc _) (by simp)) rfl rfl (Jc _ _ _) (by intro u hu;simp at hu;rcases hu with rfl|rfl<;>rfl) (by rw[jv.o];omega) (by rw[jv.o];omega) (by simp;omega) ?_;intro gg aP w5 lU aG aX adT;rw[jv.o]at lU |-;have O5:=aj lU;have G5:=aj aG;have xS:=aj aX;clear lU aG aX)
    have FA:aA [] w4 (w4.alloc (Obj.cells #[.int .i64 (fd:Nat),.bool true] 99)):=(aA.refl [] _).alloc _;have FG:aA (Value.ownBlock (.slice ac j ym)).toList (w4.alloc (Obj.cells #[.int .i64 (fd:Nat),.bool true] 99)) w5:=(aA.refl _ _).grown G5.o (λr hr=>.inl (by simp[hr]));have K5:KS ([gg]++Z) w0 kb w5 V4 U2 { s1 with t:=xR s1.t ⟨tn,tk,tx⟩ }:=by
     have k1:=(K4.o.aB FA).J2 (Z':=(Value.ownBlock (.slice ac j ym)).toList++(gg::Z)) (λg hg=>by
      rcases a0b.1 hg with h1|h1
      ·exact .inl (a0b.2 (.inl h1))
      rcases a0l.1 h1 with rfl|h1
      ·rcases xS.o with h2|h2
       ·exact .inl (a0b.2 (.inl (by simp[h2])))
       exact .inr (by rw[h2];exact a0a _)
      exact .inl (a0b.2 (.inr h1)))
     have k2:=k1.off FG (λg hg=>a0b.2 (.inl hg)) (λg hg=>by have:=(O4.o.lt (by simpa using hg)).1;omega) (λg hg=>NO4.o g (by simpa using hg));exact k2.J2 (λg hg=>.inl (a0b.2 (.inr (by simpa using hg))))
    have HK5:=aj K5;have NO5:Z_ (∀g,Value.ownBlock (.slice (some ⟨gg,0,none⟩) (j+1) aP)=some g->g∉Da V4 U2):=λg hg hm=>by
     have e:gg=g:=by simpa[Value.ownBlock] using hg
     subst e;rcases xS.o with h2|h2
     ·exact NO4.o _ h2 hm
     have h3:=K4.o.xh gg (by simp[hm]);rw[h2]at h3;simp at h3;omega
    have O6:=O5.o;rw[show cc acc++[[Value.int .i64 (fd:Nat),Value.bool true]]=cc (acc++[(fd,true)]) from Oa acc (fd,true)]at O6;have HO6:=aj O6;have yA:=FG.size;have Jl:=FA.size;clear FA FG K5 O6;go_roundg (gk-1)
    case measure=>omega
    case rel=>exact⟨j+1,acc++[(fd,true)],_,V4,U2,by omega,by go_num,by simp;omega,by omega,HO6,NO5,HK5,agy,Po,CB2,HQ2⟩
   go_wp2_with (at_builtin;refine og _ rfl _ _ 90 99 _ 2 16 Oe Tryz.underlying90 rfl (by omega) rfl w.heap.size (.slice ac j ym) (cc acc) w4.heap.size [.int .i64 (fd:Nat),.bool false] rfl (O4.o.aB (S:=[]) ((aA.refl [] _).alloc _) (by simp)) rfl rfl (Jc _ _ _) (by intro u hu;simp at hu;rcases hu with rfl|rfl<;>rfl) (by rw[jv.o];omega) (by rw[jv.o];omega) (by simp;omega) ?_;intro gg aP w5 lU aG aX adT;rw[jv.o]at lU |-;have O5:=aj lU;have G5:=aj aG;have xS:=aj aX;clear lU aG aX)
   have FA:aA [] w4 (w4.alloc (Obj.cells #[.int .i64 (fd:Nat),.bool false] 99)):=(aA.refl [] _).alloc _;have FG:aA (Value.ownBlock (.slice ac j ym)).toList (w4.alloc (Obj.cells #[.int .i64 (fd:Nat),.bool false] 99)) w5:=(aA.refl _ _).grown G5.o (λr hr=>.inl (by simp[hr]));have K5:KS ([gg]++Z) w0 kb w5 V4 U2 { s1 with t:=xR s1.t ⟨tn,tk,tx⟩ }:=by
    have k1:=(K4.o.aB FA).J2 (Z':=(Value.ownBlock (.slice ac j ym)).toList++(gg::Z)) (λg hg=>by
     rcases a0b.1 hg with h1|h1
     ·exact .inl (a0b.2 (.inl h1))
     rcases a0l.1 h1 with rfl|h1
     ·rcases xS.o with h2|h2
      ·exact .inl (a0b.2 (.inl (by simp[h2])))
      exact .inr (by rw[h2];exact a0a _)
     exact .inl (a0b.2 (.inr h1)))
    have k2:=k1.off FG (λg hg=>a0b.2 (.inl hg)) (λg hg=>by have:=(O4.o.lt (by simpa using hg)).1;omega) (λg hg=>NO4.o g (by simpa using hg));exact k2.J2 (λg hg=>.inl (a0b.2 (.inr (by simpa using hg))))
   have HK5:=aj K5;have NO5:Z_ (∀g,Value.ownBlock (.slice (some ⟨gg,0,none⟩) (j+1) aP)=some g->g∉Da V4 U2):=λg hg hm=>by
    have e:gg=g:=by simpa[Value.ownBlock] using hg
    subst e;rcases xS.o with h2|h2
    ·exact NO4.o _ h2 hm
    have h3:=K4.o.xh gg (by simp[hm]);rw[h2]at h3;simp at h3;omega
   have O6:=O5.o;rw[show cc acc++[[Value.int .i64 (fd:Nat),Value.bool false]]=cc (acc++[(fd,false)]) from Oa acc (fd,false)]at O6;have HO6:=aj O6;have yA:=FG.size;have Jl:=FA.size;clear FA FG K5 O6;go_roundg (gk-1)
   case measure=>omega
   case rel=>exact⟨j+1,acc++[(fd,false)],_,V4,U2,by omega,by go_num,by simp;omega,by omega,HO6,NO5,HK5,agy,Po,CB2,HQ2⟩
  have iH:decide ((j:Int)<(M.length:Int))=false:=a0f (by omega);have hj:j=M.length:=by omega
  have HE:Z_ (qT re dw s [] M=.ok (acc,sj)):=by
   show _=_;rw[<-HP.o,hj,a3i]
   rfl
  have KZ:=KJ.o.J2 (Z':=Z) (λg hg=>.inl (a0b.2 (.inr hg)));obtain⟨rt,ux,uq,ul⟩:=Uj;obtain⟨ca,cq,hg⟩:=KZ.g;have hOQ:OW 90 1 w0.heap.size wr uq (iO cq):=hg.rw.o 5 ⟨90,1,uq,iO cq⟩ rfl;have hcq:cq.length<=1000:=by rw[hg.qi.1,HQ.o];exact hq
  obtain⟨aq,cqq,heq⟩:=hOQ.shape;rw[sZ]at heq;subst heq;have c8:=KZ.row.c 8;simp at c8;have z8:=KZ.row.fz 8;have hkr:=KZ.row.lt;have HRQ:Z_ (iG akG (Z++kb::owns (Ac Vj ⟨rt,ux,.slice aq cq.length cqq,ul⟩ sj ca cq)) wr [#[.slice ac j ym]] [acc]):=by
   refine⟨rfl,λn cs x h1 h2=>?_⟩;rcases n with _|n
   ·simp at h1 h2
    subst h1 h2;refine⟨_,rfl,O.o.rw (λg gP hm=>?_)⟩;rcases a0b.1 hm with h3|h3
    ·have h4:=HZ.o g h3
     have h5:=(O.o.lt gP).1;omega
    rcases a0l.1 h3 with rfl|h3
    ·have h5:=(O.o.lt gP).1
     omega
    exact HNO.o g gP h3
   simp at h1
  have HG:=aj hg;have OQ:=aj hOQ;have HTQ:Z_ ((iO cq).length=cq.length):=sZ cq;have HKR:=aj KZ.row;have Ad:Z_ (∀r,Value.ownBlock (.slice aq cq.length cqq)=some r->r≠kb):=λr hr=>by have:=(OQ.o.lt hr).1;omega
  have arf:=hg.fr.size;clear hg hOQ KZ KJ HP hj;go_wp2_with (at_builtin;refine og _ rfl _ _ 57 90 _ 1 24 al4 Tryz.underlying57 rfl (by omega) rfl w0.heap.size (.slice aq cq.length cqq) (iO cq) wr.heap.size [.slice ac j ym] rfl (OQ.o.aB (S:=[]) ((aA.refl [] _).alloc _) (by simp)) rfl rfl (ah1 _ _) (by intro u hu;simp at hu;rcases hu with rfl;rfl) (by rw[HTQ.o];omega) (by rw[HTQ.o];omega) (by simp;omega) ?_;intro gg aP w4 bF aG aX zx;rw[HTQ.o]at bF |-;have O4:=aj bF;have G4:=aj aG;have xS:=aj aX;have R4:=aj ((HKR.o.aB (S:=[]) ((aA.refl [] _).alloc _) (by simp)).grown G4.o Ad);have k8:=R4.o.c 8;have y8:=R4.o.fz 8;simp at k8;clear bF aG aX)
  go_ret;have FA:aA [] wr (wr.alloc (Obj.cells #[.slice ac j ym] 90)):=(aA.refl [] _).alloc _;have O6:=O4.o;rw[show iO cq++[[Value.slice ac j ym]]=iO (cq++[#[.slice ac j ym]]) from y7 cq #[.slice ac j ym]]at O6;have g5:=(HG.o.aB FA (by simp)).grow 5 (r:=⟨90,1,.slice aq cq.length cqq,iO cq⟩) (r':=⟨90,1,.slice (some ⟨gg,0,none⟩) (cq.length+1) aP,iO (cq++[#[.slice ac j ym]])⟩) rfl G4.o O6 rfl xS;have r5:=(HRQ.o.aB FA (by simp)).turn G4.o (λr hr=>Dc 5 (r:=⟨90,1,.slice aq cq.length cqq,iO cq⟩) rfl hr) xS.o (Db 5 (r:=⟨90,1,.slice aq cq.length cqq,iO cq⟩) (r':=⟨90,1,.slice (some ⟨gg,0,none⟩) (cq.length+1) aP,iO (cq++[#[.slice ac j ym]])⟩) rfl rfl);have g6:KG Z w0 kb w4 (Ac Vj ⟨rt,ux,.slice (some ⟨gg,0,none⟩) (cq.length+1) aP,ul⟩ { sj with q:=sj.q++[acc] } ca (cq++[#[.slice ac j ym]])) ca sj.a (cq++[#[.slice ac j ym]]) (sj.q++[acc]):=⟨g5.fr,g5.lo,g5.rw,g5.ai,g5.qi.snoc (r5.2 0 _ _ rfl rfl)⟩;have R6:=R4.o.set (V':=Vj) (U':=⟨rt,ux,.slice (some ⟨gg,0,none⟩) (cq.length+1) aP,ul⟩) 8 (.slice (some ⟨gg,0,none⟩) (cq.length+1) aP) rfl;exact .inr ⟨acc,sj,_,_,HE,rfl,⟨R6,ca,cq++[#[.slice ac j ym]],g6.aB (S:=[kb]) ((aA.refl [kb] _).setCell (p:=⟨kb,8,none⟩) (.inl (by simp)) _) (by simp)⟩,⟨Dh.o.1,Dh.o.2.1,Dh.o.2.2.1,Dh.o.2.2.2⟩⟩
def QR(A:LN)(w:World)(v:Value)(q:List (List (Nat × Bool))):Prop:=∃cq,RW A 1 w v (iO cq)/\iG akG A w cq q
theorem RW.con {L:List (Nat × Bool)}(h:RW A 2 w v (cc L)):∃a cap,v=.slice a L.length cap/\∀(j:Nat) (hj:j<L.length),∃g off,a=some ⟨g,off,none⟩/\g∉A/\g<w.heap.size/\w.cell? ⟨g,off+j*2,none⟩=some (.int .i64 (L[j].1:Nat))/\w.cell? ⟨g,off+j*2+1,none⟩=some (.bool L[j].2):=by
 obtain⟨a,cap,e,h1,h2⟩:=h;rw[TJ]at e;refine⟨a,cap,e,λj hj=>?_⟩;obtain⟨g,off,e2,h3,h4,h5⟩:=h2 j (by rw[TJ];exact hj);exact⟨g,off,e2,h3,h4,h5 0 _ (by simp[cc]),h5 1 _ (by simp[cc])⟩
theorem Ib(w0:World)(kb:Nat)(w:World)(V:V6)(U:V4)(l:List gD)(h:LY w0 kb w V U l)(q:List (List (Nat × Bool)))(hq:QR [kb] w0 U.q q)(hqb:∀x∈q,x.length<=1000)(r y n:Nat)(hr:r<q.length)(Gb:q.length<=1000)(hl:l.length<=900000000) :
 Calls Tryz.prog 48 #[.pointer (some ⟨kb,0,none⟩),.int .i64 r,.int .i64 y,.int .i64 n] w λe w'=>e=.returned (.int .i64 ((dX q[r] y n l).1:Nat))/\∃v,LY w0 kb w' V (U.lay v) (dX q[r] y n l).2/\LF kb w U.l w' v:=by
 obtain⟨rt,xx,vq,vl⟩:=U;obtain⟨cq,h1,h2⟩:=hq;obtain⟨aq,apP,e,rq⟩:=yO h1 h2;simp only at e;subst e;obtain⟨gq,oq,cs,rfl,hgq,Mw,⟨vb,rfl,Cu⟩,k1⟩:=rq r hr;obtain⟨ab,Ex,rfl,rb⟩:=Cu.con;have p0:=(h.fr.cell (p:=⟨gq,oq+r*1+0,none⟩) hgq Mw).trans (k1 0 _ rfl);rw[a1c,a1G]at p0;have c8:=h.row.c 8;simp at c8;have hQ:=hqb q[r] (a0z hr);have L0:=aj h;have RB:=aj rb;have BF:decide ((r:Int)<(q.length:Int))=true:=a0h (by omega);clear h1 h2 rq k1 Cu rb h hqb;generalize q[r]=Q at *;go_enter Tryz.func48,Tryz.ntmps48
 go_wp2_with fail
 go_loopg [2,10] Q.length (λk v2 v10 wr=>∃(j y1:Nat) (x:Int) (l1:List gD) (v:Value),j<=Q.length/\k=j/\v10=.int .i64 x/\x=(j:Int)-1/\v2=.int .i64 y1/\Z_ (l1.length=l.length+(Q.length-j))/\Z_ (dX (Q.drop j) y n l=(y1,l1))/\Z_ (LY w0 kb wr V ⟨rt,xx,.slice (some ⟨gq,oq,none⟩) q.length apP,v⟩ l1)/\Z_ (LF kb w vl wr v))
 case atStart=>exact⟨Q.length,y,_,l,vl,a0a _,rfl,rfl,by omega,rfl,by show _=_;omega,by show _=_;simp[dX],L0,LF.refl _ _ _⟩
 case round =>
  obtain⟨j,y1,x,l1,v,hj,rfl,rfl,hx,rfl,HLL,HV,L1,LF1⟩:=hrel;rcases gk with _|m
  ·obtain rfl:x=-1:=by omega
   clear hx;go_wp2;go_ret;have:=HV.o;rw[a2A]at this;rw[this];exact⟨rfl,v,L1,LF1⟩
  obtain rfl:x=(m:Int):=by omega
  clear hx;obtain⟨gc,oc,rfl,Lb,akL,q0,q1⟩:=RB.o m (by omega);have s0:=(L1.o.fr.cell (p:=⟨gc,oc+m*2,none⟩) akL Lb).trans q0;have s1:=(L1.o.fr.cell (p:=⟨gc,oc+m*2+1,none⟩) akL Lb).trans q1;have arh:=a0x akL L1.o.fr.size;have Kv:dX (Q.drop m) y n l=(l1.length,l1++[if Q[m].2 then ⟨2,Q[m].1,y1,n⟩ else ⟨2,Q[m].1,n,y1⟩]):=by
   rw[a0q (by omega),dX,HV.o]
  have iH:decide ((m:Int)<(Q.length:Int))=true:=a0h (by omega);generalize Q[m]=c at *;obtain⟨ct,ch⟩:=c;simp only at s0 s1 Kv;clear q0 q1 HV;cases ch with
  | true =>
    have yQ:Z_ (dX (Q.drop m) y n l=(l1.length,l1++[⟨2,ct,y1,n⟩])):=Kv;have N1:=aj (Od w0 kb (wr.alloc (Obj.cells #[.int .i64 2,.int .i64 ct,.int .i64 y1,.int .i64 n] 105)) V _ l1 (L1.o.aB ((aA.refl [] _).alloc _)) ⟨2,ct,y1,n⟩ (by rw[HLL.o];omega));simp only[kT]at N1;clear Kv;go_wp2_with fail
    refine(N1.o).mono ?_;rintro e w2 ⟨rfl,v2,XM,Ry⟩;have L2:=aj XM;have LF2:Z_ (LF kb w vl w2 v2):=LF1.o.trans (Ry.pre ((aA.refl [] _).alloc _));clear N1 XM Ry LF1;go_wp2;go_roundg m
    case measure=>omega
    case rel=>exact⟨m,l1.length,_,_,v2,by omega,rfl,rfl,by omega,rfl,by show _=_;simp[HLL.o];omega,yQ,L2,LF2⟩
  | false =>
    have yQ:Z_ (dX (Q.drop m) y n l=(l1.length,l1++[⟨2,ct,n,y1⟩])):=Kv;have N1:=aj (Od w0 kb (wr.alloc (Obj.cells #[.int .i64 2,.int .i64 ct,.int .i64 n,.int .i64 y1] 105)) V _ l1 (L1.o.aB ((aA.refl [] _).alloc _)) ⟨2,ct,n,y1⟩ (by rw[HLL.o];omega));simp only[kT]at N1;clear Kv;go_wp2_with fail
    refine(N1.o).mono ?_;rintro e w2 ⟨rfl,v2,XM,Ry⟩;have L2:=aj XM;have LF2:Z_ (LF kb w vl w2 v2):=LF1.o.trans (Ry.pre ((aA.refl [] _).alloc _));clear N1 XM Ry LF1;go_wp2;go_roundg m
    case measure=>omega
    case rel=>exact⟨m,l1.length,_,_,v2,by omega,rfl,rfl,by omega,rfl,by show _=_;simp[HLL.o];omega,yQ,L2,LF2⟩
theorem adU(wr:World)(q:Nat)(v:Value)(t:TypeId):((wr.drewN q).alloc (Obj.cells #[v] t)).cell? ⟨wr.heap.size,0,none⟩=some v:=by
 have h:((wr.drewN q).alloc (Obj.cells #[v] t)).heap[wr.heap.size]?=some (Obj.cells #[v] t):=bK (wr.drewN q) _;unfold World.cell?;simp only[h]
 rfl
def J3(C:List CR)(r j:Nat):Bool:=decide (r<j)&&(par C j==some r)
theorem XO(C:List CR)(r:Nat):kids C r=(List.range C.length).filter (J3 C r):=rfl
theorem adV(C:List CR)(r:Nat):(List.range (r+1)).filter (J3 C r)=[]:=by
 rw[List.filter_eq_nil_iff];intro j hj;rw[a1Z]at hj;simp[J3];omega
theorem afp(C:List CR)(r j:Nat)(h:r<j):(List.range (j+1)).filter (J3 C r)=(List.range j).filter (J3 C r)++(if (par C j==some r)=true then [j] else []):=by
 rw[List.range_succ,List.filter_append]
 congr 1
 cases hp:(par C j==some r)<;>simp[J3,h,hp]
theorem akM(C:List CR)(j r:Nat):(C9 C j==(r:Int))=(par C j==some r):=by
 unfold C9;cases par C j with
 | none=>simp
 | some p=>rw[a0P];simp;omega
theorem Tp(kb:Nat)(w:World)(V:V6)(U:V4)(hk:KR w kb V U)(C:List CR)(Cr:LQ [kb] w U.rt C)(hC:C.length<=1000)(hd:∀c∈C,c.d<=1048576)(r:Nat)(hr:r<C.length) :
 Calls Tryz.prog 47 #[.pointer (some ⟨kb,0,none⟩),.int .i64 r] w λe w'=>∃v,e=.returned v/\aA [] w w'/\OW 3 1 w.heap.size w' v (ic (kids C r)):=by
 obtain⟨rt,xx,vq,vl⟩:=U;have H:=aj hk;have HRT:=aj Cr;have HD:=aj hd;obtain⟨art,rT,ert⟩:∃a cap,rt=.slice a C.length cap:=by
  obtain⟨eu,h1,h2⟩:=Cr;obtain⟨a,cap,e,_⟩:=yO h1 h2;exact⟨a,cap,e⟩
 subst ert;have hkl:=hk.lt;clear hk Cr hd;go_enter Tryz.func47,Tryz.ntmps47
 go_wp2_with fail
 go_loopg [5,6] (C.length-(r+1)) (λk v5 v6 wr=>∃(j:Nat) (acc:LN),r<j/\j+k=C.length/\v6=.int .i64 j/\Z_ (acc=(List.range j).filter (J3 C r))/\acc.length<=j/\aA [] w wr/\OW 3 1 w.heap.size wr v5 (ic acc))
 case atStart=>exact⟨r+1,[],by omega,by omega,by go_num,by show _=_;exact(adV C r).symm,by simp,(aA.refl _ _).alloc _,OW.empty _ _ _ _ (a0a _)⟩
 case round =>
  obtain⟨j,acc,hrj,sI,rfl,HA,ja,hF,hO⟩:=hrel;obtain⟨ao,co,he⟩:=hO.shape;rw[I7]at he;subst he;have F:=aj hF;have O:=aj hO;have hz:=hF.size;have c6:=(H.o.aB hF (by simp)).c 6;simp at c6
  by_cases aO:j<C.length
  ·have iH:decide ((j:Int)<(C.length:Int))=true:=a0h (by omega)
   have N1:=aj (JZ wr _ [kb] C (HRT.o.aB hF (by simp)) (by omega) HD.o j aO);have hpe:=akM C j r;have dM:=afp C r j hrj;clear hF hO;generalize C9 C j=pj at *;cases hb:(par C j==some r)
   ·have HA2:Z_ (acc=(List.range (j+1)).filter (J3 C r)):=by show _=_;rw[dM,hb,HA.o];simp
    rw[hb]at hpe;clear dM HA hb;go_wp2_with fail
    refine(N1.o).mono ?_;rintro e w2 ⟨rfl,qn,rfl⟩;clear N1;go_wp2;go_roundg (gk-1)
    case measure=>omega
    case rel=>exact⟨j+1,acc,by omega,by omega,by go_num,HA2,by omega,F.o.drewN _,O.o.aB ((aA.refl [] _).drewN _) (by simp)⟩
   have HA2:Z_ (acc++[j]=(List.range (j+1)).filter (J3 C r)):=by show _=_;rw[dM,hb,HA.o];simp
   rw[hb]at hpe;clear dM HA hb;go_wp2_with fail
   refine(N1.o).mono ?_;rintro e w2 ⟨rfl,qn,rfl⟩;clear N1;go_wp2_with (at_builtin;refine ahW _ rfl _ _ rfl w.heap.size (.slice ao acc.length co) acc wr.heap.size j rfl (O.o.aB (S:=[]) (((aA.refl [] _).drewN qn).alloc _) (by simp)) rfl (adU _ _ _ _) (by omega) (by simp;omega) ?_;intro g2 aP w3 MM hg3 apQ CE;have O3:=aj MM;have G3:=aj hg3;clear MM hg3 apQ)
   go_roundg (gk-1)
   case measure=>omega
   case rel=>exact⟨j+1,acc++[j],by omega,by omega,by go_num,HA2,by simp;omega,((F.o.drewN _).alloc _).grown G3.o (λr hr=>.inr (O.o.lt hr).1),O3⟩
  have iH:decide ((j:Int)<(C.length:Int))=false:=a0f (by omega);have hj:j=C.length:=by omega
  have HV:Z_ (acc=kids C r):=by show _=_;rw[HA.o,hj,XO]
  clear HA hF hO;go_wp2;go_ret;rw[<-HV.o];exact⟨_,rfl,F,O⟩
theorem AX(y n:Nat)(l:List gD):∀q:List (Nat × Bool),(dX q y n l).2.length=l.length+q.length
 | []=>rfl
 | c::r=>by simp[dX,AX y n l r];omega
def bnd:Nat->Nat
 | 0=>0
 | f+1=>16*(bnd f+8)+1
theorem Rz {q:List (List (Nat × Bool))}(hq:∀x∈q,x.length<=4)(c:Nat):(q.getD c []).length<=4:=by
 by_cases h:c<q.length
 ·simp[List.getD,h];exact hq _ (a0z h)
 simp[List.getD,h]
theorem Jd {rec:Nat->Nat->List gD->Nat × List gD} {R:Nat}(hr:∀c d l,(rec c d l).2.length<=l.length+R)(C:List CR) {q:List (List (Nat × Bool))}(hq:∀x∈q,x.length<=4)(d:Nat)(l:List gD):∀K:LN,(mM rec C q d l K).2.2.length<=l.length+K.length*(R+4)
 | []=>by simp[mM]
 | c::r=>by
   have h1:=Jd hr C hq d l r;rw[mM];generalize mM rec C q d l r=x at *;have h2:=hr c (if (C[c]?.map (·.co))=some true then x.1 else d) x.2.2;generalize rec c (if (C[c]?.map (·.co))=some true then x.1 else d) x.2.2=b at *;have h3:=AX b.1 x.1 b.2 (q.getD c []);have h4:=Rz hq c;show(dX _ _ _ _).2.length<=_;rw[a0o,a0r];omega
theorem Qo {q:List (List (Nat × Bool))}(hq:∀x∈q,x.length<=4)(first:Nat)(l:List gD):∀Z:List (Nat × Nat),(tu q first l Z).2.length<=l.length+Z.length*4
 | []=>by simp[tu]
 | z::r=>by
   have h1:=Qo hq first l r
   rw[tu];have h3:=AX z.2 (tu q first l r).1 (tu q first l r).2 (q.getD z.1 []);have h4:=Rz hq z.1;rw[a0o,a0r];omega
theorem aat(C:List CR)(r:Nat):(kids C r).length<=C.length:=by
 rw[XO];exact a0e (List.length_filter_le _ _) (by simp)
theorem Di(hC:C.length<=16) {q:List (List (Nat × Bool))}(hq:∀x∈q,x.length<=4):∀f r d l,(lD C q f r d l).2.length<=l.length+bnd f
 | 0,_,_,l=>by simp[lD]
 | f+1,r,d,l=>by
   have h1:=Jd (Di hC hq f) C hq d l (kids C r);rw[lD];generalize mM (lD C q f) C q d l (kids C r)=x at *;have h2:=Qo hq x.2.2.length (x.2.2++[⟨1,r,d,0⟩]) ((kids C r).zip x.2.1);have h3:=aat C r;have h4:((kids C r).zip x.2.1).length<=(kids C r).length:=by rw[List.length_zip];exact Nat.min_le_left _ _
   have h5:(kids C r).length*(bnd f+4)<=16*(bnd f+4):=a0w _ (by omega);simp at h2;rw[bnd];show(tu _ _ _ _).2.length<=_;omega
theorem RF {d:Nat}:∀{i p:Nat},rZ C d i=some p->p<i/\∃c,C[p]?=some c/\c.d+1=d
 | 0,p,h=>by simp[rZ]at h
 | j+1,p,h=>by
   rw[rZ]at h
   split at h
   ·rename_i e
    cases h
    obtain⟨c,hc,he⟩:=Option.map_eq_some_iff.1 e;exact⟨by omega,c,hc,he⟩
   obtain⟨h1,h2⟩:=RF h;exact⟨by omega,h2⟩
theorem ah2 {r c:Nat}(h:c∈kids C r)(hr:r<C.length):∃hc:c<C.length,r<c/\C[r].d+1=C[c].d:=by
 rw[XO,a1R,a1Z]at h;obtain⟨hc,hk⟩:=h;simp[J3]at hk;refine⟨hc,hk.1,?_⟩;have:=hk.2;unfold par at this;rw[a0c hc]at this;obtain⟨_,c',h1,h2⟩:=RF this;rw[a0c hr]at h1;cases h1
 exact h2
structure LC(w0:World)(kb:Nat)(rt vq:Value)(C:List CR)(q:List (List (Nat × Bool))):Prop where
 Cr:LQ [kb] w0 rt C
 hq:QR [kb] w0 vq q
 ql:q.length=C.length
 qb:∀x∈q,x.length<=4
 cl:C.length<=16
 d:∀c∈C,c.d<=5
def BG(w:World)(gb:Nat)(L:LN):Prop:=w.heap[gb]?=some (.cells (nv .i64 L).toArray 3 (0,0))
theorem BG.cell(h:BG w gb L)(i:Nat)(hi:i<L.length):w.cell? ⟨gb,i,none⟩=some (.int .i64 (L[i]:Nat)):=by
 unfold BG at h;simp[World.cell?,h,nv,hi]
theorem BG.fz(h:BG w gb L)(i:Nat):w.frozen? ⟨gb,i,none⟩=false:=by
 unfold BG at h;simp[World.frozen?,h]
theorem BG.lt(h:BG w gb L):gb<w.heap.size:=(a0d.1 h).1
theorem BG.aB(h:BG w gb L)(f:aA S w w')(hS:gb∉S):BG w' gb L:=(f.block gb h.lt hS).trans h
theorem BG.set(h:BG w gb L)(i y:Nat):BG (w.setCell ⟨gb,i,none⟩ (.int .i64 y)) gb (L.set i y):=by
 unfold BG at h |-;simp[World.setCell,a0t,h,nv,a2n]
theorem aau:(Tryz.prog.info? 3).map (λi=>(i.zero,i.size,i.bytes))=some (some (.int .i64 0),1,8):=by kernel_rfl
theorem afq(n:Nat):madeCells #[.int .i64 0] n=(nv .i64 (List.replicate n 0)).toArray:=by
 apply Array.ext
 ·simp[size_madeCells,nv]
 intro i h1 h2;simp[madeCells,nv,Nat.mod_one]
theorem ah3(n:Nat)(hn:n<=1000000)(u:World):(Instr.makeSlice 128 (.int .i64 (n:Int)) (.int .i64 (n:Int))).run Tryz.prog u=.ok (.slice (some ⟨u.heap.size,0,none⟩) n n) (u.alloc (.cells (nv .i64 (List.replicate n 0)).toArray 3)):=by
 obtain⟨i0,hi,iA,fT,gF⟩:=oZ aau;have:=run_make (P:=Tryz.prog) u 128 3 i0 _ Tryz.underlying128 hi iA .i64 .i64 (n:Int) (n:Int) (by omega) (Int.le_refl _) (by rw[gF];omega) (by omega);rw[fT,Int.toNat_natCast,a1c]at this;rw[this];have e:(Value.int .i64 0).cells=#[.int .i64 0]:=rfl;rw[e,afq]
theorem LQ.co(h:LQ A w v C):∃a cap,v=.slice a C.length cap/\∀(j:Nat) (hj:j<C.length),∃g off,a=some ⟨g,off,none⟩/\g∉A/\g<w.heap.size/\w.cell? ⟨g,off+j*9+8,none⟩=some (.bool C[j].co):=by
 obtain⟨eu,h1,h2⟩:=h;obtain⟨a,cap,e,r⟩:=yO h1 h2;refine⟨a,cap,e,λj hj=>?_⟩;obtain⟨g,off,cs,e2,h3,h4,⟨dP,iB,rfl,_⟩,k1⟩:=r j hj;exact⟨g,off,e2,h4,h3,k1 8 _ rfl⟩
theorem OW.apR {base:Nat}(h:OW 3 1 base w v (ic L)):∃a cap,v=.slice a L.length cap/\∀(j:Nat) (hj:j<L.length),∃g,a=some ⟨g,0,none⟩/\v.ownBlock=some g/\g<w.heap.size/\w.cell? ⟨g,j,none⟩=some (.int .i64 (L[j]:Nat)):=by
 obtain⟨a,cap,e⟩:=h.shape;rw[I7]at e;subst e;refine⟨a,cap,rfl,λj hj=>?_⟩;obtain⟨a',xJ,e',hr⟩:=(h.rw (A:=[]) (by simp)).num;simp only[Value.slice.injEq,a1X]at e';obtain⟨rfl,rfl⟩:=e';obtain⟨g,off,rfl,hg,hc⟩:=hr j hj;have hsh:=h.1.2;rcases hsh with hn|⟨g',xJ,cur,e',_⟩
 ·rw[I7]at hn
  have:=hn.2;omega
 simp only[Value.slice.injEq,Option.some.injEq,Addr.mk.injEq]at e';obtain⟨⟨rfl,rfl,_⟩,_⟩:=e';rw[a1v]at hc;exact⟨_,rfl,rfl,hg,hc⟩
theorem LY.off(h:LY w0 kb w V U l)(f:aA S w w')(hk:kb∉S)(h0:∀g∈S,w0.heap.size<=g)(ho:∀g,U.l.ownBlock=some g->g∉S):LY w0 kb w' V U l :=
 ⟨h.row.aB f hk,h.fr.over f (λx hx=>.inl (h0 x hx)),h.lo,h.o.off f ho⟩
theorem Oh {W2 wr w3:World}{vl v3:Value}(F:aA S W2 wr)(hk:kb∈S)(hv:∀g,vl.ownBlock=some g->g∈S)(OV:∀g,v.ownBlock=some g->vl.ownBlock=some g\/W2.heap.size<=g)(h:LF kb wr v w3 v3) :
 aA S W2 w3/\∀g,v3.ownBlock=some g->vl.ownBlock=some g\/W2.heap.size<=g:=by
 refine⟨F.over h.f ?_,λg hg=>?_⟩
 ·intro x hx
  rcases a0l.1 hx with rfl|hx
  ·exact .inr hk
  rcases OV x (by simpa using hx) with h1|h1
  ·exact .inr (hv x h1)
  exact .inl h1
 rcases h.o g hg with h1|h1
 ·exact OV g h1
 exact .inr (a0e F.size h1)
theorem ah4(m b:Nat)(L:LN):(List.replicate (m+1) 0++L).set m b=List.replicate m 0++(b::L):=by
 rw[List.replicate_succ',a0K,a1t _ _ (by simp)];simp
theorem akN(rec:Nat->Nat->List gD->Nat × List gD)(C:List CR)(q:List (List (Nat × Bool)))(d:Nat)(l:List gD)(K:LN)(m c:Nat)(hm:m<K.length)(hk:K[m]=c)(hc:c<C.length)(hq:c<q.length) {sec:Nat} {vZ:LN}(h:mM rec C q d l (K.drop (m+1))=(sec,vZ,l1)) {b:Nat} {l2:List gD}(hb:rec c (if C[c].co then sec else d) l1=(b,l2)) :
 mM rec C q d l (K.drop m)=((dX q[c] b sec l2).1,b::vZ,(dX q[c] b sec l2).2):=by
 subst hk;have e:(if (C[K[m]]?.map (·.co))=some true then sec else d)=(if C[K[m]].co then sec else d):=by
  rw[a0c hc];simp
 rw[a0q hm,mM,h];simp only[e,hb];rw[a0F,a0c hq]
 rfl
theorem akO(q:List (List (Nat × Bool)))(first:Nat)(l:List gD)(K vZ:LN)(m c:Nat)(hm:m<K.length)(hk:K[m]=c)(hq:c<q.length)(hbm:m<vZ.length) {f1:Nat}(h:tu q first l ((K.zip vZ).drop (m+1))=(f1,l1)) :
 tu q first l ((K.zip vZ).drop m)=dX q[c] vZ[m] f1 l1:=by
 subst hk;rw[a0q (by rw[List.length_zip];omega),tu,h];simp only[List.getElem_zip];rw[a0F,a0c hq]
 rfl
def LRQ(w0:World)(kb:Nat)(V:V6)(rt xx vq:Value)(C:List CR)(q:List (List (Nat × Bool)))(f:Nat):Prop :=
 ∀(r d:Nat) (w:World) (vl:Value) (l:List gD),LY w0 kb w V ⟨rt,xx,vq,vl⟩ l->(hr:r<C.length)->6<=C[r].d+f->l.length+bnd f<=800000000 ->
  Calls Tryz.prog 32 #[.pointer (some ⟨kb,0,none⟩),.int .i64 r,.int .i64 d] w λe w'=>e=.returned (.int .i64 ((lD C q f r d l).1:Nat))/\∃v,LY w0 kb w' V ⟨rt,xx,vq,v⟩ (lD C q f r d l).2/\LF kb w vl w' v
theorem XQ(w0:World)(kb:Nat)(V:V6)(rt xx vq:Value)(C:List CR)(q:List (List (Nat × Bool)))(hc:LC w0 kb rt vq C q)(f:Nat)(ih:LRQ w0 kb V rt xx vq C q f):LRQ w0 kb V rt xx vq C q (f+1):=by
 intro r d w vl l h hr hf hl;have IH:=aj ih;have HC:=aj hc;have yx:=hc.cl;have Gb:=hc.ql;have hKl:=aat C r;have N1:=aj (Tp kb w V ⟨rt,xx,vq,vl⟩ h.row C (hc.Cr.aB h.fr (by simp)) (by omega) (λc hm=>by have:=hc.d c hm;omega) r hr);have HKM:Z_ (∀c∈kids C r,∃hc:c<C.length,r<c/\C[r].d+1=C[c].d):=λc hm=>ah2 hm hr
 have HR:Z_ (lD C q (f+1) r d l=tu q (mM (lD C q f) C q d l (kids C r)).2.2.length ((mM (lD C q f) C q d l (kids C r)).2.2++[⟨1,r,d,0⟩]) ((kids C r).zip (mM (lD C q f) C q d l (kids C r)).2.1)):=rfl;have L0:=aj h;have l7:=h.lo;have iA:=h.fr.size;have HVL:Z_ (∀g,vl.ownBlock=some g->g<w.heap.size):=λg hg=>(h.o.lt hg).2
 obtain⟨art,rT,ert,hco⟩:=hc.Cr.co;subst ert;have HCO:=aj hco;have vG:Z_ (∀y,mM (lD C q f) C q d l (kids C r)=y->y.2.2.length<=l.length+16*(bnd f+4)):=by
  intro y hy;have h1:=Jd (Di hc.cl hc.qb f) C hc.qb d l (kids C r);have h2:(kids C r).length*(bnd f+4)<=16*(bnd f+4):=a0w _ (by omega);rw[<-hy];omega
 have HB1:Z_ (∀n,n+1<=(kids C r).length->∀y,mM (lD C q f) C q d l ((kids C r).drop (n+1))=y->y.2.2.length<=l.length+15*(bnd f+4)):=by
  intro n hn y hy;have h1:=Jd (Di hc.cl hc.qb f) C hc.qb d l ((kids C r).drop (n+1));have h2:((kids C r).drop (n+1)).length*(bnd f+4)<=15*(bnd f+4):=a0w _ (by rw[a2I];omega);rw[<-hy];omega
 have HBL:Z_ (bnd (f+1)=16*(bnd f+8)+1):=rfl;have jO:l.length+16*(bnd f+8)+1<=800000000:=by have:=HBL.o;omega
 have hdr:C[r].d+(f+1)≥6:=hf;clear h hc hco hf hl HBL ih;generalize C[r].d=dr at *;generalize kids C r=K at *;have hmk:=ah3 K.length (by omega);go_enter Tryz.func32,Tryz.ntmps32
 go_wp2_with fail
 refine(N1.o).mono ?_;clear N1;rintro e w1 ⟨vk,rfl,rC,hO1⟩;obtain⟨ak,ck,rfl,hk⟩:=hO1.apR;have HKB:Z_ (∀g,Value.ownBlock (.slice ak K.length ck)=some g->w.heap.size<=g):=λg hg=>(hO1.lt hg).1
 obtain⟨W2,hW2⟩:∃W2,W2=w1.alloc (.cells (nv .i64 (List.replicate K.length 0)).toArray 3):=⟨_,rfl⟩;have aav:Z_ (aA [] w1 W2):=by rw[hW2];exact(aA.refl [] _).alloc _
 have qy:=aj rC;have fT:=rC.size;have HZ2:Z_ (W2.heap.size=w1.heap.size+1):=by rw[hW2];simp[Z_]
 have HBG:Z_ (BG W2 w1.heap.size (List.replicate K.length 0)):=by rw[hW2];exact bK _ _
 have HK:=aj hk;have HW2:=aj hW2;clear rC hO1 hk hW2;go_wp2_with fail
 go_loopg [9,10] K.length (λk v9 v10 wr=>∃(j sec:Nat) (x:Int) (vZ:LN) (l1:List gD) (v:Value),j<=K.length/\k=j/\v10=.int .i64 x/\x=(j:Int)-1/\v9=.int .i64 sec/\Z_ (mM (lD C q f) C q d l (K.drop j)=(sec,vZ,l1))/\Z_ (vZ.length=K.length-j)/\Z_ (LY w0 kb wr V ⟨.slice art C.length rT,xx,vq,v⟩ l1)/\Z_ (BG wr w1.heap.size (List.replicate j 0++vZ))/\Z_ (aA (kb::w1.heap.size::vl.ownBlock.toList) W2 wr)/\Z_ (∀g,v.ownBlock=some g->vl.ownBlock=some g\/W2.heap.size<=g))
 case atStart =>
  refine⟨K.length,d,_,[],l,vl,a0a _,rfl,rfl,by omega,rfl,?_,?_,?_,?_,?_,?_⟩
  ·show _=_;simp[mM]
  ·show _=_;simp
  ·show LY _ _ _ _ _ _;rw[<-HW2.o];exact L0.o.aB (qy.o.trans aav)
  ·show BG _ _ _;rw[<-HW2.o,a0Q];exact HBG
  ·show aA _ _ _;rw[<-HW2.o];exact aA.refl _ _
  exact λg hg=>.inl hg
 case round =>
  obtain⟨j,sec,x,vZ,l1,v,hj,rfl,rfl,hx,rfl,HV,HBL,L1,B1,FO,OV⟩:=hrel;have Tf:∀g,v.ownBlock=some g->g≠w1.heap.size:=λg hg e=>by
   have h2:=HZ2.o;rcases OV.o g hg with h1|h1
   ·have:=HVL.o g h1;omega
   omega
  have Ad:=aj Tf;clear Tf;have r6:=L1.o.row.c 6;simp at r6;rcases gk with _|m
  ·obtain rfl:x=-1:=by omega
   clear hx;have Yb:=HV.o;rw[a2A]at Yb;have j6:=vG.o _ Yb;simp only at j6;have Xl:=HBL.o;have nO:Z_ (lD C q (f+1) r d l=tu q l1.length (l1++[⟨1,r,d,0⟩]) (K.zip vZ)):=by
    have:=HR.o;rw[Yb]at this;exact this
   have B0:Z_ (BG wr w1.heap.size vZ):=by show BG _ _ _;have:=B1.o;simpa using this
   have NG:kb≠w1.heap.size:=by omega
   have N4:=aj (Od w0 kb wr V _ l1 L1.o ⟨1,r,d,0⟩ (by omega));simp only[kT]at N4;have HL2:Z_ ((l1++[(⟨1,r,d,0⟩:gD)]).length=l1.length+1):=by show _=_;simp
   clear Yb HV HBL HR vG HB1 IH;go_wp2_with fail
   refine(N4.o).mono ?_;clear N4;rintro e w3 ⟨rfl,v3,hL3,XT⟩;obtain⟨Df,aaw⟩:=Oh FO.o (by simp) (λg hg=>by simp[hg]) OV.o XT;have B3:=aj (B0.o.aB XT.f (by intro hm;simp at hm;rcases hm with h1|h1;exact NG h1.symm;exact Ad.o _ h1 rfl));have L3:=aj hL3;have FO3:=aj Df;have OV3:=aj aaw;clear hL3 XT Df aaw;generalize Ji:l1++[(⟨1,r,d,0⟩:gD)]=l2 at *;clear Ji;go_wp2_with fail
   go_loopg [14,15] K.length (λk v14 v15 wr=>∃(j f1:Nat) (x:Int) (l3:List gD) (v:Value),j<=K.length/\k=j/\v15=.int .i64 x/\x=(j:Int)-1/\v14=.int .i64 f1/\Z_ (tu q l1.length l2 ((K.zip vZ).drop j)=(f1,l3))/\Z_ (LY w0 kb wr V ⟨.slice art C.length rT,xx,vq,v⟩ l3)/\Z_ (BG wr w1.heap.size vZ)/\Z_ (aA (kb::w1.heap.size::vl.ownBlock.toList) W2 wr)/\Z_ (∀g,v.ownBlock=some g->vl.ownBlock=some g\/W2.heap.size<=g))
   case atStart =>
    refine⟨K.length,l1.length,_,l2,v3,a0a _,rfl,rfl,by omega,rfl,?_,L3,B3,FO3,OV3⟩;show _=_;rw[a0p (by rw[List.length_zip];omega)]
    rfl
   case round =>
    obtain⟨j,f1,x,l3,v4,Yx,rfl,rfl,hx,rfl,HV4,L4,B4,FO4,OV4⟩:=hrel;rcases gk with _|m
    ·obtain rfl:x=-1:=by omega
     clear hx;have hv4:=HV4.o;rw[a2A]at hv4;have Su:Z_ (lD C q (f+1) r d l=(f1,l3)):=nO.o.trans hv4;have HLF:Z_ (LF kb w vl wr v4):=by
      refine⟨((aA.refl _ _).over (qy.o.trans aav) (by simp)).over FO4.o ?_,λg hg=>?_⟩
      ·intro y hy
       simp at hy;rcases hy with rfl|rfl|hy
       ·exact .inr (by simp)
       ·exact .inl (by omega)
       exact .inr (by simp[hy])
      rcases OV4.o g hg with h1|h1
      ·exact .inl h1
      exact .inr (by have:=HZ2.o;omega)
     clear hv4 HV4;go_wp2;go_ret;rw[Su.o];exact⟨rfl,v4,L4,HLF⟩
    obtain rfl:x=(m:Int):=by omega
    clear hx;obtain⟨gk,rfl,gP,Mw,p0⟩:=HK.o m (by omega);have hgw:=HKB.o gk gP;have s0:wr.cell? ⟨gk,m,none⟩=some (.int .i64 (K[m]:Nat)):=by
     refine(FO4.o.cell (p:=⟨gk,m,none⟩) (a0x Mw aav.o.size) ?_).trans ((aav.o.cell (p:=⟨gk,m,none⟩) Mw (by simp)).trans p0);intro hm;simp at hm;rcases hm with h1|h1|h1
     ·omega
     ·omega
     have:=HVL.o gk h1;omega
    obtain⟨c,hkm⟩:∃c,K[m]=c:=⟨_,rfl⟩;rw[hkm]at s0;obtain⟨hcK,qQ,hdc⟩:=HKM.o c (by rw[<-hkm];exact a0z _);have hqc:c<q.length:=by omega
    have hbm:m<vZ.length:=by omega
    have t0:=B4.o.cell m hbm;have hl3:l3.length<=900000000:=by
     have h1:=Qo HC.o.qb l1.length l2 ((K.zip vZ).drop (m+1));rw[HV4.o]at h1;simp only[a2I,List.length_zip]at h1;have:=HL2.o;omega
    have HLV:=aj (akO q l1.length l2 K vZ m c (by omega) hkm hqc hbm HV4);have N5:Z_ (∀W,aA [] wr W->Calls Tryz.prog 48 #[.pointer (some ⟨kb,0,none⟩),.int .i64 (c:Nat),.int .i64 (vZ[m]:Nat),.int .i64 (f1:Nat)] W λe w'=>e=.returned (.int .i64 ((dX q[c] vZ[m] f1 l3).1:Nat))/\∃v,LY w0 kb w' V ⟨.slice art C.length rT,xx,vq,v⟩ (dX q[c] vZ[m] f1 l3).2/\LF kb W v4 w' v):=λW hW=>Ib w0 kb W V _ l3 (L4.o.aB hW) q HC.o.hq (λx hx=>by have:=HC.o.qb x hx;omega) c vZ[m] f1 hqc (by omega) hl3
    have hmm:decide ((m:Int)<(K.length:Int))=true:=a0h (by omega);generalize vZ[m]=bm at *;have FN:Z_ (aA [] wr wr.drew):=(aA.refl [] _).drew;clear HV4 hkm p0 gP;go_wp2_with fail
    go_region_with (go_at_call 48;refine(N5.o _ FN).mono ?_;rintro e w6 ⟨rfl,v6,UI,akP⟩)
    all_goals
     obtain⟨hF6,am7⟩:=Oh FO4.o (by simp) (λg hg=>by simp[hg]) OV4.o (akP.pre FN);have B6:Z_ (BG w6 w1.heap.size vZ):=by
      refine(B4.o.aB FN.o (by simp)).aB akP.f ?_;intro hm;simp at hm;rcases hm with h1|h1
      ·exact NG h1.symm
      have h2:=HZ2.o;rcases OV4.o _ h1 with h3|h3
      ·have:=HVL.o _ h3;omega
      omega
     have L6:=aj UI;have FO6:=aj hF6;have OV6:=aj am7;clear UI akP hF6 am7;go_wp2;go_roundg m
     case measure=>omega
     case rel=>exact⟨m,_,_,_,v6,by omega,rfl,rfl,by omega,rfl,HLV,L6,B6,FO6,OV6⟩
  obtain rfl:x=(m:Int):=by omega
  clear hx;obtain⟨gk,rfl,gP,Mw,p0⟩:=HK.o m (by omega);have hgw:=HKB.o gk gP;have s0:wr.cell? ⟨gk,m,none⟩=some (.int .i64 (K[m]:Nat)):=by
   refine(FO.o.cell (p:=⟨gk,m,none⟩) (a0x Mw aav.o.size) ?_).trans ((aav.o.cell (p:=⟨gk,m,none⟩) Mw (by simp)).trans p0);intro hm;simp at hm;rcases hm with h1|h1|h1
   ·omega
   ·omega
   have:=HVL.o gk h1;omega
  obtain⟨c,hkm⟩:∃c,K[m]=c:=⟨_,rfl⟩;rw[hkm]at s0;obtain⟨hcK,qQ,hdc⟩:=HKM.o c (by rw[<-hkm];exact a0z _);have hqc:c<q.length:=by omega
  obtain⟨gr,or,rfl,apS,apT,t0⟩:=HCO.o c hcK;have s8:=(L1.o.fr.cell (p:=⟨gr,or+c*9+8,none⟩) apT apS).trans t0;have mV:=HB1.o m (by omega) _ HV;simp only at mV;have ko:∀d':Nat,(lD C q f c d' l1).2.length<=l1.length+bnd f:=λd'=>Di HC.o.cl HC.o.qb f c d' l1
  have wW:=aj ko;have HN3:Z_ (∀(u:World) (vu:Value) (lu:List gD) (yy nn:Nat),LY w0 kb u V ⟨.slice (some ⟨gr,or,none⟩) C.length rT,xx,vq,vu⟩ lu->lu.length<=900000000->Calls Tryz.prog 48 #[.pointer (some ⟨kb,0,none⟩),.int .i64 (c:Nat),.int .i64 yy,.int .i64 nn] u λe w'=>e=.returned (.int .i64 ((dX q[c] yy nn lu).1:Nat))/\∃v,LY w0 kb w' V ⟨.slice (some ⟨gr,or,none⟩) C.length rT,xx,vq,v⟩ (dX q[c] yy nn lu).2/\LF kb u vu w' v):=λu vu lu yy nn hu hlu=>Ib w0 kb u V _ lu hu q HC.o.hq (λx hx=>by have:=HC.o.qb x hx;omega) c yy nn (by omega) (by omega) hlu
  have sw:6<=C[c].d+f:=by omega
  have UR:l1.length+bnd f<=800000000:=by omega
  have HN2:Z_ (∀d':Nat,Calls Tryz.prog 32 #[.pointer (some ⟨kb,0,none⟩),.int .i64 (c:Nat),.int .i64 (d':Nat)] wr λe w'=>e=.returned (.int .i64 ((lD C q f c d' l1).1:Nat))/\∃v',LY w0 kb w' V ⟨.slice (some ⟨gr,or,none⟩) C.length rT,xx,vq,v'⟩ (lD C q f c d' l1).2/\LF kb wr v w' v'):=λd'=>IH.o c d' wr v l1 L1.o hcK sw UR
  have Bh:decide ((c:Int)<(C.length:Int))=true:=a0h (by omega);have hmm:decide ((m:Int)<(K.length:Int))=true:=a0h (by omega);clear ko t0 p0;have HKE:=aj hkm;obtain⟨bd,Jo⟩:∃bd,bd=if C[c].co then sec else d:=⟨_,rfl⟩
  have N2:=aj (HN2.o bd);have rD:=wW.o bd;have HLB:Z_ (∀x,lD C q f c bd l1=x->mM (lD C q f) C q d l (K.drop m)=((dX q[c] x.1 sec x.2).1,x.1::vZ,(dX q[c] x.1 sec x.2).2)):=λx hx=>akN _ C q d l K m c (by omega) HKE.o hcK (by omega) HV.o (b:=x.1) (l2:=x.2) (by rw[<-Jo];exact hx)
  generalize SV:lD C q f c bd l1=bb at *;have HLV:=aj (HLB.o bb rfl);obtain⟨b,l2⟩:=bb;simp only at N2 rD HLV;have Xl:=HBL.o;have NG:kb≠w1.heap.size:=by omega
  have ari:=aj (AX b sec l2 q[c]);clear hkm HLB SV HV wW HN2 sw mV HBL gP;cases hco:C[c].co
  all_goals
   rw[hco]at Jo s8;simp only[a0C,a0n,a0G]at Jo;rw[Jo]at N2;clear Jo;go_wp2_with fail
   refine(N2.o).mono ?_;clear N2;rintro e w3 ⟨rfl,v3,hL3,XT⟩;obtain⟨Df,aaw⟩:=Oh FO.o (by simp) (λg hg=>by simp[hg]) OV.o XT;have B3:=B1.o.aB XT.f (by intro hm;simp at hm;rcases hm with h1|h1;exact NG h1.symm;exact Ad.o _ h1 rfl);have y0:=B3.cell m (by simp;omega);have y1:=B3.fz m;have am8:∀g,v3.ownBlock=some g->g≠w1.heap.size:=λg hg e=>by
    have h2:=HZ2.o;rcases aaw g hg with h1|h1
    ·have:=HVL.o g h1;omega
    omega
   have FB:aA [w1.heap.size] w3 (w3.setCell ⟨w1.heap.size,m,none⟩ (.int .i64 (b:Nat))):=(aA.refl _ _).setCell (p:=⟨w1.heap.size,m,none⟩) (.inl (by simp)) _;have hL4:=hL3.off FB (by simp;exact NG) (by simp;omega) (λg hg=>by simp;exact am8 g hg);have N3:=aj (HN3.o _ v3 l2 b sec hL4 (by omega));have B4:=aj (B3.set m b);have FO4:=aj (Df.over FB (by simp));have OV3:=aj aaw;clear hL3 XT Df aaw B3 am8 FB hL4;go_wp2_with fail
   refine(N3.o).mono ?_;clear N3;rintro e w5 ⟨rfl,v5,hL5,akQ⟩;obtain⟨hF5,am9⟩:=Oh FO4.o (by simp) (λg hg=>by simp[hg]) OV3.o akQ;have B5:Z_ (BG w5 w1.heap.size (List.replicate m 0++(b::vZ))):=by
    rw[<-ah4];refine B4.o.aB akQ.f ?_;intro hm;simp at hm;rcases hm with h1|h1
    ·exact NG h1.symm
    have h2:=HZ2.o;rcases OV3.o _ h1 with h3|h3
    ·have:=HVL.o _ h3;omega
    omega
   have L5:=aj hL5;have FO5:=aj hF5;have OV5:=aj am9;clear hL5 akQ hF5 am9 B4 FO4 OV3 y0 y1;go_wp2;go_roundg m
   case measure=>omega
   case rel=>exact⟨m,_,_,b::vZ,_,v5,by omega,rfl,rfl,by omega,rfl,HLV,by show _=_;simp;omega,L5,B5,FO5,OV5⟩
theorem J5(w0:World)(kb:Nat)(V:V6)(rt xx vq:Value)(C:List CR)(q:List (List (Nat × Bool)))(hc:LC w0 kb rt vq C q):∀f,LRQ w0 kb V rt xx vq C q f
 | 0=>by
   intro r d w vl l h hr hf hl;have:=hc.d C[r] (a0z hr);omega
 | f+1=>XQ w0 kb V rt xx vq C q hc f (J5 w0 kb V rt xx vq C q hc f)
def NB(w:World)(g:Nat)(N:List Int):Prop:=w.heap[g]?=some (.cells (N.map λn=>Value.int .i64 n).toArray 3 (0,0))
def RB(w:World)(g:Nat)(R:List Bool):Prop:=w.heap[g]?=some (.cells (R.map λb=>Value.bool b).toArray 4 (0,0))
theorem NB.cell {L:List Int}(h:NB w g L)(i:Nat)(hi:i<L.length):w.cell? ⟨g,i,none⟩=some (.int .i64 L[i]):=by
 unfold NB at h;simp[World.cell?,h,hi]
theorem NB.fz {L:List Int}(h:NB w g L)(i:Nat):w.frozen? ⟨g,i,none⟩=false:=by
 unfold NB at h;simp[World.frozen?,h]
theorem NB.lt {L:List Int}(h:NB w g L):g<w.heap.size:=(a0d.1 h).1
theorem NB.aB {L:List Int}(h:NB w g L)(f:aA S w w')(hS:g∉S):NB w' g L:=(f.block g h.lt hS).trans h
theorem NB.set {L:List Int}(h:NB w g L)(i:Nat)(y:Int):NB (w.setCell ⟨g,i,none⟩ (.int .i64 y)) g (L.set i y):=by
 unfold NB at h |-;simp[World.setCell,a0t,h,a2n]
theorem RB.cell {L:List Bool}(h:RB w g L)(i:Nat)(hi:i<L.length):w.cell? ⟨g,i,none⟩=some (.bool L[i]):=by
 unfold RB at h;simp[World.cell?,h,hi]
theorem RB.fz {L:List Bool}(h:RB w g L)(i:Nat):w.frozen? ⟨g,i,none⟩=false:=by
 unfold RB at h;simp[World.frozen?,h]
theorem RB.lt {L:List Bool}(h:RB w g L):g<w.heap.size:=(a0d.1 h).1
theorem RB.aB {L:List Bool}(h:RB w g L)(f:aA S w w')(hS:g∉S):RB w' g L:=(f.block g h.lt hS).trans h
theorem RB.set {L:List Bool}(h:RB w g L)(i:Nat)(y:Bool):RB (w.setCell ⟨g,i,none⟩ (.bool y)) g (L.set i y):=by
 unfold RB at h |-;simp[World.setCell,a0t,h,a2n]
theorem afr:(Tryz.prog.info? 4).map (λi=>(i.zero,i.size,i.bytes))=some (some (.bool false),1,1):=by kernel_rfl
theorem adW(n:Nat):madeCells #[.bool false] n=((List.replicate n false).map λb=>Value.bool b).toArray:=by
 apply Array.ext
 ·simp[size_madeCells]
 intro i h1 h2;simp[madeCells,Nat.mod_one]
theorem afs(n:Nat)(hn:n<=1000000000)(u:World):(Instr.makeSlice 155 (.int .i64 (n:Int)) (.int .i64 (n:Int))).run Tryz.prog u=.ok (.slice (some ⟨u.heap.size,0,none⟩) n n) (u.alloc (.cells ((List.replicate n false).map λb=>Value.bool b).toArray 4)):=by
 obtain⟨i0,hi,iA,fT,gF⟩:=oZ afr;have:=run_make (P:=Tryz.prog) u 155 4 i0 _ Tryz.underlying155 hi iA .i64 .i64 (n:Int) (n:Int) (by omega) (Int.le_refl _) (by rw[gF];omega) (by omega);rw[fT,Int.toNat_natCast,a1c]at this;rw[this];have e:(Value.bool false).cells=#[.bool false]:=rfl;rw[e,adW]
theorem adX(n:Nat):madeCells #[.int .i64 0] n=((List.replicate n (0:Int)).map λb=>Value.int .i64 b).toArray:=by
 apply Array.ext
 ·simp[size_madeCells]
 intro i h1 h2;simp[madeCells,Nat.mod_one]
theorem aft(n:Nat)(hn:n<=1000000000)(u:World):(Instr.makeSlice 128 (.int .i64 (n:Int)) (.int .i64 (n:Int))).run Tryz.prog u=.ok (.slice (some ⟨u.heap.size,0,none⟩) n n) (u.alloc (.cells ((List.replicate n (0:Int)).map λb=>Value.int .i64 b).toArray 3)):=by
 obtain⟨i0,hi,iA,fT,gF⟩:=oZ aau;have:=run_make (P:=Tryz.prog) u 128 3 i0 _ Tryz.underlying128 hi iA .i64 .i64 (n:Int) (n:Int) (by omega) (Int.le_refl _) (by rw[gF];omega) (by omega);rw[fT,Int.toNat_natCast,a1c]at this;rw[this];have e:(Value.int .i64 0).cells=#[.int .i64 0]:=rfl;rw[e,adX]
theorem RW.ins {L:List gD}(h:RW A 4 w v (vY L)):∃a cap,v=.slice a L.length cap/\∀(j:Nat) (hj:j<L.length),∃g off,a=some ⟨g,off,none⟩/\g<w.heap.size/\w.cell? ⟨g,off+j*4,none⟩=some (.int .i64 (L[j].op:Nat))/\w.cell? ⟨g,off+j*4+1,none⟩=some (.int .i64 (L[j].x:Nat))/\w.cell? ⟨g,off+j*4+2,none⟩=some (.int .i64 (L[j].a:Nat))/\w.cell? ⟨g,off+j*4+3,none⟩=some (.int .i64 (L[j].b:Nat)):=by
 obtain⟨a,cap,e,h1,h2⟩:=h;rw[zR]at e;refine⟨a,cap,e,λj hj=>?_⟩;obtain⟨g,off,e2,h3,h4,h5⟩:=h2 j (by rw[zR];exact hj);exact⟨g,off,e2,h4,h5 0 _ (by simp[vY,kT]),h5 1 _ (by simp[vY,kT]),h5 2 _ (by simp[vY,kT]),h5 3 _ (by simp[vY,kT])⟩
theorem XU(w:World)(v:Value)(A:LN)(l:List gD)(h:RW A 4 w v (vY l))(iD:GL l)(first:Nat)(hf:first < l.length)(hl:l.length<=900000000) :
 Calls Tryz.prog 49 #[v,.int .i64 first] w λe w'=>∃g,e=.returned (.slice (some ⟨g,0,none⟩) l.length l.length)/\aA [] w w'/\w.heap.size<=g/\NB w' g (numsOf l first):=by
 obtain⟨a,cap,rfl,r⟩:=h.ins;have R:=aj r;have GLH:=aj iD;have hmk:=aft l.length (by omega);have hmb:=afs l.length (by omega);clear h r iD;go_enter Tryz.func49,Tryz.ntmps49
 go_wp2_with fail
 go_loopg [7,8] l.length (λk v7 v8 wr=>∃(j uR:Nat) (x:Int) (R:List Bool) (N:List Int),j<=l.length/\k=j/\v8=.int .i64 x/\x=(j:Int)-1/\v7=.int .i64 uR/\uR+j<=l.length/\Z_ (R.length=l.length)/\Z_ (N.length=l.length)/\Z_ (qU l j R N uR=numsOf l first)/\aA [] w wr/\Z_ (RB wr w.heap.size R)/\Z_ (NB wr (w.heap.size+1) N))
 case atStart =>
  refine⟨l.length,0,_,(List.replicate l.length false).set first true,List.replicate l.length 0,a0a _,rfl,rfl,by omega,rfl,by omega,?_,?_,?_,((aA.refl _ _).alloc _).alloc _,?_,?_⟩
  ·show _=_;simp
  ·show _=_;simp
  ·show _=_;rfl
  ·show RB _ _ _
   unfold RB;rw[((aA.refl [] _).alloc _).block w.heap.size (by simp) (by simp),bK];have e:(Array.replicate l.length (Value.bool false)).setIfInBounds first (Value.bool true)=(((List.replicate l.length false).set first true).map λb=>Value.bool b).toArray:=by
    apply Array.ext';simp[Array.toList_setIfInBounds,a2n]
   rw[e]
  show NB _ _ _;unfold NB;rw[NZ];simp
 case round =>
  obtain⟨j,uR,x,Rl,N,hj,rfl,rfl,hx,rfl,hcj,PK,HNL,HV,hF,wW,Ad⟩:=hrel;have F:=aj hF;have Jw:=hF.size;rcases gk with _|m
  ·obtain rfl:x=-1:=by omega
   have yQ:Z_ (N=numsOf l first):=HV.o;clear hx hF HV;go_wp2;go_ret;exact⟨_,rfl,F,by omega,by rw[<-yQ.o];exact Ad⟩
  obtain rfl:x=(m:Int):=by omega
  clear hx;have KQ:=PK.o;have rU:=HNL.o;have arj:=wW.o.lt;have ark:=Ad.o.lt;have n0:=Ad.o.cell m (by omega);have nz:=Ad.o.fz;have r0:=wW.o.cell m (by omega);have rz:=wW.o.fz;have hmm:decide ((m:Int)<(l.length:Int))=true:=a0h (by omega);obtain⟨gl,ol,rfl,iD,q0,q1,q2,q3⟩:=R.o m (by omega);have t0:=(hF.cell (p:=⟨gl,ol+m*4,none⟩) iD (by simp)).trans q0;have t1:=(hF.cell (p:=⟨gl,ol+m*4+1,none⟩) iD (by simp)).trans q1;have t2:=(hF.cell (p:=⟨gl,ol+m*4+2,none⟩) iD (by simp)).trans q2;have t3:=(hF.cell (p:=⟨gl,ol+m*4+3,none⟩) iD (by simp)).trans q3;have hgn:gl≠w.heap.size+1:=by omega
  have Ec:gl≠w.heap.size:=by omega
  have arl:w.heap.size+1≠gl:=by omega
  have arn:w.heap.size≠gl:=by omega
  have xg:qU l (m+1) Rl N uR=if Rl[m]=true then qU l m (if l[m].op=0 then Rl else if l[m].op=2 then (Rl.set l[m].a true).set l[m].b true else Rl.set l[m].a true) (N.set m uR) (uR+1) else qU l m Rl (N.set m (-1)) uR:=by
   rw[qU,a0c (by omega)];simp[List.getD,KQ,show m<l.length by omega]
  have hgm:=GLH.o m (by omega);generalize N[m]=nm at *;have FN1:∀(u:World) (i:Nat) (y:Value),aA [w.heap.size+1] u (u.setCell ⟨w.heap.size+1,i,none⟩ y):=λu i y=>(aA.refl _ _).setCell (p:=⟨w.heap.size+1,i,none⟩) (.inl (by simp)) _
  have FN2:∀(u:World) (i:Nat) (y:Value),aA [w.heap.size] u (u.setCell ⟨w.heap.size,i,none⟩ y):=λu i y=>(aA.refl _ _).setCell (p:=⟨w.heap.size,i,none⟩) (.inl (by simp)) _
  have aax:=aj FN1;have J6:=aj FN2;clear FN1 FN2 q0 q1 q2 q3 hF;cases hb:Rl[m]
  ·rw[hb]at r0 xg
   simp only[a0n,a0G]at xg;have yQ:Z_ (qU l m Rl (N.set m (-1)) uR=numsOf l first):=xg.symm.trans HV;clear xg HV hgm t0 t1 t2 t3 hb;go_wp2;go_roundg m
   case measure=>omega
   case rel=>exact⟨m,uR,_,Rl,N.set m (-1),by omega,rfl,rfl,by omega,rfl,by omega,PK,by show _=_;simp[rU],yQ,F.o.over (aax.o _ _ _) (by simp),wW.o.aB (aax.o _ _ _) (by simp),Ad.o.set m (-1)⟩
  rw[hb]at r0 xg;simp only[a0C]at xg;have aO:m<l.length:=by omega
  generalize hlm:l[m]=c at *;obtain⟨op,xn,ia,ib⟩:=c;simp only at t0 t1 t2 t3 xg hgm;clear hb hlm;have HZ:Z_ (∀u:World,NB u (w.heap.size+1) ((N.set m (-1)).set m uR)->NB u (w.heap.size+1) (N.set m uR)):=λu hu=>by rw[List.set_set]at hu;exact hu
  have HN2:Z_ ((N.set m (uR:Int)).length=l.length):=by show _=_;simp[rU]
  have HNW:=aj (HZ.o _ ((Ad.o.set m (-1)).set m uR));have YA:=aj ((wW.o.aB (aax.o wr m (.int .i64 (-1))) (by simp)).aB (aax.o _ m (.int .i64 (uR:Nat))) (by simp));have FW:=aj ((F.o.over (aax.o wr m (.int .i64 (-1))) (by simp)).over (aax.o _ m (.int .i64 (uR:Nat))) (by simp));clear HZ;rcases hgm with rfl|⟨rfl,ha⟩|⟨rfl,ha,hb⟩
  ·have yQ:Z_ (qU l m Rl (N.set m uR) (uR+1)=numsOf l first):=xg.symm.trans HV
   clear xg HV;go_wp2;go_roundg m
   case measure=>omega
   case rel=>exact⟨m,uR+1,_,Rl,N.set m uR,by omega,rfl,rfl,by omega,by go_num,by omega,PK,HN2,yQ,FW.o.alloc _,YA.o.aB ((aA.refl [] _).alloc _) (by simp),HNW.o.aB ((aA.refl [] _).alloc _) (by simp)⟩
  ·have yQ:Z_ (qU l m (Rl.set ia true) (N.set m uR) (uR+1)=numsOf l first):=xg.symm.trans HV
   have ra:=wW.o.cell ia (by omega);have hda:decide ((ia:Int)<(l.length:Int))=true:=a0h (by omega);generalize Rl[ia]=rba at *;clear xg HV;go_wp2;go_roundg m
   case measure=>omega
   case rel=>exact⟨m,uR+1,_,Rl.set ia true,N.set m uR,by omega,rfl,rfl,by omega,by go_num,by omega,by show _=_;simp[KQ],HN2,yQ,(FW.o.over (J6.o _ _ _) (by simp)).alloc _,(YA.o.set ia true).aB ((aA.refl [] _).alloc _) (by simp),(HNW.o.aB (J6.o _ _ _) (by simp)).aB ((aA.refl [] _).alloc _) (by simp)⟩
  have yQ:Z_ (qU l m ((Rl.set ia true).set ib true) (N.set m uR) (uR+1)=numsOf l first):=xg.symm.trans HV;have ra:=wW.o.cell ia (by omega);have rb:=wW.o.cell ib (by omega);have hda:decide ((ia:Int)<(l.length:Int))=true:=a0h (by omega);have hdb:decide ((ib:Int)<(l.length:Int))=true:=a0h (by omega);generalize Rl[ia]=rba at *;generalize Rl[ib]=rbb at *;clear xg HV
  by_cases qZ:ia=ib
  ·subst qZ
   clear rb hdb hb;go_wp2;go_roundg m
   case measure=>omega
   case rel=>exact⟨m,uR+1,_,(Rl.set ia true).set ia true,N.set m uR,by omega,rfl,rfl,by omega,by go_num,by omega,by show _=_;simp[KQ],HN2,yQ,((FW.o.over (J6.o _ _ _) (by simp)).over (J6.o _ _ _) (by simp)).alloc _,((YA.o.set ia true).set ia true).aB ((aA.refl [] _).alloc _) (by simp),((HNW.o.aB (J6.o _ _ _) (by simp)).aB (J6.o _ _ _) (by simp)).aB ((aA.refl [] _).alloc _) (by simp)⟩
  have hba:ib≠ia:=λe=>qZ e.symm
  go_wp2;go_roundg m
  case measure=>omega
  case rel=>exact⟨m,uR+1,_,(Rl.set ia true).set ib true,N.set m uR,by omega,rfl,rfl,by omega,by go_num,by omega,by show _=_;simp[KQ],HN2,yQ,((FW.o.over (J6.o _ _ _) (by simp)).over (J6.o _ _ _) (by simp)).alloc _,((YA.o.set ia true).set ib true).aB ((aA.refl [] _).alloc _) (by simp),((HNW.o.aB (J6.o _ _ _) (by simp)).aB (J6.o _ _ _) (by simp)).aB ((aA.refl [] _).alloc _) (by simp)⟩
theorem afu {N:List Int} {m:Nat}(hm:m<l.length)(hn:m<N.length)(out:List gD):rH l N (m+1) out=if N[m]<0 then rH l N m out else rH l N m (out++[Qh N l[m]]):=by
 rw[rH,a0c hm];simp[List.getD,hn]
theorem Qp(w:World)(o:Obj)(c:gD)(j:Nat)(u:Value)(hu:(kT c).toList[j]?=some u):((w.alloc o).alloc (Obj.cells (kT c) 105)).cell? ⟨w.heap.size+1,j,none⟩=some u:=by
 have h:=NZ w o (Obj.cells (kT c) 105);unfold World.cell?;simp only[h];simpa[kT] using hu
theorem adY(w:World)(v:Value)(A:LN)(l:List gD)(h:RW A 4 w v (vY l))(iD:GL l)(first:Nat)(hf:first < l.length)(hl:l.length<=900000000) :
 Calls Tryz.prog 33 #[v,.int .i64 first] w λe w'=>∃v',e=.returned v'/\aA [] w w'/\OW 105 4 w.heap.size w' v' (vY (Bz l first)):=by
 have N1:=aj (XU w v A l h iD first hf hl);obtain⟨a,cap,rfl,r⟩:=h.ins;have R:=aj r;have GLH:=aj iD;have rU:=adN l first
 have HSP:=aj (abC iD first);have HT:Z_ (Bz l first=rH l (numsOf l first) (first + 1) []):=rfl;generalize numsOf l first=N at *
 clear h r iD;go_enter Tryz.func33,Tryz.ntmps33
 go_wp2_with fail
 refine(N1.o).mono ?_;clear N1;rintro e w1 ⟨gn,rfl,rC,hgn,hNB⟩;have F1:=aj rC;have Ad:=aj hNB;have fT:=rC.size;have aro:=hNB.lt;clear rC hNB;go_wp2_with fail
 go_loopg [6,7] (first + 1) (λk v6 v7 wr=>∃(j:Nat) (x:Int) (out:List gD),j<=first + 1/\k=j/\v7=.int .i64 x/\x=(j:Int)-1/\out.length+j<=first + 1/\Z_ (rH l N j out=Bz l first)/\aA [] w1 wr/\OW 105 4 w1.heap.size wr v6 (vY out))
 case atStart=>exact⟨first + 1,_,[],a0a _,rfl,rfl,by omega,by simp,HT.o.symm,(aA.refl _ _).alloc _,OW.empty _ _ _ _ (a0a _)⟩
 case round =>
  obtain⟨j,x,out,hj,rfl,rfl,hx,hoj,HV,hF,hO⟩:=hrel;obtain⟨ao,co,he⟩:=hO.shape;rw[zR]at he;subst he;have F:=aj hF;have O:=aj hO;have hzr:=hF.size;have jv:Z_ ((vY out).length=out.length):=zR out;rcases gk with _|m
  ·obtain rfl:x=-1:=by omega
   have yQ:Z_ (out=Bz l first):=HV.o;clear hx hF hO HV;go_wp2;go_ret;refine⟨_,rfl,F1.o.trans F,?_⟩;rw[<-yQ.o];exact O.o.base fT
  obtain rfl:x=(m:Int):=by omega
  clear hx;have Bp:m<l.length:=by omega
  have HNr:=aj (Ad.o.aB hF (by simp));have n0:=HNr.o.cell m (by omega);have hmm:decide ((m:Int)<(l.length:Int))=true:=a0h (by omega);have dM:=afu (N:=N) Bp (by omega) out;obtain⟨gl,ol,rfl,iD,q0,q1,q2,q3⟩:=R.o m Bp;have FF:=F1.o.trans hF;have t0:=(FF.cell (p:=⟨gl,ol+m*4,none⟩) iD (by simp)).trans q0;have t1:=(FF.cell (p:=⟨gl,ol+m*4+1,none⟩) iD (by simp)).trans q1;have t2:=(FF.cell (p:=⟨gl,ol+m*4+2,none⟩) iD (by simp)).trans q2;have t3:=(FF.cell (p:=⟨gl,ol+m*4+3,none⟩) iD (by simp)).trans q3;have arp:gn<wr.heap.size:=by omega
  have arq:gl<wr.heap.size:=by omega
  have hgm:=GLH.o m Bp;have xX:=HSP.o m l[m] (a0c Bp);rw[show N.getD m 0=N[m] by simp[List.getD,show m<N.length by omega]]at xX;clear q0 q1 q2 q3 FF hF hO
  by_cases zJ:N[m]<0
  ·rw[a0j zJ]at dM
   have yQ:Z_ (rH l N m out=Bz l first):=dM.symm.trans HV;have GA:decide (N[m]<0)=true:=a0h zJ;generalize N[m]=nm at *;clear dM HV hgm xX t0 t1 t2 t3;go_wp2;go_roundg m
   case measure=>omega
   case rel=>exact⟨m,_,out,by omega,rfl,rfl,by omega,by omega,yQ,F,O⟩
  rw[a0g zJ]at dM;have GA:decide (N[m]<0)=false:=a0f zJ;have RH:=xX (by omega);generalize TS:N[m]=nm at *;have hlm:∃c,l[m]=c:=⟨_,rfl⟩;obtain⟨c,hlm⟩:=hlm;rw[hlm]at t0 t1 t2 t3 dM hgm RH;obtain⟨op,xn,ia,ib⟩:=c;simp only at t0 t1 t2 t3 hgm RH;clear xX hlm TS;rcases hgm with rfl|⟨rfl,ha⟩|⟨rfl,ha,hb⟩
  ·have yQ:Z_ (rH l N m (out++[⟨0,xn,ia,ib⟩])=Bz l first):=dM.symm.trans HV
   clear dM HV RH;go_wp2_with (at_builtin;refine og _ rfl _ _ 44 105 _ 4 32 NY Tryz.underlying44 rfl (by omega) rfl w1.heap.size (.slice ao out.length co) (vY out) (wr.heap.size+1) (kT ⟨0,xn,ia,ib⟩).toList rfl (O.o.aB (S:=[]) (((aA.refl [] _).alloc _).alloc _) (by simp)) rfl rfl (Qp _ _ ⟨0,xn,ia,ib⟩) (by intro u hu;simp[kT]at hu;rcases hu with rfl|rfl|rfl|rfl<;>rfl) (by rw[jv.o];omega) (by rw[jv.o];omega) (by simp;omega) ?_;intro gg aP w4 bF aG aX zx;rw[jv.o,I9]at bF;rw[jv.o];have O4:=aj bF;have G4:=aj aG;clear bF aG aX)
   go_roundg m
   case measure=>omega
   case rel=>exact⟨m,_,_,by omega,rfl,rfl,by omega,by simp;omega,yQ,((F.o.alloc _).alloc _).grown G4.o (λr hr=>.inr (O.o.lt hr).1),O4⟩
  ·obtain⟨na,zy⟩:=Int.eq_ofNat_of_zero_le (RH.1 (by omega))
   have n1:=HNr.o.cell ia (by omega);rw[show N[ia]'(by omega)=(na:Int) by rw[<-zy];simp[List.getD,show ia<N.length by omega]]at n1;have hda:decide ((ia:Int)<(l.length:Int))=true:=a0h (by omega);have yQ:Z_ (rH l N m (out++[⟨1,xn,na,ib⟩])=Bz l first):=by
    have e:Qh N ⟨1,xn,ia,ib⟩=⟨1,xn,na,ib⟩:=by simp only[Qh,zy];simp
    rw[e]at dM;exact dM.symm.trans HV
   clear dM HV RH zy;go_wp2_with (at_builtin;refine og _ rfl _ _ 44 105 _ 4 32 NY Tryz.underlying44 rfl (by omega) rfl w1.heap.size (.slice ao out.length co) (vY out) (wr.heap.size+1) (kT ⟨1,xn,na,ib⟩).toList rfl (O.o.aB (S:=[]) (((aA.refl [] _).alloc _).alloc _) (by simp)) rfl rfl (Qp _ _ ⟨1,xn,na,ib⟩) (by intro u hu;simp[kT]at hu;rcases hu with rfl|rfl|rfl|rfl<;>rfl) (by rw[jv.o];omega) (by rw[jv.o];omega) (by simp;omega) ?_;intro gg aP w4 bF aG aX zx;rw[jv.o,I9]at bF;rw[jv.o];have O4:=aj bF;have G4:=aj aG;clear bF aG aX)
   go_roundg m
   case measure=>omega
   case rel=>exact⟨m,_,_,by omega,rfl,rfl,by omega,by simp;omega,yQ,((F.o.alloc _).alloc _).grown G4.o (λr hr=>.inr (O.o.lt hr).1),O4⟩
  obtain⟨na,zy⟩:=Int.eq_ofNat_of_zero_le (RH.1 (by omega));obtain⟨nb,Tf⟩:=Int.eq_ofNat_of_zero_le (RH.2 rfl);have n1:=HNr.o.cell ia (by omega);rw[show N[ia]'(by omega)=(na:Int) by rw[<-zy];simp[List.getD,show ia<N.length by omega]]at n1;have n2:=HNr.o.cell ib (by omega);rw[show N[ib]'(by omega)=(nb:Int) by rw[<-Tf];simp[List.getD,show ib<N.length by omega]]at n2;have hda:decide ((ia:Int)<(l.length:Int))=true:=a0h (by omega);have hdb:decide ((ib:Int)<(l.length:Int))=true:=a0h (by omega);have yQ:Z_ (rH l N m (out++[⟨2,xn,na,nb⟩])=Bz l first):=by
   have e:Qh N ⟨2,xn,ia,ib⟩=⟨2,xn,na,nb⟩:=by simp only[Qh,zy,Tf];simp
   rw[e]at dM;exact dM.symm.trans HV
  clear dM HV RH zy Tf;go_wp2_with (at_builtin;refine og _ rfl _ _ 44 105 _ 4 32 NY Tryz.underlying44 rfl (by omega) rfl w1.heap.size (.slice ao out.length co) (vY out) (wr.heap.size+1) (kT ⟨2,xn,na,nb⟩).toList rfl (O.o.aB (S:=[]) (((aA.refl [] _).alloc _).alloc _) (by simp)) rfl rfl (Qp _ _ ⟨2,xn,na,nb⟩) (by intro u hu;simp[kT]at hu;rcases hu with rfl|rfl|rfl|rfl<;>rfl) (by rw[jv.o];omega) (by rw[jv.o];omega) (by simp;omega) ?_;intro gg aP w4 bF aG aX zx;rw[jv.o,I9]at bF;rw[jv.o];have O4:=aj bF;have G4:=aj aG;clear bF aG aX)
  go_roundg m
  case measure=>omega
  case rel=>exact⟨m,_,_,by omega,rfl,rfl,by omega,by simp;omega,yQ,((F.o.alloc _).alloc _).grown G4.o (λr hr=>.inr (O.o.lt hr).1),O4⟩
theorem al5:GL [⟨0,0,0,0⟩]:=by
 intro i hi;simp at hi;subst hi;exact .inl rfl
theorem adZ {q:List (List (Nat × Bool))}:GL (lD C q 6 0 0 [⟨0,0,0,0⟩]).2/\(lD C q 6 0 0 [⟨0,0,0,0⟩]).1<(lD C q 6 0 0 [⟨0,0,0,0⟩]).2.length :=
 let h:=XJ C q 6 0 0 [⟨0,0,0,0⟩] al5 (by simp)
 ⟨h.1,h.2.1⟩
theorem Oj(w0:World)(kb:Nat)(w:World)(V:V6)(rt xx vq:Value)(C:List CR)(q:List (List (Nat × Bool)))(hc:LC w0 kb rt vq C q)(h:LY w0 kb w V ⟨rt,xx,vq,.slice none 0 0⟩ [])(bL:0<C.length) :
 Calls Tryz.prog 17 #[.pointer (some ⟨kb,0,none⟩)] w λe w'=>∃v v',e=.returned v/\KR w' kb V ⟨rt,xx,vq,v'⟩/\aA [kb] w0 w'/\aA [kb] w w'/\OW 105 4 w.heap.size w' v (vY (LJ C q)):=by
 have HC:=aj hc;obtain⟨art,rT,ert,_⟩:=hc.Cr.co;subst ert;have r6:=h.row.c 6;simp at r6;have yx:=hc.cl;have BF:((C.length:Int)==0)=false:=by rw[a0k];omega
 have apN:decide ((C.length:Int)=0)=false:=a0f (by omega);have N1:=aj (Od w0 kb w V _ [] h ⟨0,0,0,0⟩ (by simp));simp only[kT]at N1;have HQ:Z_ (LJ C q=Bz (lD C q 6 0 0 [⟨0,0,0,0⟩]).2 (lD C q 6 0 0 [⟨0,0,0,0⟩]).1):=by
  show _=_;unfold LJ;rw[a0g (by simp;intro e;rw[e]at bL;simp at bL)]
 have HG:=aj (adZ (C:=C) (q:=q));have HBD:=aj (Di hc.cl hc.qb 6 0 0 [⟨0,0,0,0⟩]);clear h hc;go_enter Tryz.func17,Tryz.ntmps17
 go_wp2_with fail
 refine(N1.o).mono ?_;clear N1;rintro e w1 ⟨rfl,v1,hL1,ana⟩;have N2:=aj (J5 w0 kb V _ xx vq C q HC.o 6 0 0 w1 v1 [⟨0,0,0,0⟩] hL1 bL (by omega) (by simp[bnd]));have LF1:=aj ana;clear hL1 ana;generalize lD C q 6 0 0 [⟨0,0,0,0⟩]=X at *;obtain⟨first,l2⟩:=X;go_wp2_with fail
 refine(N2.o).mono ?_;clear N2;rintro e w2 ⟨rfl,v2,XM,Ry⟩;obtain⟨a2,c2,he⟩:=XM.o.shape;rw[zR]at he;simp only at he;subst he;have rD:=HBD.o;simp[bnd]at rD;have N3:=aj (adY w2 _ [] l2 (XM.o.rw (by simp)) HG.o.1 first HG.o.2 (by omega));have r9:=XM.row.c 9;simp at r9;have L2:=aj XM;have FW:Z_ (aA [kb] w w2):=(LF1.o.trans Ry).f;clear XM Ry;go_wp2_with fail
 refine(N3.o).mono ?_;clear N3;rintro e w3 ⟨v3,rfl,Df,hO3⟩;obtain⟨a3,c3,he3⟩:=hO3.shape;subst he3;have F3:=aj Df;have O3:=aj hO3;clear Df hO3;go_wp2;go_ret;rw[HQ.o];exact⟨_,_,rfl,L2.o.row.aB F3.o (by simp),L2.o.fr.over F3.o (by simp),FW.o.over F3.o (by simp),O3.o.base FW.o.size⟩
end Go.Proofs.YtgbdcmpmmkfbhaaGreat
