import Derived.Test.YtgbdcmpmmkfbhaaGreatJ7
import Derived.Test.YtgbdcmpmmkfbhaaGreatJ5
import Derived.Test.YtgbdcmpmmkfbhaaGreatJ1
set_option linter.unusedVariables false
set_option linter.unusedSimpArgs false
set_option linter.unnecessarySimpa false
set_option maxRecDepth 100000
set_option maxHeartbeats 8000000
namespace Go.Proofs.YtgbdcmpmmkfbhaaGreat
variable {X a x y:NF} {N b i ib j k n p q t u:Nat} {w w':World} {B L:List Bool} {l:List NF} {v v5 v9:Value} {ps:LN} {hi:Option Nat} {α:Type}
open Go.RowKit
/-! One of two: what is reckoned. -/
def jD:NF->List NF
 | .sum l=>l
 | x=>[x]
def jI(st:Nat × List NF):NF->Nat × List NF
 | .zero=>st
 | .set s=>(st.1 ||| s,st.2)
 | x=>(st.1,put st.2 x)
theorem QW:∀(l:List NF) (st:Nat × List NF),l.foldl jI st=(st.1 ||| aY l,((l.filter λx=>match x with | .zero=>false|x=>!di x).foldl put st.2))
 | [],st=>by simp[aY]
 | x::r,st=>by
   rw[a1M,QW r,qG];cases x<;>simp[jI,bits,di,Nat.or_assoc]
theorem ai6{b:NF}(ha:wf a)(hb:wf b):(jD a++jD b).foldl jI (0,[])=(aY (parts a++parts b),((parts a++parts b).filter λx=>!di x).foldl put []):=by
 have key:∀x:NF,wf x->(jD x).filter (λx=>match x with | .zero=>false|x=>!di x)=(parts x).filter (λx=>!di x)/\aY (jD x)=aY (parts x):=by
  intro x hx;cases x with
  | sum l =>
    refine⟨?_,rfl⟩;simp only[jD,parts];apply List.filter_congr;intro y hy;have:=hx.2 y hy;cases y<;>simp[ik]at this<;>rfl
  | zero=>exact⟨rfl,rfl⟩
  | one=>exact⟨rfl,rfl⟩
  | set s=>exact⟨rfl,rfl⟩
  | pair x y=>exact⟨rfl,rfl⟩
  | star x=>exact⟨rfl,rfl⟩
 rw[QW,List.filter_append,(key a ha).1,(key b hb).1,xm,(key a ha).2,(key b hb).2,<-xm,<-List.filter_append];simp
def Zt(st:Nat × List NF):List NF:=if st.1=0 then st.2 else put st.2 (.set st.1)
theorem alo{b:NF}(ha:wf a)(hb:wf b):dZ a b=mkS (Zt ((jD a++jD b).foldl jI (0,[]))):=by
 rw[ai6 ha hb];unfold dZ bI Zt fU bG;simp only[a0Z,a2h,a0Q]
 split
 ·simp
 rw[List.foldl_append];rfl
theorem QY(x:NF):(jD x).length<=np x+1:=by
 cases x<;>simp[jD,np,parts]
theorem VK:∀(l:List NF) (st:Nat × List NF),(l.foldl jI st).2.length<=st.2.length+l.length
 | [],st=>by simp
 | x::r,st=>by
   have h:=VK r (jI st x);have h2:(jI st x).2.length<=st.2.length+1:=by
    have ai7:∀(l:List NF) (x:NF),(put l x).length<=l.length+1:=by
     intro l
     induction l with
     | nil=>intro x;simp[put]
     | cons y r ih =>
       intro x;simp only[put]
       split
       ·have:=ih x;simp only[a0o];omega
       split<;>simp
    cases x<;>simp[jI]<;>exact ai7 _ _
   simp only[a1M,a0o];omega
theorem Zu:∀(l:List NF) (st:Nat × List NF),(∀x∈l,wf x)->st.1<2 ^ 256->(l.foldl jI st).1<2 ^ 256
 | [],st,_,h=>h
 | x::r,st,hw,h=>by
   rw[a1M];refine Zu r _ (λy hy=>hw y (by simp[hy])) ?_;cases x with
   | set s=>exact Nat.or_lt_two_pow h (hw (.set s) (by simp)).2
   | _=>exact h
/-! apY that is kept where a set is written. -/
structure KT(w w':World):Prop where
 tm:∀(k:Nat) (cur:Array Value) (fz:Nat × Nat),w.heap[k]?=some (Obj.cells cur 145 fz)->w'.heap[k]?=w.heap[k]?
 pt:∀(g j:Nat) (q:Addr),w.cell? ⟨g,j,none⟩=some (.pointer (some q))->w'.cell? ⟨g,j,none⟩=some (.pointer (some q))
theorem KT.aB(f:aA [] w w'):KT w w' :=
 ⟨λk cur fz h=>f.block k (a0d.1 h).1 (by simp),λg j q h=>(f.cell (p:=⟨g,j,none⟩) (dL h) (by simp)).trans h⟩
theorem TK.kt {a b l:Value} {nm:LB}(h:TK w p k L a b l nm)(f:KT w w'):TK w' p k L a b l nm:=⟨(f.tm p _ _ h.1).trans h.1,h.2⟩
theorem RVq.kt(h:RVq w v (ps.map aK))(f:KT w w'):RVq w' v (ps.map aK):=by
 obtain⟨h0,a,n,cap,h1,h2,h3,qZ,h4⟩:=h;refine⟨h0,a,n,cap,h1,h2,h3,qZ,λj u hj=>?_⟩;obtain⟨g,h5,h6⟩:=h4 j u hj;obtain⟨m,_,rfl⟩:=a0s.1 (a0M hj);exact⟨g,h5,f.pt g j _ h6⟩
mutual
theorem TN.kt(f:KT w w'):∀{p:Nat} {x:NF},TN w p x->TN w' p x
 | p,.zero,h=>by simp only[TN]at h |-;exact h.kt f
 | p,.one,h=>by simp only[TN]at h |-;exact h.kt f
 | p,.set s,h=>by simp only[TN]at h |-;exact h.kt f
 | p,.pair x y,h=>by
   simp only[TN]at h |-;obtain⟨a,b,h1,h2,h3⟩:=h;exact⟨a,b,h1.kt f,TN.kt f h2,TN.kt f h3⟩
 | p,.sum l,h=>by
   simp only[TN]at h |-;obtain⟨v,ps,h1,h2,h3⟩:=h;exact⟨v,ps,h1.kt f,h2.kt f,iQ.kt f h3⟩
 | p,.star x,h=>by
   simp only[TN]at h |-;obtain⟨a,h1,h2⟩:=h;exact⟨a,h1.kt f,TN.kt f h2⟩
theorem iQ.kt(f:KT w w'):∀{ps:LN} {l:List NF},iQ w ps l->iQ w' ps l
 | [],[],_=>by simp only[iQ]
 | p::ps,x::l,h=>by
   simp only[iQ]at h |-;exact⟨TN.kt f h.1,iQ.kt f h.2⟩
 | [],_::_,h=>by simp only[iQ]at h
 | _::_,[],h=>by simp only[iQ]at h
end
theorem TV.kt(h:TV w v l)(f:KT w w'):TV w' v l:=by
 obtain⟨ps,h1,h2⟩:=h;exact⟨ps,h1.kt f,h2.kt f⟩
def IB(w:World)(b:Nat)(L:List Bool):Prop:=w.heap[b]?=some (.cells (L.map Value.bool).toArray 137 (0,0))/\L.length=256
theorem IB.lt(h:IB w b L):b<w.heap.size:=(a0d.1 h.1).1
theorem IB.aB {S:LN}(h:IB w b L)(f:aA S w w')(hS:b∉S):IB w' b L:=⟨(f.block b h.lt hS).trans h.1,h.2⟩
theorem IB.cell(h:IB w b L)(c:Nat)(x:Bool)(hc:L[c]?=some x):w.cell? ⟨b,c,none⟩=some (.bool x):=by
 simp only[World.cell?,h.1];simp[hc]
theorem IB.fz(h:IB w b L)(o:Nat):w.frozen? ⟨b,o,none⟩=false:=by simp[World.frozen?,h.1]
theorem IB.set(h:IB w b L)(c:Nat)(x:Bool):IB (w.setCell ⟨b,c,none⟩ (.bool x)) b (L.set c x):=by
 refine⟨?_,by rw[a3k];exact h.2⟩;have h1:=h.1;simp only[World.setCell,a0t,h1,a0C,a1x];have:(L.map Value.bool).toArray.setIfInBounds c (.bool x)=((L.set c x).map Value.bool).toArray:=by
  apply Array.ext';simp[a2n]
 simp[this]
theorem IB.kt(h:IB w b L)(c:Nat)(x:Bool):KT w (w.setCell ⟨b,c,none⟩ (.bool x)):=by
 have far:∀k,k≠b->(w.setCell ⟨b,c,none⟩ (.bool x)).heap[k]?=w.heap[k]?:=by
  intro k hk;simp only[World.setCell,a0t];rw[a0g (λe=>hk e.symm)]
 refine⟨λk cur fz hk=>far k ?_,λg j q hg=>?_⟩
 ·rintro rfl
  rw[h.1]at hk;simp at hk
 have bL:g≠b:=by
  rintro rfl;unfold World.cell? at hg;simp only[h.1]at hg;simp only[List.getElem?_toArray,a1d]at hg;cases hL:L[j]? with
  | none=>rw[hL]at hg;simp at hg
  | some y=>rw[hL]at hg;simp at hg
 have:=far g bL;unfold World.cell? at hg |-;simp only[this];exact hg
theorem anz:Tryz.zeroCells137=(nF.map Value.bool).toArray:=by kernel_rfl
def VL(s t c:Nat):List Bool:=(List.range 256).map λi=>if i<c then s.testBit i||t.testBit i else s.testBit i
theorem ag5(s t:Nat):VL s t 0=bl s:=by simp[VL,bl]
theorem ai8(s t:Nat):VL s t 256=bl (s ||| t):=by
 unfold VL bl;apply a2d;intro i hi;have:=a1Z.1 hi;simp[this,a2y]
theorem ai9(s t c i:Nat)(h:i<256):(VL s t c)[i]?=some (if i<c then s.testBit i||t.testBit i else s.testBit i):=by simp[VL,h]
theorem aja(s t c:Nat)(h:c<256):(VL s t c).set c (s.testBit c||t.testBit c)=VL s t (c+1):=by
 apply List.ext_getElem (by simp[VL]);intro i h1 h2;simp only[VL,List.getElem_set,List.getElem_map,List.getElem_range]
 by_cases e:c=i
 ·subst e;simp
 rw[a0g e]
 by_cases aO:i<c
 ·rw[a0j aO,a0j (by omega)]
 rw[a0g aO,a0g (by omega)]
theorem ajb(hw:wf (.sum l))(hc:can (.sum l)):2<=l.length:=by
 have hT:mkS (fU (bG ([NF.sum l].flatMap parts)))=.sum l:=hc.2;simp only[a0Z,a2h,a0Q,parts]at hT;generalize hL:fU (bG l)=L at hT
 match L,hT with
 | [],hT=>simp[mkS]at hT
 | [z],hT =>
   have hz:z∈fU (bG l):=by rw[hL];simp
   have UC:z=.sum l:=hT;rcases uu (jR hz) with h|h
   ·rw[UC]at h;simp[di]at h
   have:=hw.2 z h;rw[UC]at this;simp[ik]at this
 | a::b::r,hT=>simp only[mkS,NF.sum.injEq]at hT;rw[<-hT];simp
def take2(a b:NF):Nat->List NF
 | 0=>[]
 | 1=>jD a
 | _=>jD a++jD b
theorem aoG(av:Option Addr)(n cap:Nat)(s:ByteArray):((Tryz.zeroCells145.setIfInBounds 0 (.int .u8 97)).setIfInBounds 259 (.slice av n cap)).setIfInBounds 260 (.string s)=FJ 97 nF qg qg (.slice av n cap) s.data.toList:=by
 cases s;kernel_rfl
theorem Lc:∀(a b:List NF),dI (a++b)=dI a++dI b
 | [],b=>by simp[dI]
 | x::a,b=>by simp only[a0J,dI,Lc a b,a0K,a0J]
theorem acD {E:List NF}(h:E[j]?=some y):dI (E.take (j+1))=dI (E.take j)++name y++[124]:=by
 rw[a1n,h,Lc];simp[dI]
theorem Zv {E:List NF}:(dI (E.take j)).length<=(dI E).length:=by
 have h:dI E=dI (E.take j)++dI (E.drop j):=by rw[<-Lc,a1I]
 rw[h,a0v];omega
theorem ag6(t:Nat):(t=0/\Pm t=.zero)\/(t≠0/\Pm t=.set t):=by
 unfold Pm
 by_cases h:t=0
 ·exact .inl ⟨h,a0j h⟩
 exact .inr ⟨h,a0g h⟩
theorem alp(h:∀l,x≠.sum l):(((jm x:Nat):Int)==97)=false/\jD x=[x]:=by
 cases x with
 | sum l=>exact absurd rfl (h l)
 | _=>exact⟨by simp[jm],rfl⟩
structure Or2(w:World)(L:List NF)(ps:LN)(ib:Nat)(v5:Value)(wr:World)(v9:Value)(i:Nat)(B:List Bool):Prop where
 oot:TV wr v9 ((L.take i).foldl jI (0,[])).2
 VM:IB wr ib B
 row:OV 141 (w.heap.size+1) wr v5 (ps.map aK)
 fr:aA [] w wr
theorem Or2.go{wr:World} {L:List NF}(h:Or2 w L ps ib v5 wr v9 i B)(f:aA [] wr w'):Or2 w L ps ib v5 w' v9 i B :=
 ⟨h.oot.aB f,h.VM.aB f (by simp),h.row.aB f (by simp),h.fr.trans f⟩
theorem Or2.set{wr:World} {L:List NF}(h:Or2 w L ps ib v5 wr v9 i B)(hi:w.heap.size<=ib)(c:Nat)(x:Bool):Or2 w L ps ib v5 (wr.setCell ⟨ib,c,none⟩ (.bool x)) v9 i (B.set c x):=by
 refine⟨h.oot.kt (h.VM.kt c x),h.VM.set c x,?_,h.fr.setCell (.inr hi) _⟩;refine jb h.row ((aA.refl [ib] wr).setCell (p:=⟨ib,c,none⟩) (.inl (by simp)) (.bool x)) ?_;intro k hk;simp only[a0y]at hk;subst hk;exact .inr ⟨_,_,_,h.VM.1,by decide⟩
theorem aeH {L:List NF}(h:L[i]?=some x):(L.take (i+1)).foldl jI (0,[])=jI ((L.take i).foldl jI (0,[])) x:=by
 rw[a1n,h,List.foldl_append];rfl
theorem alq(h1:x≠.zero)(h2:∀s,x≠.set s):(((jm x:Nat):Int)==48)=false/\(((jm x:Nat):Int)==115)=false/\∀st,jI st x=(st.1,put st.2 x):=by
 cases x with
 | zero=>exact absurd rfl h1
 | set s=>exact absurd rfl (h2 s)
 | _=>exact⟨by simp[jm],by simp[jm],λ_=>rfl⟩
structure Or1(w:World)(a b:NF)(wr:World)(v5:Value)(i:Nat):Prop where
 row:∃ps,OV 141 (w.heap.size+1) wr v5 (ps.map aK)/\iQ w ps (take2 a b i)
 fr:aA [] w wr
theorem M5(a b:NF)(w:World)(pa pb:Nat)(ha:TN w pa a)(hb:TN w pb b)(wa:WC a)(wb:WC b)(hn:nl (dZ a b)<9223372036854775807)(hc:np (dZ a b)<=1000000000000) :
 Calls Tryz.prog 71 #[aK pa,aK pb] w (xI w (dZ a b)):=by
 have EH:∀x ∈ [a,b],wf x:=by simp;exact⟨wa.1,wb.1⟩
 have ca:np a<=1000000000000:=a0e (Ir EH (by simp) wa.2) hc;have cb:np b<=1000000000000:=a0e (Ir EH (by simp) wb.2) hc;have la:=QY a;have lb:=QY b;have A:=aj ha;have B:=aj hb;have WA:=aj wa;have WB:=aj wb;have HE:=aj (alo wa.1 wb.1);have HN:=aj hn;clear ha hb wa wb EH hn hc;unfold aK;go_enter Tryz.func71,Tryz.ntmps71
 go_wp2_with fail
 have FA:Z_ (aA [] w (w.alloc (Obj.cells #[.pointer (some ⟨pa,0,none⟩),.pointer (some ⟨pb,0,none⟩)] 141))):=(aA.refl _ _).alloc _;have HA0:Z_ ((w.alloc (Obj.cells #[.pointer (some ⟨pa,0,none⟩),.pointer (some ⟨pb,0,none⟩)] 141)).heap[w.heap.size]?=some (.cells #[.pointer (some ⟨pa,0,none⟩),.pointer (some ⟨pb,0,none⟩)] 141 (0,0))):=bK _ _;go_loopg [5,7] 2 (λk v5 v7 wr=>∃(i:Nat),i+k=2/\v7=.int .i64 i/\Or1 w a b wr v5 i/\wr.heap[w.heap.size]?=some (.cells #[.pointer (some ⟨pa,0,none⟩),.pointer (some ⟨pb,0,none⟩)] 141 (0,0)))
 case atStart=>exact⟨0,rfl,rfl,⟨⟨[],OV.nil _ _ _,by simp[take2,iQ]⟩,FA⟩,HA0⟩
 case round =>
  clear FA HA0;obtain⟨i,hik,rfl,hO,hH⟩:=hrel;obtain⟨⟨ps,hov,hts⟩,bU⟩:=hO;have zr2:w.heap.size+1<=wr.heap.size:=(a0d.1 hH).1;have O:=aj hov;have T:=aj hts;have F:=aj bU;have HH:=aj hH;have zr:=bU.size;obtain⟨a5,n5,c5,rfl,VN⟩:=hov.open;rw[a0B]at VN;have hlen:=hts.len;clear hov hts bU hH
  by_cases hi:i<2
  ·obtain⟨x,px,hx,aV,Ym,wx,lx⟩:∃x px,TN w px x/\wr.cell? ⟨w.heap.size,i,none⟩=some (.pointer (some ⟨px,0,none⟩))/\take2 a b (i+1)=take2 a b i++jD x/\WC x/\(take2 a b i).length+(jD x).length<=2000000000002:=by
    rcases(by omega:i=0\/i=1) with rfl|rfl
    ·exact⟨a,pa,A,by simp[World.cell?,HH.o],by simp[take2],WA,by simp[take2];omega⟩
    exact⟨b,pb,B,by simp[World.cell?,HH.o],by simp[take2],WB,by simp only[take2];omega⟩
   have kx:=(hx.aB F).kd;have X:=aj hx;have HT:=aj Ym;have WX:=aj wx;have Av:=aj hlen;have VO:=aj VN;have hlz:n5<=2000000000002:=by omega
   clear hx Ym wx hlen VN
   by_cases acE:∃l,x=.sum l
   ·obtain⟨l,rfl⟩:=acE
    have h2:=ajb WX.o.1 WX.o.2;have hX:=X.o;simp only[TN]at hX;obtain⟨v,qs,hk,⟨Jo,av,n,cap,rfl,hnq,acu,qZ,za⟩,hqs⟩:=hX;obtain⟨_,_,OU,_⟩:=(hk.aB F.o (by simp)).ends;have Gb:=hqs.len;rw[a0B]at hnq;have rU:n=l.length:=hnq.trans Gb;subst rU;obtain⟨y,hy⟩:∃y,l[0]?=some y:=⟨l[0]'(by omega),a0c (by omega)⟩;obtain⟨q0,zW,_⟩:=hqs.get 0 y hy;obtain⟨g,rfl,_⟩:=za 0 (aK q0) (by rw[a1d,zW];rfl);have HC:Z_ (∀j u,(qs.map aK)[j]?=some u->wr.cell? ⟨g,0+j,none⟩=some u):=by
     intro j u hu;rw[a1v];obtain⟨g',e,h⟩:=za j u hu;simp at e;subst e;exact(F.o.cell (p:=⟨g,j,none⟩) (dL h) (by simp)).trans h
    have HQ:=aj hqs;have Hql:=aj Gb;have lx2:(take2 a b i).length+l.length<=2000000000002:=lx;have hl8:l.length<=2000000000002:=by omega
    have Hpg:Z_ (jD (.sum l)=l):=rfl;have anA:Z_ (ps.length+l.length<=2000000000002):=by show _<=_;have:=Av.o;omega
    clear hk za hqs Gb hnq zW hy qZ Jo lx;simp only[jm]at kx;have ajc:Z_ (∀k,(Value.slice a5 n5 c5).ownBlock=some k->k≠w.heap.size):=λk hk e=>by have:=O.o.base k hk;omega
    go_wp2_with (at_builtin;refine M3 _ rfl _ _ rfl (w.heap.size+1) (.slice a5 n5 c5) (ps.map aK) (qs.map aK) (n5+l.length) g 0 l.length cap (by rw[a0B];exact congrArg (·+l.length) VO) (by rw[a0B];exact Hql) rfl O.o rfl HC.o (Ga _) (by omega) (by rw[a0B];have:=anA.o;omega) zr2 ?_;intro g7 c7 w7 aQ aG;have O7:=aj aQ;have F7:=aj (F.o.grown aG (λk hk=>.inr (Nat.le_of_succ_le (O.o.base k hk))));have H7:=aj ((aG.block w.heap.size (by omega) (λe=>ajc.o _ e.symm rfl)).trans HH);clear aQ aG)
    go_roundg (gk-1)
    case measure=>omega
    case rel =>
     refine⟨i+1,by omega,by go_num,⟨⟨ps++qs,by rw[a0T];exact O7,?_⟩,F7⟩,H7⟩;rw[HT.o,Hpg.o];exact T.o.app HQ
   obtain⟨k97,hpg⟩:=alp (λl e=>acE ⟨l,e⟩);have k8:jm x<256:=by cases x<;>simp[jm]
   rw[hpg]at HT lx;clear hpg acE;generalize jm x=kdx at *;have ajc:Z_ (∀k,(Value.slice a5 n5 c5).ownBlock=some k->k≠w.heap.size):=λk hk e=>by have:=O.o.base k hk;omega
   go_wp2_with (at_builtin;refine Ak _ rfl _ _ 143 141 _ 8 Au Tryz.underlying143 rfl rfl (w.heap.size+1) (.slice a5 n5 c5) (ps.map aK) (n5+1) wr.heap.size (aK px) (by rw[a0B];exact congrArg (·+1) VO) rfl (O.o.aB (S:=[]) ((aA.refl [] _).alloc _) (by simp)) rfl (kK _ _ _ _ rfl) rfl (by rw[a0B,<-VO.o];omega) (by rw[a0B,<-VO.o];omega) (by simp;omega) ?_;intro g7 c7 w7 aQ aG aX iD;have O7:=aj aQ;have F7:=aj ((F.o.alloc _).grown aG (λk hk=>.inr (Nat.le_of_succ_le (O.o.base k hk))));have H7:=aj ((aG.block w.heap.size (by simp;omega) (λe=>ajc.o _ e.symm rfl)).trans ((((aA.refl [] wr).alloc _).block w.heap.size (by omega) (by simp)).trans HH));clear aQ aG aX iD)
   go_roundg (gk-1)
   case measure=>omega
   case rel =>
    refine⟨i+1,by omega,by go_num,⟨⟨ps++[px],by rw[a0T];exact O7,?_⟩,F7⟩,H7⟩;rw[HT.o];refine T.o.app ?_;simp only[iQ];exact⟨X,trivial⟩
  have Si:i=2:=by omega
  subst Si;have HL:Z_ (take2 a b 2=jD a++jD b):=rfl;rw[HL.o]at T hlen;obtain⟨L,hL⟩:∃L,jD a++jD b=L:=⟨_,rfl⟩;have hLl:L.length<=2000000000002:=by rw[<-hL,a0v];omega
  have hLw:∀x∈L,wf x:=by
   rw[<-hL];have key:∀y:NF,wf y->∀x∈jD y,wf x:=by
    intro y hy x hx;cases y with
    | sum l=>exact jQ.1 hy.1 x hx
    | _=>simp only[jD,a0y]at hx;rw[hx];exact hy
   intro x hx;rcases a0b.1 hx with h|h
   ·exact key a WA.o.1 x h
   exact key b WB.o.1 x h
  rw[hL]at T HE hlen;have hnL:n5=L.length:=VN.trans hlen;subst hnL;have HLw:=aj hLw;clear hL hLw HL HH hlen VN;go_wp2_with fail
  have zib:w.heap.size<=wr.heap.size:=zr;have Q0:Z_ (Or2 w L ps wr.heap.size (.slice a5 L.length c5) (wr.alloc (Obj.cells Tryz.zeroCells137 137)) yt 0 (bl 0)):=by
   refine⟨⟨[],⟨by simp,none,0,0,rfl,rfl,a0a _,.inl ⟨rfl,rfl⟩,λj u hj=>by simp at hj⟩,by simp[iQ]⟩,?_,O.o.aB ((aA.refl [] _).alloc _) (by simp),F.o.alloc _⟩;rw[anz,Mr];exact⟨bK _ _,oM⟩
  have hTl:=T.o.len;obtain⟨ib,hib⟩:∃ib,wr.heap.size=ib:=⟨_,rfl⟩;rw[hib]at Q0 zib |-;generalize wr.alloc (Obj.cells Tryz.zeroCells137 137)=wB at Q0 |-;clear O F zr zr2 hib;go_loopg [9,10] L.length (λk v9 v10 wq=>∃(i:Nat) (vo:Value),i+k=L.length/\v10=.int .i64 i/\v9=vo/\Or2 w L ps ib (.slice a5 L.length c5) wq vo i (bl ((L.take i).foldl jI (0,[])).1))
  case atStart=>exact⟨0,yt,by omega,rfl,rfl,Q0⟩
  case round =>
   clear Q0;obtain⟨i,vo,aoH,rfl,rfl,hQ⟩:=hrel;obtain⟨pso,⟨_,ao,no,co,rfl,hno,_⟩,rW⟩:=hQ.oot;have Hno:Z_ (no=((L.take i).foldl jI (0,[])).2.length):=by show _=_;rw[hno,a0B];exact rW.len
   have Q:=aj hQ;have zq:=hQ.fr.size;have Zx:((L.take i).foldl jI (0,[])).2.length<=10000000000000:=a0e (VK (L.take i) (0,[])) (by simp;omega);clear hQ hno rW;obtain⟨wo,Pn⟩:∃wo,wo=wr:=⟨_,rfl⟩;subst Pn;obtain⟨go,gP⟩:∃go,go=gk:=⟨_,rfl⟩;subst gP
   by_cases hi3:i<L.length
   ·obtain⟨x,hx⟩:∃x,L[i]?=some x:=⟨L[i],a0c hi3⟩
    obtain⟨q,hq,DK⟩:=T.o.get i x hx;obtain⟨g,rfl,_,_,aV⟩:=Q.o.row.cell (j:=i) (u:=aK q) (by rw[a1d,hq];rfl);have ajd:=DK.aB Q.o.fr;have kx:=ajd.kd;have HX:=aj ajd;have HS:=aj (aeH hx);have hxw:=HLw.o x (a0M hx);unfold aK at aV;have HXc:=aj aV;have Hpq:Z_ ((ps.map aK)[i]?=some (aK q)):=by show _=_;rw[a1d,hq];rfl
    clear hq DK ajd hx
    by_cases hz:x=.zero
    ·subst hz
     simp only[jm]at kx;have VP:Z_ ((L.take (i+1)).foldl jI (0,[])=(L.take i).foldl jI (0,[])):=HS.o;go_wp2;go_roundg (go-1)
     case measure=>omega
     case rel =>
      refine⟨i+1,_,by omega,by go_num,rfl,?_⟩;have:=Q.o;refine⟨?_,?_,this.row,this.fr⟩
      ·rw[VP.o];exact this.oot
      rw[VP.o];exact this.VM
    by_cases aje:∃s,x=.set s
    ·obtain⟨s,rfl⟩:=aje
     simp only[jm]at kx;have hs8:s<2 ^ 256:=hxw.2;obtain⟨t0,ht0⟩:∃t0,((L.take i).foldl jI (0,[])).1=t0:=⟨_,rfl⟩;have VP:Z_ ((L.take (i+1)).foldl jI (0,[])=(t0 ||| s,((L.take i).foldl jI (0,[])).2)):=by show _=_;rw[HS.o,<-ht0];rfl
     rw[ht0]at Q;clear HS ht0 Zx;go_wp2_with fail
     go_loopg [11] 256 (λk v11 wz=>∃(c:Nat),c+k=256/\v11=.int .i64 c/\Or2 w L ps ib (.slice (some ⟨g,0,none⟩) L.length c5) wz (.slice ao no co) i (VL t0 s c)/\TN wz q (.set s))
     case atStart=>exact⟨0,rfl,rfl,by rw[ag5];exact Q,HX⟩
     case round =>
      clear Q HX;obtain⟨c,hck,rfl,hQ2,hX2⟩:=hrel;have Q2:=aj hQ2;have X2:=aj hX2;have afR:wr.cell? ⟨g,i,none⟩=some (.pointer (some ⟨q,0,none⟩)):=by
       obtain⟨g',e,_,_,h⟩:=hQ2.row.cell (j:=i) (u:=aK q) Hpq;simp only[Option.some.injEq,Addr.mk.injEq]at e;obtain⟨rfl,_⟩:=e;exact h
      clear hQ2 hX2
      by_cases VJ:c<256
      ·have Sz:=Q2.o.VM.cell c (t0.testBit c) (by rw[ai9 _ _ _ _ VJ,a0g (by omega)])
       have MW:=Q2.o.VM.fz c;have hX3:=X2.o;simp only[TN]at hX3;have aqk:=hX3.cin c (s.testBit c) (Iw s c VJ);have Q3:=aj (Q2.o.set zib c (t0.testBit c||s.testBit c));have X3:=aj (X2.o.kt (Q2.o.VM.kt c (t0.testBit c||s.testBit c)));rw[aja _ _ _ VJ]at Q3;clear hX3;cases Bf:t0.testBit c
       all_goals
        rw[Bf]at Sz Q3 X3;simp only[Bool.true_or,Bool.false_or]at Q3 X3;go_wp2;go_roundg (gk-1)
        case measure=>omega
        case rel=>exact⟨c+1,by omega,by go_num,Q3,X3⟩
      have hce:c=256:=by omega
      subst hce;rw[ai8]at Q2;go_wp2;go_roundg (go-1)
      case measure=>omega
      case rel =>
       refine⟨i+1,_,by omega,by go_num,rfl,?_⟩;have:=Q2.o;refine⟨?_,?_,this.row,this.fr⟩
       ·rw[VP.o];exact this.oot
       rw[VP.o];exact this.VM
    obtain⟨k48,aql,dM⟩:=alq hz (λs e=>aje ⟨s,e⟩);have k8:jm x<256:=by cases x<;>simp[jm]
    have VP:Z_ ((L.take (i+1)).foldl jI (0,[])=(((L.take i).foldl jI (0,[])).1,put ((L.take i).foldl jI (0,[])).2 x)):=by show _=_;rw[HS.o,dM]
    have N:=aj (Zs wo (.slice ao no co) _ q x Q.o.oot HX.o Zx);unfold aK at N;clear HS dM hz aje Zx;generalize jm x=kdx at *;go_wp2_with fail
    refine(N.o).mono ?_;rintro e w3 ⟨v3,rfl,htv,bZ⟩;have Q3:=aj (Q.o.go bZ);have V3:=aj htv;obtain⟨ps3,⟨_,a3,n3,c3,rfl,h3,_⟩,_⟩:=htv;clear bZ N Q h3;go_wp2;go_roundg (go-1)
    case measure=>omega
    case rel =>
     refine⟨i+1,_,by omega,by go_num,rfl,?_⟩;have:=Q3.o;refine⟨?_,?_,this.row,this.fr⟩
     ·rw[VP.o];exact V3
     rw[VP.o];exact this.VM
   have hiL:i=L.length:=by omega
   subst hiL;rw[a0D (a0a _)]at Q Hno Zx;have ht8:=Zu L (0,[]) HLw.o (by decide);obtain⟨st,dM⟩:∃st,L.foldl jI (0,[])=st:=⟨_,rfl⟩;rw[dM]at Q Hno Zx ht8 HE;have Po:=aj dM;clear dM aoH T HLw A B hTl;have NB:=aj (M0 ib 0 st.1 wo (λc hc=>by rw[a1v];exact Q.o.VM.cell c _ (Iw _ _ hc)) ht8);go_wp2_with fail
   refine(NB.o).mono ?_;rintro e w1 ⟨p1,rfl,iw,aZ⟩;have kp:=iw.kd;have V1:=aj (Q.o.oot.aB aZ);rw[show(L.take L.length)=L from a0D (a0a _)]at V1;have F1:=aj (Q.o.fr.trans aZ);have P1:=aj iw;clear iw aZ NB Q;unfold aK;have HEs:Z_ ((L.foldl jI (0,[])).2=st.2):=by show _=_;rw[Po.o]
   rw[HEs.o]at V1;rcases ag6 st.1 with⟨h0,h1⟩|⟨h0,h1⟩
   case' inl =>
    rw[h1]at kp;simp only[jm]at kp;have HE2:Z_ (Zt st=st.2):=by show _=_;unfold Zt;rw[a0j h0]
    rw[HE2.o]at HE;obtain⟨E,hE⟩:∃E,st.2=E:=⟨_,rfl⟩;rw[hE]at HE V1 Hno;clear HE2 hE h1 h0 P1;obtain⟨wF,hwF⟩:∃wF,wF=w1:=⟨_,rfl⟩;have V:=V1;have FF:=F1;rw[<-hwF]at V FF kp;clear V1 F1;rw[<-hwF];obtain⟨af,haf⟩:∃x,x=ao:=⟨_,rfl⟩;obtain⟨cf,hcf⟩:∃x,x=co:=⟨_,rfl⟩;obtain⟨nf,hnf⟩:∃x,x=no:=⟨_,rfl⟩;rw[<-haf,<-hcf,<-hnf]at V |-;clear haf hcf hwF Hno hnf
   case' inr =>
    rw[h1]at kp;simp only[jm]at kp;have HE2:Z_ (Zt st=put st.2 (.set st.1)):=by show _=_;unfold Zt;rw[a0g h0]
    rw[HE2.o]at HE;rw[h1]at P1;have NP:=aj (Zs w1 (.slice ao no co) st.2 p1 (.set st.1) V1.o P1.o Zx);unfold aK at NP;clear HE2 h1 h0 P1 V1;go_wp2_with fail
    refine(NP.o).mono ?_;rintro e wF ⟨v3,rfl,htv,bZ⟩;have V:=aj htv;have FF:=aj (F1.o.trans bZ);obtain⟨ps3,⟨_,af,nf,cf,rfl,h3,_⟩,_⟩:=htv;clear bZ F1 h3 NP;generalize put st.2 (.set st.1)=E at HE V
   all_goals
    obtain⟨psE,⟨hbE,af',nf',cf',eV,hnE,hcE,ame,M9⟩,hTE⟩:=V.o;simp only[Value.slice.injEq]at eV;obtain⟨rfl,rfl,rfl⟩:=eV;rw[a0B]at hnE hbE;have hlE:=hTE.len;have aoI:nf=E.length:=hnE.trans hlE;have HC:=aj M9;have HT:=aj hTE;have aqm:E.length<=140737488355328:=by omega
    have Hlp:Z_ (psE.length=E.length):=hlE;have HbE:Z_ ((psE.map aK).length<=140737488355328):=by show _<=_;rw[a0B];exact hbE
    have HhE:=aj ame;clear M9 hTE hnE hlE hbE ame;have get:Z_ (∀j y,E[j]?=some y->∃q g,af=some ⟨g,0,none⟩/\wF.cell? ⟨g,j,none⟩=some (.pointer (some ⟨q,0,none⟩))/\TN wF q y):=by
     intro j y hy;obtain⟨q,hq,DK⟩:=HT.o.get j y hy;obtain⟨g,hg,hc⟩:=HC.o j (aK q) (by rw[a1d,hq];rfl);exact⟨q,g,hg,hc,DK⟩
    subst aoI
    by_cases e0:E.length=0
    ·have hE0:E=[]:=List.length_eq_zero_iff.1 e0
     have HZ:Z_ (dZ a b=.zero):=by show _=_;rw[HE.o,hE0];rfl
     have b0:(((E.length:Nat):Int)==0)=true:=by rw[e0];rfl
     have N:=aj (lC wF);clear HE hE0 e0 HC HT get;go_wp2_with fail
     refine(N.o).mono ?_;rintro e w9 ⟨p9,rfl,hp9,hf9⟩;have P9:=aj hp9;have F9:=aj (FF.o.trans hf9);clear hp9 hf9 N;unfold aK;go_wp2;go_ret;rw[HZ.o];exact⟨p9,rfl,P9,F9⟩
    have b0:(((E.length:Nat):Int)==0)=false:=by rw[a0k];omega
    by_cases e1:E.length=1
    ·obtain⟨y,hy⟩:∃y,E=[y]:=List.length_eq_one_iff.1 e1
     have HZ:Z_ (dZ a b=y):=by show _=_;rw[HE.o,hy];rfl
     have b1:(((E.length:Nat):Int)==1)=true:=by rw[e1];rfl
     obtain⟨q,g,rfl,aV,DK⟩:=get.o 0 y (by rw[hy];rfl);have QN:=aj DK;have afS:(0:Int)<(E.length:Int):=by omega
     clear HE hy e1 HC HT get DK;go_wp2;go_ret;rw[HZ.o];exact⟨q,rfl,QN,FF⟩
    have b1:(((E.length:Nat):Int)==1)=false:=by rw[a0k];omega
    have HZ:Z_ (dZ a b=.sum E):=by
     show _=_;rw[HE.o]
     match E,e0,e1 with
     | [],e0,_=>exact absurd rfl e0
     | [z],_,e1=>exact absurd rfl e1
     | y::z::r,_,_=>rfl
    have hnE:(dI E).length+2<9223372036854775807:=by
     have:=HN.o;rw[HZ.o]at this;simp only[nl,name,a0o,a0v,a1f]at this;omega
    clear HE HC;go_wp2_with fail
    go_loopg [13,14] E.length (λk v13 v14 wq=>∃(j:Nat),j+k=E.length/\v14=.int .i64 j/\v13=.string (bs (91::dI (E.take j)))/\wF=wq)
    case atStart=>exact⟨0,by omega,rfl,rfl,rfl⟩
    case round =>
     obtain⟨j,sI,rfl,rfl,rfl⟩:=hrel;have hle:=Zv (E:=E) (j:=j);have s1:(bs (91::dI (E.take j))).size=(dI (E.take j)).length+1:=bS _
     by_cases hj:j<E.length
     ·obtain⟨y,hy⟩:∃y,E[j]?=some y:=⟨E[j],a0c hj⟩
      obtain⟨q,g,rfl,aV,DK⟩:=get.o j y hy;have nmy:=DK.nm;have Hnt:=aj (acD hy);have amb:=Zv (E:=E) (j:=j+1);have rU:(dI (E.take (j+1))).length=(dI (E.take j)).length+(name y).length+1:=by rw[Hnt.o];simp;omega
      have e1':bs (91::dI (E.take j))++bs (name y)=bs (91::dI (E.take j)++name y):=kH _ _;have e2':bs (91::dI (E.take j)++name y)++⟨#[124]⟩=bs (91::dI (E.take (j+1))):=by rw[Hnt.o];exact kH (91::dI (E.take j)++name y) [124]
      have s2:=bS (name y);have s3:(bs (91::dI (E.take j)++name y)).size=(dI (E.take j)).length+1+(name y).length:=by rw[bS];simp;omega
      have q1:¬ (9223372036854775807<(dI (E.take j)).length+1+(name y).length):=by omega
      have q2:¬ (9223372036854775807<(dI (E.take j)).length+1+(name y).length+1):=by omega
      have hji:(j:Int)<(E.length:Int):=by omega
      clear hy DK hle amb rU;generalize bs (91::dI (E.take j)++name y)=z2 at e1' e2' s3;go_wp2;go_roundg (gk-1)
      case measure=>omega
      case rel=>exact⟨j+1,by omega,by go_num,rfl,rfl⟩
     have ou:E.take j=E:=a0D (by omega);rw[ou]at s1 |-;have e3:bs (91::dI E)++⟨#[93]⟩=bs (91::dI E++[93]):=kH _ [93];have q3:¬ (9223372036854775807<(dI E).length+1+1):=by omega
     have q4:¬ (9223372036854775807<(dI E).length+2):=by omega
     have fin:Z_ (TN (wF.alloc (Obj.cells (((Tryz.zeroCells145.setIfInBounds 0 (.int .u8 97)).setIfInBounds 259 (.slice af E.length cf)).setIfInBounds 260 (.string (bs (91::dI E++[93])))) 145)) wF.heap.size (.sum E)):=by
      show TN _ _ _;simp only[TN];have ff:aA [] wF (wF.alloc (Obj.cells (((Tryz.zeroCells145.setIfInBounds 0 (.int .u8 97)).setIfInBounds 259 (.slice af E.length cf)).setIfInBounds 260 (.string (bs (91::dI E++[93])))) 145)):=(aA.refl _ _).alloc _;obtain⟨psV,hv1,hv2⟩:=V.o;refine⟨.slice af E.length cf,psV,TK.of ?_ oM,hv1.aB ff,hv2.aB ff⟩;rw[aoG,Iz];simp only[name];rfl
     generalize bs (91::dI E++[93])=z9 at e3 fin;clear hle ou get HT;go_wp2;go_ret;rw[HZ.o];exact⟨_,rfl,fin,FF.o.alloc _⟩
mutual
/-- What is left behind a byte has few parts,at every step. -/
def vH(c:Nat):NF->Prop
 | .zero=>True
 | .one=>True
 | .set _=>True
 | .pair a b=>vH c a/\vH c b/\np (left c (.pair a b))<=1000000000000
 | .sum l=>VQ c l/\np (left c (.sum l))<=1000000000000
 | .star a=>vH c a
def VQ(c:Nat):List NF->Prop
 | []=>True
 | x::r=>vH c x/\VQ c r
end
theorem Zy {c:Nat}:∀{l:List NF},VQ c l->∀x∈l,vH c x
 | x::r,h,y,hy=>by
   simp only[VQ]at h;rcases a0l.1 hy with e|e
   ·rw[e];exact h.1
   exact Zy h.2 y e
def Pp(c:Nat)(x:NF):Prop:=∀(w:World) (p:Nat),TN w p x->WC x->vH c x->nl (left c x)<9223372036854775807 ->
 Calls Tryz.prog 56 #[aK p,.int .i64 c] w (xI w (left c x))
theorem acF{c:Nat}(hk:jm x=k)(hl:left c x=.zero)(h:∀(w:World) (p:Nat),w.cell? ⟨p,0,none⟩=some (.int .u8 (k:Nat))->Calls Tryz.prog 56 #[.pointer (some ⟨p,0,none⟩),.int .i64 c] w (xI w .zero)):Pp c x:=by
 intro w p ht _ _ _;have k0:=ht.kd;rw[hk]at k0;rw[hl];exact h w p k0
theorem acG(c:Nat):Pp c .zero/\Pp c .one:=by
 constructor
 ·refine acF (k:=48) rfl (by simp only[left]) (λw p k0=>?_)
  have N:=aj (lC w);go_enter Tryz.func56,Tryz.ntmps56
  go_wp2_with fail
  refine(N.o).mono ?_;rintro e w1 ⟨q,rfl,hp,hf⟩;have P:=aj hp;have F:=aj hf;clear hp hf N;unfold aK;go_wp2;go_ret;exact⟨q,rfl,P,F⟩
 refine acF (k:=49) rfl (by simp only[left]) (λw p k0=>?_);have N:=aj (lC w);go_enter Tryz.func56,Tryz.ntmps56
 go_wp2_with fail
 refine(N.o).mono ?_;rintro e w1 ⟨q,rfl,hp,hf⟩;have P:=aj hp;have F:=aj hf;clear hp hf N;unfold aK;go_wp2;go_ret;exact⟨q,rfl,P,F⟩
theorem alr(c s:Nat)(hc:c<256):Pp c (.set s):=by
 intro w p ht _ _ _;have k0:=ht.kd;simp only[jm]at k0;simp only[TN]at ht;have Sz:=ht.cin c (s.testBit c) (Iw s c hc);have HL:Z_ (left c (.set s)=if s.testBit c then .one else .zero):=by show _=_;simp only[left]
 unfold aK;clear ht;cases hb:s.testBit c
 case false =>
  rw[hb]at Sz HL;have N:=aj (lC w);go_enter Tryz.func56,Tryz.ntmps56
  go_wp2_with fail
  refine(N.o).mono ?_;rintro e w1 ⟨q,rfl,hp,hf⟩;have P:=aj hp;have F:=aj hf;clear hp hf N;unfold aK;go_wp2;go_ret;rw[HL.o];exact⟨q,rfl,P,F⟩
 case true =>
  rw[hb]at Sz HL;have N:=aj (uD w);go_enter Tryz.func56,Tryz.ntmps56
  go_wp2_with fail
  refine(N.o).mono ?_;rintro e w1 ⟨q,rfl,hp,hf⟩;have P:=aj hp;have F:=aj hf;clear hp hf N;unfold aK;go_wp2;go_ret;rw[HL.o];exact⟨q,rfl,P,F⟩
theorem ajf(c:Nat)(a:NF)(hc:c<256)(ih:Pp c a):Pp c (.star a):=by
 intro w p ht hw Fu hn;have k0:=ht.kd;simp only[jm]at k0;have T:=aj ht;simp only[TN]at ht;obtain⟨pa,hk,ha⟩:=ht;obtain⟨UW,_⟩:=hk.ends;have wa:WC a:=⟨hw.1.1,hw.2⟩;have HL:Z_ (left c (.star a)=aH (left c a) (.star a)):=by show _=_;simp only[left]
 have A:=aj (ih w pa ha wa (by simpa only[vH] using Fu) (a2j (ab5 hw) hn));rw[HL.o]at hn;have TH:Z_ (∀(w':World) (q:Nat),aA [] w w'->TN w' q (left c a)->Calls Tryz.prog 70 #[aK q,aK p] w' (xI w' (aH (left c a) (.star a)))):=λw' q hf hq=>wP (left c a) (.star a) w' q p hq (T.o.aB hf) (wa.left c).1 hw.1 hn
 unfold aK at UW A TH |-;clear hk ha T hw wa hn Fu;go_enter Tryz.func56,Tryz.ntmps56
 go_wp2_with fail
 refine(A.o).mono ?_;rintro e w1 ⟨q,rfl,hp,hf⟩;have T2:=aj (TH.o w1 q hf hp);have F:=aj hf;clear hp hf A TH;unfold aK;go_wp2_with fail
 refine(T2.o).mono ?_;rintro e w2 ⟨q2,rfl,hp,hf⟩;have P:=aj hp;have F2:=aj (F.o.trans hf);clear hp hf T2 F;unfold aK;go_wp2;go_ret;rw[HL.o];exact⟨q2,rfl,P,F2⟩
theorem ajg(c:Nat)(a b:NF)(hc:c<256)(iha:Pp c a)(ihb:Pp c b):Pp c (.pair a b):=by
 intro w p ht hw Fu hn;have k0:=ht.kd;simp only[jm]at k0;simp only[TN]at ht;obtain⟨pa,pb,hk,ha,hb⟩:=ht;obtain⟨UW,k58,_⟩:=hk.ends;have wa:WC a:=⟨hw.1.1,hw.2.1⟩;have wb:WC b:=⟨hw.1.2.1,hw.2.2⟩;simp only[vH]at Fu;have m1:=ab3 (c:=c) hw;have A:=aj (iha w pa ha wa Fu.1 (by omega));have TH:Z_ (∀(w':World) (q:Nat),aA [] w w'->TN w' q (left c a)->Calls Tryz.prog 70 #[aK q,aK pb] w' (xI w' (aH (left c a) b))):=λw' q hf hq=>wP (left c a) b w' q pb hq (hb.aB hf) (wa.left c).1 wb.1 (by omega)
 have NN:Z_ (∀(w':World),aA [] w w'->Calls Tryz.prog 74 #[aK pa] w' λe w''=>e=.returned (.bool (dY a))/\w'=w''):=λw' hf=>aey a w' pa (ha.aB hf)
 have BB:Z_ (dY a=true->∀(w':World),aA [] w w'->Calls Tryz.prog 56 #[aK pb,.int .i64 c] w' (xI w' (left c b))):=λzy w' hf=>ihb w' pb (hb.aB hf) wb Fu.2.1 (a2j (ab4 hw zy) hn)
 have OO:Z_ (dY a=true->∀(w':World) (q r:Nat),TN w' q (aH (left c a) b)->TN w' r (left c b)->Calls Tryz.prog 71 #[aK q,aK r] w' (xI w' (dZ (aH (left c a) b) (left c b)))):=by
  intro zy w' q r hq hr;have e:left c (.pair a b)=dZ (aH (left c a) b) (left c b):=by simp only[left];rw[a0j zy]
  exact M5 _ _ w' q r hq hr ((wa.left c).then wb) (wb.left c) (by rw[<-e];exact hn) (by rw[<-e];exact Fu.2.2)
 have HL:Z_ (left c (.pair a b)=if dY a then dZ (aH (left c a) b) (left c b) else aH (left c a) b):=by show _=_;simp only[left]
 have C57:Z_ (∀w',aA [] w w'->w'.cell? ⟨p,257,none⟩=some (aK pa)):=λw' hf=>(hf.cell (p:=⟨p,257,none⟩) (dL UW) (by simp)).trans UW
 have C58:Z_ (∀w',aA [] w w'->w'.cell? ⟨p,258,none⟩=some (aK pb)):=λw' hf=>(hf.cell (p:=⟨p,258,none⟩) (dL k58) (by simp)).trans k58
 unfold aK at UW A TH NN BB OO C57 C58 |-;clear hk ha hb hw wa wb hn Fu m1 k58;go_enter Tryz.func56,Tryz.ntmps56
 go_wp2_with fail
 refine(A.o).mono ?_;rintro e w1 ⟨q,rfl,hp,hf⟩;have T2:=aj (TH.o w1 q hf hp);have F:=aj hf;have k58:=C58.o w1 hf;clear hp hf A TH;unfold aK;go_wp2_with fail
 refine(T2.o).mono ?_;rintro e w2 ⟨q2,rfl,hp,hf⟩;have P2:=aj hp;have F2:=aj (F.o.trans hf);have aoz:=C57.o w2 F2;have aqn:=C58.o w2 F2;have N2:=aj (NN.o w2 F2);clear hp hf T2 F NN;unfold aK;go_wp2_with fail
 refine(N2.o).mono ?_;rintro e w3 ⟨rfl,rfl⟩;cases zy:dY a
 case false =>
  rw[zy]at HL;go_wp2;go_ret;rw[HL.o];exact⟨q2,rfl,P2,F2⟩
 case true =>
  rw[zy]at HL;have B2:=aj (BB.o zy w2 F2);have O2:=aj (OO.o zy);clear BB OO;go_wp2_with fail
  refine(B2.o).mono ?_;rintro e w4 ⟨q4,rfl,hp,hf⟩;have O4:=aj (O2.o w4 q2 q4 (P2.o.aB hf) hp);have F4:=aj (F2.o.trans hf);clear hp hf B2 O2;unfold aK;go_wp2_with fail
  refine(O4.o).mono ?_;rintro e w5 ⟨q5,rfl,hp,hf⟩;have P5:=aj hp;have F5:=aj (F4.o.trans hf);clear hp hf O4;unfold aK;go_wp2;go_ret;rw[HL.o];exact⟨q5,rfl,P5,F5⟩
theorem ajh {xs ys:List NF}(hx:∀x∈xs,WC x)(hy:∀x∈ys,WC x):nl (bI xs)<=nl (bI (xs++ys))/\np (bI xs)<=np (bI (xs++ys)):=by
 have hO:WC (bI xs):=WC.bI hx;have e:=Md (Oy:=xs) (bs:=ys) (λx h=>(hx x h).1) (λx h=>(hy x h).1);have hw:∀x∈bI xs::ys,wf x:=by
  intro x h;rcases a0l.1 h with rfl|h
  ·exact hO.1
  exact(hy x h).1
 rw[<-e];exact⟨or_mono hw (by simp) hO.2,Ir hw (by simp) hO.2⟩
def Gc(c:Nat)(l:List NF)(j:Nat):NF:=bI ((l.take j).map (left c))
theorem aeI {c:Nat}(hw:∀x∈l,WC x)(h:l[j]?=some y):Gc c l (j+1)=dZ (Gc c l j) (left c y):=by
 unfold Gc;have hl:∀x∈(l.take j).map (left c),wf x:=by
  intro x hx;obtain⟨z,hz,rfl⟩:=a0s.1 hx;exact((hw z (a3g hz)).left c).1
 have hy:=((hw y (a0M h)).left c).1;rw[a1n,h,a0T];exact(Md hl (bs:=[left c y]) (by simp;exact hy)).symm
theorem aji {c:Nat}(hw:∀x∈l,WC x)(j:Nat):WC (Gc c l j):=by
 refine WC.bI ?_;intro x hx;obtain⟨z,hz,rfl⟩:=a0s.1 hx;exact(hw z (a3g hz)).left c
theorem ajj {c:Nat}(hw:∀x∈l,WC x)(j:Nat):nl (Gc c l j)<=nl (left c (.sum l))/\np (Gc c l j)<=np (left c (.sum l)):=by
 have e:left c (.sum l)=bI ((l.take j).map (left c)++(l.drop j).map (left c)):=by
  simp only[left];rw[gJ,<-a0T,a1I]
 rw[e];refine ajh ?_ ?_
 ·intro x hx
  obtain⟨z,hz,rfl⟩:=a0s.1 hx;exact(hw z (a3g hz)).left c
 intro x hx;obtain⟨z,hz,rfl⟩:=a0s.1 hx;exact(hw z (a1h hz)).left c
theorem ag7 {c:Nat}:Gc c l l.length=left c (.sum l):=by
 unfold Gc;simp only[left];rw[gJ,a0D (a0a _)]
theorem ajk {c:Nat}(hw:∀x∈l,WC x)(hy:y∈l):nl (left c y)<=nl (left c (.sum l)):=by
 simp only[left];rw[gJ];refine or_mono ?_ (a0s.2 ⟨y,hy,rfl⟩) ((hw y hy).left c).2;intro x hx;obtain⟨z,hz,rfl⟩:=a0s.1 hx;exact((hw z hz).left c).1
theorem als(h:WC (.sum l)):∀x∈l,WC x:=λx hx=>⟨jQ.1 h.1.1 x hx,uA.1 h.2.1 x hx⟩
theorem alu(c:Nat)(l:List NF)(hc:c<256)(ih:∀y∈l,Pp c y):Pp c (.sum l):=by
 intro w p ht hw Fu hn;have k0:=ht.kd;simp only[jm]at k0;simp only[TN]at ht;obtain⟨v,ps,hk,hv,hs⟩:=ht;obtain⟨_,_,OU,_⟩:=hk.ends;obtain⟨Jo,av,n,cap,rfl,hn0,acu,_,za⟩:=hv;have hlen:=hs.len;rw[a0B]at hn0 Jo;have rU:n=l.length:=hn0.trans hlen;subst rU;simp only[vH]at Fu;have WL:=aj (als hw);have HC:=aj za;have HS:=aj hs;have FL:=aj (Zy Fu.1);have NP:=aj Fu.2;have HN:=aj hn;have IH:=aj ih;rw[hlen]at Jo;have C59:Z_ (∀w',aA [] w w'->w'.cell? ⟨p,259,none⟩=some (.slice av l.length cap)):=λw' hf=>(hf.cell (p:=⟨p,259,none⟩) (dL OU) (by simp)).trans OU
 have N0:=aj (lC w);unfold aK;clear hk za hs hn0 hlen hw Fu hn ih OU;go_enter Tryz.func56,Tryz.ntmps56
 go_wp2_with fail
 refine(N0.o).mono ?_;rintro e w1 ⟨q1,rfl,iw,aZ⟩;have P1:=aj iw;have F1:=aj aZ;clear iw aZ N0;unfold aK;go_wp2_with fail
 go_loopg [9,10] l.length (λk v9 v10 wr=>∃(j q:Nat),j+k=l.length/\v10=.int .i64 j/\v9=.pointer (some ⟨q,0,none⟩)/\TN wr q (Gc c l j)/\aA [] w wr)
 case atStart=>exact⟨0,q1,by omega,rfl,rfl,P1,F1⟩
 case round =>
  clear P1 F1;obtain⟨j,q,sI,rfl,rfl,hq,hf⟩:=hrel;have Q:=aj hq;have F:=aj hf;have c59:=C59.o wr hf;clear hq hf
  by_cases hj:j<l.length
  ·obtain⟨y,hy⟩:∃y,l[j]?=some y:=⟨l[j],a0c hj⟩
   have VR:=a0M hy;obtain⟨r,hr,uO⟩:=HS.o.get j y hy;obtain⟨g,rfl,aaU⟩:=HC.o j (aK r) (by rw[a1d,hr];rfl);have aV:=(F.o.cell (p:=⟨g,j,none⟩) (dL aaU) (by simp)).trans aaU;have wy:=WL.o y VR;have BY:=aj (IH.o y VR wr r (uO.aB F) wy (FL.o y VR) (a2j (ajk WL.o VR) HN));have bN:=aj (aeI (c:=c) WL.o hy);have hle:=ajj (c:=c) WL.o (j+1);have OO:Z_ (∀(w':World) (s:Nat),aA [] wr w'->TN w' s (left c y)->Calls Tryz.prog 71 #[aK q,aK s] w' (xI w' (dZ (Gc c l j) (left c y)))):=by
    intro w' s hf hs;refine M5 _ _ w' q s (Q.o.aB hf) hs (aji WL.o j) (wy.left c) ?_ ?_
    ·rw[<-bN.o];exact a2j hle.1 HN
    rw[<-bN.o];exact a0e hle.2 NP
   have hji:(j:Int)<(l.length:Int):=by omega
   unfold aK at aV BY OO;clear aaU hr uO hy VR wy hle;go_wp2_with fail
   refine(BY.o).mono ?_;rintro e w2 ⟨s2,rfl,bR,aS⟩;have O2:=aj (OO.o w2 s2 aS bR);have F2:=aj (F.o.trans aS);clear bR aS BY OO;unfold aK;go_wp2_with fail
   refine(O2.o).mono ?_;rintro e w3 ⟨s3,rfl,mR,bZ⟩;have P3:=aj mR;have F3:=aj (F2.o.trans bZ);clear mR bZ O2;unfold aK;go_wp2;go_roundg (gk-1)
   case measure=>omega
   case rel=>exact⟨j+1,s3,by omega,by go_num,rfl,by rw[bN.o];exact P3,F3⟩
  have ou:j=l.length:=by omega
  have HL:Z_ (Gc c l j=left c (.sum l)):=by show _=_;rw[ou,ag7]
  rw[HL.o]at Q;go_wp2;go_ret;exact⟨q,rfl,Q,F⟩
theorem aaV(c:Nat)(hc:c<256)(x:NF):Pp c x:=by
 refine NF.ind (P:=Pp c) ?_ x;intro x ih;cases x with
 | zero=>exact(acG c).1
 | one=>exact(acG c).2
 | set s=>exact alr c s hc
 | star a=>exact ajf c a hc (ih a (by simp[NF.size]))
 | pair a b=>exact ajg c a b hc (ih a (by simp[NF.size];omega)) (ih b (by simp[NF.size];omega))
 | sum l=>exact alu c l hc (λy hy=>ih y (by have:=dK hy;simp[NF.size];omega))
theorem ag8(hX:WC X)(hs:X.size*dJ X<=524800) {u:LN}(hu:u.length<=40)(c:Nat)(g:NF):(di g=true\/g=.one\/qx X u g)->vH c g:=by
 refine NF.ind (P:=λg=>(di g=true\/g=.one\/qx X u g)->vH c g) ?_ g;intro g ih h;have hnp:=aiM (c:=c) hX hs hu h;cases g with
 | zero=>simp only[vH]
 | one=>simp only[vH]
 | set s=>simp only[vH]
 | pair a b =>
   have hv:qx X u (.pair a b):=by
    rcases h with h|h|h
    ·simp[di]at h
    ·simp at h
    exact h
   simp only[vH];exact⟨ih a (by simp[NF.size];omega) (.inr (.inr (Uh hX.1 hv))),ih b (by simp[NF.size];omega) (.inr (.inr (Ki hX.1 hv))),hnp⟩
 | star a =>
   have hv:qx X u (.star a):=by
    rcases h with h|h|h
    ·simp[di]at h
    ·simp at h
    exact h
   simp only[vH];exact ih a (by simp[NF.size]) (.inr (.inr (Ui hX.1 hv)))
 | sum l =>
   have hv:qx X u (.sum l):=by
    rcases h with h|h|h
    ·simp[di]at h
    ·simp at h
    exact h
   simp only[vH];refine⟨?_,hnp⟩;have key:∀l':List NF,(∀y∈l',y∈l)->VQ c l':=by
    intro l'
    induction l' with
    | nil=>intro _;simp only[VQ]
    | cons y r ihl =>
      intro uB;have hy:=uB y (by simp);simp only[VQ];refine⟨ih y (by have:=dK hy;simp[NF.size];omega) (Uk hX.1 hv hy),ihl (λz hz=>uB z (by simp[hz]))⟩
   exact key l (λ_ h=>h)
theorem ajl(x:NF):nl x+1<=515*x.size:=by
 refine NF.ind (P:=λx=>nl x+1<=515*x.size) ?_ x;intro x ih;cases x with
 | zero=>simp[nl,name,NF.size]
 | one=>simp[nl,name,NF.size]
 | set s=>have:=Tt s;simp only[NF.size];omega
 | pair a b =>
   have h1:=ih a (by simp[NF.size];omega);have h2:=ih b (by simp[NF.size];omega);rw[BZ];simp only[NF.size];omega
 | star a =>
   have h1:=ih a (by simp[NF.size]);rw[Uu];simp only[NF.size];omega
 | sum l =>
   have key:∀l':List NF,(∀y∈l',y∈l)->sW l'<=515*bB l':=by
    intro l'
    induction l' with
    | nil=>intro _;simp[sW,bB]
    | cons y r ihl =>
      intro uB;have h1:=ih y (by have:=dK (uB y (by simp));simp[NF.size];omega);have h2:=ihl (λz hz=>uB z (by simp[hz]));rw[zh];simp only[bB];omega
   have:=key l (λ_ h=>h);rw[Io];simp only[NF.size];omega
def GT(t:TR):Prop:=∃e,vV e/\rM e/\dx e<=40/\jh e<=40/\jl e=t
theorem Bc.sz(h:Bc x p t):x.size<=1+2*p*(t+1):=by
 by_cases hp:p=0
 ·rw[h.2.1 hp];simp[NF.size]
 have:=(h.2.2 (by omega)).sz;omega
theorem GT.bd {t:TR}(h:GT t):∃p u,p<=40/\u<=40/\Bc (dA t) p u/\(1<=p->1<=u):=by
 obtain⟨e,h1,h2,h3,h4,rfl⟩:=h;refine⟨kJ e,jh e,by rw[pV h3];exact h3,h4,?_,Fp⟩;rw[Cf e h1];exact uZ h1
theorem Gd:∀(a b:List RX),bM (a++b)=bM a+bM b
 | [],b=>by simp[bM]
 | x::a,b=>by simp only[a0J,bM,Gd a b];omega
def Bt(e:RX):Prop:=vV e/\rM e/\dx e<=40/\jh e<=40
theorem Bt.seq {l:List RX} {x:RX}(h:Bt (.seq (l++[x]))):Bt (.seq l)/\Bt x:=by
 obtain⟨h1,h2,h3,h4⟩:=h;have a1:=yT.1 (show kv (l++[x]) from h1);have a2:=yV.1 (show lz (l++[x]) from h2);simp only[dx,Gd]at h3;simp only[jh,yU]at h4;have e1:bM [x]=dx x:=by simp[bM]
 have e2:fo [x]=jh x:=by simp[fo]
 exact⟨⟨a1.1,a2.1,by simp only[dx];omega,by simp only[jh];omega⟩,a1.2.1,a2.2.1,by omega,by omega⟩
theorem Bt.aoJ {x:RX}(h:Bt (.alt [x])):Bt x:=by
 obtain⟨h1,h2,h3,h4⟩:=h;refine⟨h1.1.1,h2.1,?_,?_⟩
 ·simp[dx,bM]at h3;exact h3
 simp[jh,fo]at h4;omega
theorem Bt.alt {l:List RX} {x:RX}(hl:l≠[])(h:Bt (.alt (l++[x]))):Bt (.alt l)/\Bt x:=by
 obtain⟨h1,h2,h3,h4⟩:=h;have a1:=yT.1 (show kv (l++[x]) from h1.1);have a2:=yV.1 (show lz (l++[x]) from h2);simp only[dx,Gd]at h3;simp only[jh,yU,a0v,a0o,a1f]at h4;have e1:bM [x]=dx x:=by simp[bM]
 have e2:fo [x]=jh x:=by simp[fo]
 have hp:1<=l.length:=a1P.2 hl;exact⟨⟨⟨a1.1,hl⟩,a2.1,by simp only[dx];omega,by simp only[jh];omega⟩,a1.2.1,a2.2.1,by omega,by omega⟩
theorem Bt.rep {x:RX} {lo:Nat}(h:Bt (.rep x lo hi)):Bt x/\lo<=9/\(∀n,hi=some n->n<=9)/\(∀n,hi=some n->lo<=n):=by
 obtain⟨h1,h2,h3,h4⟩:=h;have hp:dx x<=40:=by
  simp only[dx]at h3
  split at h3
  ·exact h3
  omega
 exact⟨⟨h1.1,h2.1,hp,by simp only[jh]at h4;omega⟩,h2.2.1,h2.2.2,h1.2⟩
theorem GT.of {e:RX}(h:Bt e):GT (jl e):=⟨e,h.1,h.2.1,h.2.2.1,h.2.2.2,rfl⟩
theorem Bt.inv:∀(n:Nat) (e:RX),SizeOf.sizeOf e<=n->Bt e ->
 (∀a b,jl e=.both a b->GT a/\GT b)/\(∀a b,jl e=.either a b->GT a/\GT b)/\(∀a lo hi,jl e=.often a lo hi->GT a/\lo<=9/\(∀n,hi=some n->n<=9)/\(∀n,hi=some n->lo<=n))
 | 0,e,hn,_=>by cases e<;>simp at hn
 | n+1,.one s,_,_=>by simp[jl]
 | n+1,.rep x lo hi,_,h=>by
   refine⟨by simp[jl],by simp[jl],?_⟩;intro a lo' hi' e;simp only[jl,TR.often.injEq]at e;obtain⟨rfl,rfl,rfl⟩:=e;have:=h.rep;exact⟨GT.of this.1,this.2⟩
 | n+1,.seq l,_,h=>by
   rcases List.eq_nil_or_concat l with rfl|⟨l',x,rfl⟩
   ·simp[jl,Dz]
   rw[List.concat_eq_append]at h |-;rw[acf];have:=h.seq;refine⟨?_,by simp,by simp⟩;intro a b e;simp only[TR.both.injEq]at e;obtain⟨rfl,rfl⟩:=e;exact⟨GT.of this.1,GT.of this.2⟩
 | n+1,.alt l,hn,h=>by
   rcases List.eq_nil_or_concat l with rfl|⟨l',x,rfl⟩
   ·exact absurd rfl h.1.2
   rw[List.concat_eq_append]at h hn |-
   by_cases hl:l'=[]
   ·subst hl
    simp only[a1a]at h hn |-;rw[Zd];exact Bt.inv n x (by simp at hn;omega) h.aoJ
   rw[acg hl];have:=h.alt hl;refine⟨by simp,?_,by simp⟩;intro a b e;simp only[TR.either.injEq]at e;obtain⟨rfl,rfl⟩:=e;exact⟨GT.of this.1,GT.of this.2⟩
theorem GT.both {a b:TR}(h:GT (.both a b)):GT a/\GT b:=by
 obtain⟨e,h1,h2,h3,h4,h5⟩:=h;exact(Bt.inv _ e (a0a _) ⟨h1,h2,h3,h4⟩).1 a b h5
theorem GT.either {a b:TR}(h:GT (.either a b)):GT a/\GT b:=by
 obtain⟨e,h1,h2,h3,h4,h5⟩:=h;exact(Bt.inv _ e (a0a _) ⟨h1,h2,h3,h4⟩).2.1 a b h5
theorem GT.often {a:TR} {lo:Nat}(h:GT (.often a lo hi)):GT a/\lo<=9/\(∀n,hi=some n->n<=9)/\(∀n,hi=some n->lo<=n):=by
 obtain⟨e,h1,h2,h3,h4,h5⟩:=h;exact(Bt.inv _ e (a0a _) ⟨h1,h2,h3,h4⟩).2.2 a lo hi h5
theorem GT.wc {t:TR}(h:GT t):WC (dA t):=by
 obtain⟨p,u,_,_,h1,_⟩:=h.bd;exact h1.1
theorem Bc.few(h:Bc x p u)(hp:p<=1000)(hu:u<=1000):nl x<9223372036854775807/\np x<=1000000000000:=by
 have h1:=h.sz;have h2:=ajl x;have h3:=US x;have h4:2*p*(u+1)<=2000*1001:=a0E (by omega) (by omega);omega
theorem Ld(a:NF):∀(j:Nat) (t:NF),dD a (j+1) t=dZ (aH a (dD a j t)) .one
 | 0,t=>rfl
 | j+1,t=>by
   have:=Ld a j (dZ (aH a t) .one);exact this
theorem zz(a:NF):∀(j:Nat) (t:NF),eQ a (j+1) t=aH a (eQ a j t)
 | 0,t=>rfl
 | j+1,t=>zz a j (aH a t)
theorem aeJ(lo:Nat)(hi:Option Nat):gG lo hi<=10:=by
 cases hi<;>simp only[gG]<;>(repeat' split)<;>omega
theorem GT.one {s:Nat}(h:GT (.one s)):s<2 ^ 256:=by
 have:=h.wc.1;simp only[dA]at this
 split at this
 ·rename_i h0;rw[h0];decide
 exact this.2
theorem Gf(hp:p<=40)(hu:u<=40)(h:Bc a p u)(hpu:1<=p->1<=u)(lo:Nat)(hi:Option Nat)(l7:lo<=20)(zV:∀n,hi=some n->n<=20/\lo<=n) :
 WC (jM a lo hi)/\nl (jM a lo hi)<9223372036854775807/\np (jM a lo hi)<=1000000000000:=by
 have hb:=aaD h hpu lo hi (λn e=>(zV n e).2);have ht:times lo hi<=21:=by
  cases hi with
  | none=>simp only[times];omega
  | some n=>have:=zV n rfl;simp only[times];omega
 have hm:p*times lo hi<=40*21:=a0E hp ht;have ho:=aeJ lo hi;exact⟨hb.1,hb.few (by omega) (by omega)⟩
theorem aeK(hp:p<=40)(hu:u<=40)(h:Bc a p u)(hpu:1<=p->1<=u)(j:Nat)(hj:j<=19) :
 nl (aH a (dD a j .one))<9223372036854775807:=by
 have e:aH a (dD a j .one)=jM a 1 (some (1+j)):=by
  simp only[jM,eQ];rw[show 1+j-1=j by omega]
 rw[e];exact(Gf hp hu h hpu 1 (some (1+j)) (by omega) (λn e=>by simp at e;omega)).2.1
def Pq(t:TR):Prop:=∀(w:World) (p:Nat),RN w p t->GT t->Calls Tryz.prog 55 #[aK p] w (xI w (dA t))
theorem alv:Pq .nil:=by
 intro w p h hg;have c0:=RK.c0 h;have N:=aj (uD w);unfold aK;clear h;go_enter Tryz.func55,Tryz.ntmps55
 go_wp2_with fail
 refine(N.o).mono ?_;rintro e w1 ⟨q,rfl,hp,hf⟩;have P:=aj hp;have F:=aj hf;clear hp hf N;unfold aK;go_wp2;go_ret;exact⟨q,rfl,P,F⟩
theorem alx(s:Nat):Pq (.one s):=by
 intro w p h hg;have c0:=RK.c0 h;have N:=aj (M0 p 1 s w (λi hi=>RK.cin h i _ (Iw s i hi)) hg.one);unfold aK;clear h;go_enter Tryz.func55,Tryz.ntmps55
 go_wp2_with fail
 refine(N.o).mono ?_;rintro e w1 ⟨q,rfl,hp,hf⟩;have P:=aj hp;have F:=aj hf;clear hp hf N;unfold aK;go_wp2;go_ret;exact⟨q,rfl,P,F⟩
theorem ajm(x y:TR)(ihx:Pq x)(ihy:Pq y):Pq (.both x y):=by
 intro w p h hg;obtain⟨a,b,hk,hx,hy⟩:=h;have c0:=hk.c0;obtain⟨ca,cb,_⟩:=hk.ends;obtain⟨gx,gy⟩:=hg.both;have A:=aj (ihx w a hx gx);obtain⟨p1,u1,h1,h2,h3,h4⟩:=hg.bd;have Na:=(h3.few (by omega) (by omega)).1;have HT:Z_ (∀(w':World) (q r:Nat),TN w' q (dA x)->TN w' r (dA y)->Calls Tryz.prog 70 #[aK q,aK r] w' (xI w' (dA (.both x y)))):=λw' q r hq hr=>wP (dA x) (dA y) w' q r hq hr gx.wc.1 gy.wc.1 Na
 have B:Z_ (∀w',aA [] w w'->Calls Tryz.prog 55 #[aK b] w' (xI w' (dA y))):=λw' hf=>ihy w' b (RN.aW (eU.nil hf) hy) gy
 have CB:Z_ (∀w',aA [] w w'->w'.cell? ⟨p,258,none⟩=some (pq (some b))):=λw' hf=>(hf.cell (p:=⟨p,258,none⟩) (dL cb) (by simp)).trans cb
 unfold pq at ca CB;unfold aK at A HT B |-;clear hk hx hy gx gy hg h3 h4 Na cb;go_enter Tryz.func55,Tryz.ntmps55
 go_wp2_with fail
 refine(A.o).mono ?_;rintro e w1 ⟨q,rfl,hp,hf⟩;have P:=aj hp;have F:=aj hf;have cb:=CB.o w1 hf;have B1:=aj (B.o w1 hf);clear hp hf A;unfold aK;go_wp2_with fail
 refine(B1.o).mono ?_;rintro e w2 ⟨r,rfl,hp,hf⟩;have T:=aj (HT.o w2 q r (P.o.aB hf) hp);have F2:=aj (F.o.trans hf);clear hp hf B1;unfold aK;go_wp2_with fail
 refine(T.o).mono ?_;rintro e w3 ⟨s,rfl,hp,hf⟩;have P3:=aj hp;have F3:=aj (F2.o.trans hf);clear hp hf T;unfold aK;go_wp2;go_ret;exact⟨s,rfl,P3,F3⟩
theorem aeL(x y:TR)(ihx:Pq x)(ihy:Pq y):Pq (.either x y):=by
 intro w p h hg;obtain⟨a,b,hk,hx,hy⟩:=h;have c0:=hk.c0;obtain⟨ca,cb,_⟩:=hk.ends;obtain⟨gx,gy⟩:=hg.either;have A:=aj (ihx w a hx gx);obtain⟨p1,u1,h1,h2,h3,h4⟩:=hg.bd;have Na:=h3.few (by omega) (by omega);have HT:Z_ (∀(w':World) (q r:Nat),TN w' q (dA x)->TN w' r (dA y)->Calls Tryz.prog 71 #[aK q,aK r] w' (xI w' (dA (.either x y)))):=λw' q r hq hr=>M5 (dA x) (dA y) w' q r hq hr gx.wc gy.wc Na.1 Na.2
 have B:Z_ (∀w',aA [] w w'->Calls Tryz.prog 55 #[aK b] w' (xI w' (dA y))):=λw' hf=>ihy w' b (RN.aW (eU.nil hf) hy) gy
 have CB:Z_ (∀w',aA [] w w'->w'.cell? ⟨p,258,none⟩=some (pq (some b))):=λw' hf=>(hf.cell (p:=⟨p,258,none⟩) (dL cb) (by simp)).trans cb
 unfold pq at ca CB;unfold aK at A HT B |-;clear hk hx hy gx gy hg h3 h4 Na cb;go_enter Tryz.func55,Tryz.ntmps55
 go_wp2_with fail
 refine(A.o).mono ?_;rintro e w1 ⟨q,rfl,hp,hf⟩;have P:=aj hp;have F:=aj hf;have cb:=CB.o w1 hf;have B1:=aj (B.o w1 hf);clear hp hf A;unfold aK;go_wp2_with fail
 refine(B1.o).mono ?_;rintro e w2 ⟨r,rfl,hp,hf⟩;have T:=aj (HT.o w2 q r (P.o.aB hf) hp);have F2:=aj (F.o.trans hf);clear hp hf B1;unfold aK;go_wp2_with fail
 refine(T.o).mono ?_;rintro e w3 ⟨s,rfl,hp,hf⟩;have P3:=aj hp;have F3:=aj (F2.o.trans hf);clear hp hf T;unfold aK;go_wp2;go_ret;exact⟨s,rfl,P3,F3⟩
theorem ajn(x:TR)(lo:Nat)(ih:Pq x):Pq (.often x lo none):=by
 intro w p h hg;obtain⟨a,hk,hx⟩:=h;have c0:=hk.c0;obtain⟨ca,_,cl0,ch0⟩:=hk.ends;obtain⟨gx,l7,_,_⟩:=hg.often;obtain⟨p1,u1,h1,h2,h3,h4⟩:=gx.bd;have A:=aj (ih w a hx gx);have wa:=gx.wc;obtain⟨T,hT⟩:∃T,iI (dA x)=T:=⟨_,rfl⟩;have hfs:nl T<9223372036854775807:=by rw[<-hT];exact(Gf h1 h2 h3 h4 0 none (by omega) (λn e=>by simp at e)).2.1
 have wT:WC T:=by rw[<-hT];exact wa.star
 have HM:Z_ (∀(w':World) (q:Nat),TN w' q (dA x)->Calls Tryz.prog 73 #[aK q] w' (xI w' T)):=λw' q hq=>by rw[<-hT];exact aex _ w' q hq (by rw[hT];exact hfs)
 have HR:Z_ (dA (.often x lo none)=eQ (dA x) lo T):=by show _=_;rw[<-hT];rfl
 have HT2:Z_ (∀j,j<lo->∀(w':World) (q r:Nat),TN w' q (dA x)->TN w' r (eQ (dA x) j T)->Calls Tryz.prog 70 #[aK q,aK r] w' (xI w' (eQ (dA x) (j+1) T))):=by
  intro j hj w' q r hq hr;rw[zz];refine wP _ _ w' q r hq hr wa.1 (Fg wa j T wT).1 ?_;rw[<-zz,<-hT];exact(Gf h1 h2 h3 h4 (j+1) none (by omega) (λn e=>by simp at e)).2.1
 have CW:Z_ (∀w',aA [] w w'->w'.cell? ⟨p,259,none⟩=some (.int .i64 lo)/\w'.cell? ⟨p,260,none⟩=some (.int .i64 (-1))):=λw' hf=>⟨(hf.cell (p:=⟨p,259,none⟩) (dL cl0) (by simp)).trans cl0,(hf.cell (p:=⟨p,260,none⟩) (dL ch0) (by simp)).trans ch0⟩
 unfold pq at ca;unfold aK at A HM |-;clear hk hx gx hg h3 h4 wa hT cl0 ch0 wT hfs;go_enter Tryz.func55,Tryz.ntmps55
 go_wp2_with fail
 refine(A.o).mono ?_;rintro e w1 ⟨q,rfl,hp,hf⟩;have P1:=aj hp;have F1:=aj hf;clear hp hf A;unfold aK;go_wp2_with fail
 refine(uD w1).mono ?_;rintro e w2 ⟨pe,rfl,hp,hf⟩;have P2:=aj (P1.o.aB hf);have F2:=aj (F1.o.trans hf);obtain⟨cl2,ch2⟩:=CW.o w2 F2;have M2:=aj (HM.o w2 q P2);clear hp hf P1 F1 HM;unfold aK;go_wp2_with fail
 refine(M2.o).mono ?_;rintro e w3 ⟨ps,rfl,hp,hf⟩;have PT:=aj hp;have FT:=aj (F2.o.trans hf);have Q:Z_ (∀w',aA [] w3 w'->TN w' q (dA x)):=λw' hf'=>(P2.o.aB hf).aB hf'
 obtain⟨cl3,ch3⟩:=CW.o w3 FT;clear hp M2 P2 F2;have F3b:=aj hf;clear hf;unfold aK;go_wp2_with fail
 go_loopg [8,9] 1 (λk v8 v9 wr=>k=1/\v8=.pointer (some ⟨ps,0,none⟩)/\v9=.int .i64 lo/\w3=wr)
 case atStart=>exact⟨rfl,rfl,rfl,rfl⟩
 case round =>
 obtain⟨hk1,rfl,rfl,rfl⟩:=hrel;have aO:decide ((lo:Int) < -1)=false:=a0f (by omega);go_wp2_with fail
 go_loopg [8,12] lo (λk v8 v12 wr=>∃(j pt:Nat),j+k=lo/\v12=.int .i64 j/\v8=.pointer (some ⟨pt,0,none⟩)/\TN wr pt (eQ (dA x) j T)/\aA [] w wr/\aA [] w3 wr)
 case atStart=>exact⟨0,_,by omega,rfl,rfl,PT,FT,aA.refl _ _⟩
 case round =>
  clear PT FT;obtain⟨j,pt,sI,rfl,rfl,hp,hf,bZ⟩:=hrel;have G:=aj bZ;clear bZ;have P:=aj hp;have F:=aj hf;obtain⟨cl,ch⟩:=CW.o wr hf;clear hp hf
  by_cases hj:j<lo
  ·have T2:=aj (HT2.o j hj wr q pt (Q.o wr G) P)
   unfold aK at T2;go_wp2_with fail
   refine(T2.o).mono ?_;rintro e w5 ⟨s,rfl,hp,hf⟩;have P5:=aj hp;have F5:=aj (F.o.trans hf);have G5:=aj (G.o.trans hf);clear hp hf T2;unfold aK;go_wp2;go_roundg (gk-1)
   case measure=>omega
   case rel=>exact⟨j+1,s,by omega,by go_num,rfl,P5,F5,G5⟩
  have ou:j=lo:=by omega
  subst ou;go_wp2;go_ret;rw[HR.o];exact⟨pt,rfl,P,F⟩
theorem ajo(x:TR)(lo n:Nat)(ih:Pq x):Pq (.often x lo (some n)):=by
 intro w p h hg;obtain⟨a,hk,hx⟩:=h;have c0:=hk.c0;obtain⟨ca,_,cl0,ch0⟩:=hk.ends;obtain⟨gx,l7,hn9,Js⟩:=hg.often;have hn9:=hn9 n rfl;have Js:=Js n rfl;obtain⟨p1,u1,h1,h2,h3,h4⟩:=gx.bd;have A:=aj (ih w a hx gx);have wa:=gx.wc;have HR:Z_ (dA (.often x lo (some n))=eQ (dA x) lo (dD (dA x) (n-lo) .one)):=rfl;have HT1:Z_ (∀j,j<n-lo->∀(w':World) (q r:Nat),TN w' q (dA x)->TN w' r (dD (dA x) j .one)->Calls Tryz.prog 70 #[aK q,aK r] w' (xI w' (aH (dA x) (dD (dA x) j .one)))):=by
  intro j hj w' q r hq hr;exact wP _ _ w' q r hq hr wa.1 (Fh wa j .one .one).1 (aeK h1 h2 h3 h4 j (by omega))
 have HO1:Z_ (∀j,j<n-lo->∀(w':World) (q r:Nat),TN w' q (aH (dA x) (dD (dA x) j .one))->TN w' r .one->Calls Tryz.prog 71 #[aK q,aK r] w' (xI w' (dD (dA x) (j+1) .one))):=by
  intro j hj w' q r hq hr;rw[Ld];have hf:=Gf h1 h2 h3 h4 0 (some (j+1)) (by omega) (λm e=>by simp at e;omega);have e:jM (dA x) 0 (some (j+1))=dZ (aH (dA x) (dD (dA x) j .one)) .one:=by rw[<-Ld];rfl
  rw[e]at hf;exact M5 _ _ w' q r hq hr (wa.then (Fh wa j .one .one)) .one hf.2.1 hf.2.2
 have HT2:Z_ (∀j,j<lo->∀(w':World) (q r:Nat),TN w' q (dA x)->TN w' r (eQ (dA x) j (dD (dA x) (n-lo) .one))->Calls Tryz.prog 70 #[aK q,aK r] w' (xI w' (eQ (dA x) (j+1) (dD (dA x) (n-lo) .one)))):=by
  intro j hj w' q r hq hr;rw[zz];refine wP _ _ w' q r hq hr wa.1 (Fg wa j _ (Fh wa _ .one .one)).1 ?_;rw[<-zz];have hf:=Gf h1 h2 h3 h4 (j+1) (some (j+1+(n-lo))) (by omega) (λm e=>by simp at e;omega);have e:jM (dA x) (j+1) (some (j+1+(n-lo)))=eQ (dA x) (j+1) (dD (dA x) (n-lo) .one):=by
   simp only[jM];rw[show j+1+(n-lo)-(j+1)=n-lo by omega]
  rw[e]at hf;exact hf.2.1
 have CW:Z_ (∀w',aA [] w w'->w'.cell? ⟨p,259,none⟩=some (.int .i64 lo)/\w'.cell? ⟨p,260,none⟩=some (.int .i64 n)):=λw' hf=>⟨(hf.cell (p:=⟨p,259,none⟩) (dL cl0) (by simp)).trans cl0,(hf.cell (p:=⟨p,260,none⟩) (dL ch0) (by simp)).trans ch0⟩
 unfold pq at ca;unfold aK at A |-;clear hk hx gx hg h3 h4 wa cl0 ch0;go_enter Tryz.func55,Tryz.ntmps55
 go_wp2_with fail
 refine(A.o).mono ?_;rintro e w1 ⟨q,rfl,hp,hf⟩;have P1:=aj hp;have F1:=aj hf;clear hp hf A;unfold aK;go_wp2_with fail
 refine(uD w1).mono ?_;rintro e w2 ⟨pe,rfl,hp,hf⟩;have P2:=aj (P1.o.aB hf);have F2:=aj (F1.o.trans hf);have E2:=aj hp;obtain⟨cl2,ch2⟩:=CW.o w2 F2;have Q:Z_ (∀w',aA [] w2 w'->TN w' q (dA x)):=λw' hf'=>P2.o.aB hf'
 clear hp hf P1 F1;unfold aK;go_wp2_with fail
 go_loopg [8,9] (n-lo) (λk v8 v9 wr=>∃(j c pt:Nat),j+k=n-lo/\c=lo+j/\v9=.int .i64 c/\v8=.pointer (some ⟨pt,0,none⟩)/\TN wr pt (dD (dA x) j .one)/\aA [] w wr/\aA [] w2 wr)
 case atStart=>exact⟨0,lo,pe,by omega,rfl,rfl,rfl,E2,F2,aA.refl _ _⟩
 case round =>
 clear E2 F2 P2;obtain⟨j,c,pt,sI,Bh,rfl,rfl,hp,hf,aS⟩:=hrel;have P:=aj hp;have F:=aj hf;have G:=aj aS;obtain⟨cl,ch⟩:=CW.o wr hf;clear hp hf aS
 by_cases hj:j<n-lo
 ·have Pg:c<n:=by omega
  have T1:=aj (HT1.o j hj wr q pt (Q.o wr G) P);have Hcc:=aj Bh;clear Bh;unfold aK at T1;go_wp2_with fail
  refine(T1.o).mono ?_;rintro e w3 ⟨s3,rfl,hp,hf⟩;have P3:=aj hp;have F3:=aj (F.o.trans hf);have G3:=aj (G.o.trans hf);clear hp hf T1;unfold aK;go_wp2_with fail
  refine(uD w3).mono ?_;rintro e w4 ⟨s4,rfl,hp,hf⟩;have O4:=aj (HO1.o j hj w4 s3 s4 (P3.o.aB hf) hp);have F4:=aj (F3.o.trans hf);have G4:=aj (G3.o.trans hf);clear hp hf;unfold aK at O4 |-;go_wp2_with fail
  refine(O4.o).mono ?_;rintro e w5 ⟨s5,rfl,hp,hf⟩;have P5:=aj hp;have F5:=aj (F4.o.trans hf);have G5:=aj (G4.o.trans hf);clear hp hf O4;unfold aK;go_wp2;go_roundg (gk-1)
  case measure=>omega
  case rel=>exact⟨j+1,c+1,s5,by omega,by have:=Hcc.o;omega,by go_num,rfl,P5,F5,G5⟩
 have ou:j=n-lo:=by omega
 have Pg:¬ c<n:=by omega
 have aqo:decide ((c:Int)<(n:Int))=false:=a0f (by omega);rw[ou]at P;clear Bh ou hj sI;go_wp2_with fail
 go_loopg [8,12] lo (λk v8 v12 wr=>∃(j pt:Nat),j+k=lo/\v12=.int .i64 j/\v8=.pointer (some ⟨pt,0,none⟩)/\TN wr pt (eQ (dA x) j (dD (dA x) (n-lo) .one))/\aA [] w wr/\aA [] w2 wr)
 case atStart=>exact⟨0,_,by omega,rfl,rfl,P,F,G⟩
 case round =>
  clear P F G cl ch;obtain⟨j,pt,sI,rfl,rfl,hp,hf,aS⟩:=hrel;have P:=aj hp;have F:=aj hf;have G:=aj aS;obtain⟨cl,ch⟩:=CW.o wr hf;clear hp hf aS
  by_cases hj:j<lo
  ·have T2:=aj (HT2.o j hj wr q pt (Q.o wr G) P)
   unfold aK at T2;go_wp2_with fail
   refine(T2.o).mono ?_;rintro e w5 ⟨s,rfl,hp,hf⟩;have P5:=aj hp;have F5:=aj (F.o.trans hf);have G5:=aj (G.o.trans hf);clear hp hf T2;unfold aK;go_wp2;go_roundg (gk-1)
   case measure=>omega
   case rel=>exact⟨j+1,s,by omega,by go_num,rfl,P5,F5,G5⟩
  have ou:j=lo:=by omega
  subst ou;go_wp2;go_ret;rw[HR.o];exact⟨pt,rfl,P,F⟩
theorem oO:∀t:TR,Pq t
 | .nil=>alv
 | .one s=>alx s
 | .both x y=>ajm x y (oO x) (oO y)
 | .either x y=>aeL x y (oO x) (oO y)
 | .often x lo none=>ajn x lo (oO x)
 | .often x lo (some n)=>ajo x lo n (oO x)
set_option linter.unusedVariables false
set_option linter.unusedSimpArgs false
theorem II(F:α->NF)(f:NF->Nat)(c:α->Nat):∀l:List α,(∀a∈l,((parts (F a)).map f).sum<=c a)->(((l.map F).flatMap parts).map f).sum<=(l.map c).sum
 | [],_=>by simp
 | a::r,h=>by
   have h1:=h a (by simp);have h2:=II F f c r (λx hx=>h x (by simp[hx]));simp only[a0A,a0Z,a0T,a2c,a0W];omega
theorem Cv(e:α->Nat)(k:Nat):∀l:List α,(l.map λa=>e a*k).sum=(l.map e).sum*k
 | []=>by simp
 | a::r=>by simp only[a0A,a0W,a0r,Cv e k r]
theorem sum_add(e f:α->Nat):∀l:List α,(l.map λa=>e a+f a).sum=(l.map e).sum+(l.map f).sum
 | []=>by simp
 | a::r=>by simp only[a0A,a0W,sum_add e f r];omega
theorem KP.bI {l:List α} {F:α->NF} {t:α->Nat} {C E e:α->Nat->Nat}(hw:∀a∈l,wf (F a))(h:∀a∈l,KP (F a) (t a) (C a) (E a) (e a)) :
 KP (bI (l.map F)) (l.map t).sum (λn=>(l.map λa=>C a n).sum) (λn=>(l.map λa=>E a n).sum) (λn=>(l.map λa=>e a n).sum):=by
 have L8:∀x∈l.map F,wf x:=λx hx=>by obtain⟨a,ha,rfl⟩:=a0s.1 hx;exact hw a ha
 refine⟨?_,λn=>?_,λk n hk=>?_⟩
 ·exact a0e (Al L8 pn 514 (λy hy=>by simp[pn,hy])) (II F pn t l λa ha=>(h a ha).t)
 ·exact a0e (Al L8 (pc 0 n) 514 (λy hy=>by simp[pc,hy])) (II F _ _ l λa ha=>(h a ha).c n)
 refine a0e (Al L8 (pc k n) (514+k) (λy hy=>by simp[pc,hy])) (a0e (II F _ (λa=>E a n+e a n*k) l λa ha=>(h a ha).e k n hk) ?_);rw[sum_add,Cv];exact a0a _
theorem KP.or{Y:NF} {tX tY:Nat} {CX EX eX CY EY eY:Nat->Nat}(wX:wf X)(wY:wf Y)(hX:KP X tX CX EX eX)(hY:KP Y tY CY EY eY) :
 KP (dZ X Y) (tX+tY) (λn=>CX n+CY n) (λn=>EX n+EY n) (λn=>eX n+eY n):=by
 have h:=KP.bI (l:=[true,false]) (F:=λb=>if b then X else Y) (t:=λb=>if b then tX else tY) (C:=λb=>if b then CX else CY) (E:=λb=>if b then EX else EY) (e:=λb=>if b then eX else eY)
  (by intro a _;cases a;exact wY;exact wX) (by intro a _;cases a;exact hY;exact hX)
 have e1:dZ X Y=Go.Proofs.YtgbdcmpmmkfbhaaGreat.bI ([true,false].map λb=>if b then X else Y):=rfl;rw[e1];refine⟨by simpa using h.t,λn=>by simpa using h.c n,λk n hk=>by simpa using h.e k n hk⟩
theorem KP.one:KP .one 2 (λ_=>0) (λ_=>0) (λ_=>0):=by
 refine⟨by simp[parts,pn,di,nl,name],λn=>by simp[parts,pc,di,oG,hG],λk n _=>by simp[parts,pc,di,oG,hG]⟩
theorem KP.set(s:Nat):KP (.set s) 514 (λ_=>514) (λ_=>514) (λ_=>1):=by
 refine⟨by simp[parts,pn,di],λn=>by simp[parts,pc,di],λk n _=>by simp[parts,pc,di]⟩
theorem KP.of {C E e:Nat->Nat}(h:xH X t C E e)(hs:fB X=true\/∃a,X=.star a):KP X (t+1) C E e:=by
 have hp:parts X=[X]/\di X=false:=by
  rcases hs with hs|⟨a,rfl⟩
  ·cases X<;>simp[fB]at hs;exact⟨rfl,rfl⟩
  exact⟨rfl,rfl⟩
 have ht:=h.t;refine⟨?_,λn=>?_,λk n hk=>?_⟩
 ·rw[hp.1];simp[pn,hp.2];omega
 ·rw[hp.1];simpa[pc,hp.2] using h.c n
 rw[hp.1];simpa[pc,hp.2] using h.e k n hk
theorem KP.mono{t':Nat} {C E e C' E' e':Nat->Nat}(h:KP X t C E e)(ht:t<=t')(hC:∀n,C n<=C' n)(hE:∀n,E n<=E' n)(he:∀n,e n<=e' n):KP X t' C' E' e' :=
 ⟨a0e h.t ht,λn=>a0e (h.c n) (hC n),λk n hk=>a0e (h.e k n hk) (a2Z (hE n) (a0w k (he n)))⟩
/-! The measure of words: H k n. -/
def hh:Nat->Nat->Nat
 | 0,_=>1
 | k+1,n=>hh k n+sumTo (hh k) n
theorem Tv:∀k n,1<=hh k n
 | 0,_=>a0a _
 | k+1,n=>by have:=Tv k n;simp only[hh];omega
theorem acH(f:Nat->Nat):∀{n},1<=n->f n<=sumTo f n
 | 0,h=>by omega
 | n+1,_=>by simp only[sumTo];omega
theorem aly(k:Nat)(hn:1<=n):2*hh k n<=hh (k+1) n:=by
 have:=acH (hh k) hn;simp only[hh];omega
theorem Nb(k:Nat)(hn:1<=n):∀j,2 ^ j*hh k n<=hh (k+j) n
 | 0=>by simp
 | j+1=>by
   have h1:=Nb k hn j;have h2:=aly (k+j) hn;rw[Nat.pow_succ,show k+(j+1)=k+j+1 by omega,Nat.mul_right_comm];omega
theorem alz(n:Nat):hh 1 n=n+1:=by
 have:=mr 1 n;simp only[hh];omega
theorem aaW{k':Nat}(hn:1<=n)(h:k<=k'):hh k n<=hh k' n:=by
 obtain⟨j,rfl⟩:∃j,k'=k+j:=⟨k'-k,by omega⟩;have h1:=Nb k hn j;have h2:1<=2 ^ j:=Nat.one_le_two_pow;have:=a0w (hh k n) h2;omega
theorem alA {C:Nat->Nat}{a:Nat}(h:∀n,1<=n->C n<=a*hh k n)(n:Nat):sumTo C n+a*hh k n<=a*hh (k+1) n:=by
 have h1:sumTo C n<=sumTo (λj=>a*hh k j) n:=oD λj h1 _=>h j h1
 have h2:∀n,sumTo (λj=>a*hh k j) n=a*sumTo (hh k) n:=by
  intro n
  induction n with
  | zero=>simp[sumTo]
  | succ n ih=>simp only[sumTo,ih,a0L]
 rw[h2]at h1;simp only[hh,a0L];omega
/-! aoK of places: at most anB. -/
def amf:LN:=[0,1,4,10,18,28,40,54,72,100,112,123,180,193,216,280,324,341,400,419,504,540,562,586,720,784,810,1000,1028,1058,1120,1151,1296,1329,1364,1512,1800,1837,1876,1930,2016]
def dH(p:Nat):Nat:=amf.getD p 0
theorem acI(hp:1<=p)(hq:1<=q)(h:p+q<=40):dH p+dH q+p*q<=dH (p+q):=by
 have:((List.range 41).all λp=>(List.range 41).all λq=>!(decide (p+q<=40))||decide (dH p+dH q+p*q<=dH (p+q)))=true:=by decide +kernel
 have h1:=a1e.1 (a1e.1 this p (by simp;omega)) q (by simp;omega);simp only[a0Y,a1m,a1i,a0S]at h1;rcases h1 with h1|h1
 ·exact absurd h h1
 exact h1
theorem ajp(hp:1<=p)(hN:2<=N)(Yn:N<=10)(h:N*p<=40):(N*N+N-2)*dH p<=dH (N*p):=by
 have:((List.range 41).all λp=>(List.range 11).all λN=>!(decide (2<=N/\N*p<=40))||decide ((N*N+N-2)*dH p<=dH (N*p)))=true:=by decide +kernel
 have wu:p<=40:=a0e (a1p p (by omega)) h;have h1:=a1e.1 (a1e.1 this p (by simp;omega)) N (by simp;omega);simp only[a0Y,a1m,a1i,a0S]at h1;rcases h1 with h1|h1
 ·exact absurd ⟨hN,h⟩ h1
 exact h1
theorem Tx(h:p<=40):p*p<=dH p:=by
 have:((List.range 41).all λp=>decide (p*p<=dH p))=true:=by decide +kernel
 have h1:=a1e.1 this p (by simp;omega);simpa using h1
theorem anC:hh 10 40=47573905428:=by decide +kernel
set_option linter.unusedVariables false
set_option linter.unusedSimpArgs false
def lg(p:Nat):Nat:=Nat.log2 p
theorem ajq(h1:1<=p)(h:p<=40):2 ^ lg p<=p/\p<2 ^ (lg p+1):=by
 have:((List.range 41).all λp=>!(decide (1<=p))||decide (2 ^ lg p<=p/\p<2 ^ (lg p+1)))=true:=by decide +kernel
 have h2:=a1e.1 this p (by simp;omega);simp only[a0Y,a1m,a1i,a0S]at h2;rcases h2 with h2|h2
 ·exact absurd h1 h2
 exact h2
theorem aaX(h:p+q<=40):lg p<=lg (p+q):=by
 have:((List.range 41).all λp=>(List.range 41).all λq=>!(decide (p+q<=40))||decide (lg p<=lg (p+q)))=true:=by decide +kernel
 have h1:=a1e.1 (a1e.1 this p (by simp;omega)) q (by simp;omega);simp only[a0Y,a1m,a1i,a0S]at h1;rcases h1 with h1|h1
 ·exact absurd h h1
 exact h1
theorem aaY(hp:1<=p)(hN:2<=N)(h:N*p<=40):lg p+1<=lg (N*p):=by
 have:((List.range 41).all λp=>(List.range 41).all λN=>!(decide (1<=p/\2<=N/\N*p<=40))||decide (lg p+1<=lg (N*p)))=true:=by decide +kernel
 have wu:p<=40:=a0e (a1p p (by omega)) h;have aqp:N<=40:=a0e (a2u N (by omega)) h;have h1:=a1e.1 (a1e.1 this p (by simp;omega)) N (by simp;omega);simp only[a0Y,a1m,a1i,a0S]at h1;rcases h1 with h1|h1
 ·exact absurd ⟨hp,hN,h⟩ h1
 exact h1
def L1(p b n:Nat):Nat:=if b+lg p=0 then 1 else n+1
theorem D7(p b n:Nat):1<=L1 p b n:=by unfold L1;split<;>omega
theorem aeM(p b:Nat)(hn:1<=n):L1 p b n*2 ^ lg p<=2*hh (b+lg p) n:=by
 unfold L1
 split
 ·rename_i h
  have:lg p=0:=by omega
  have h1:=Tv (b+lg p) n;rw[this]at h1 |-;simp at h1 |-;omega
 rename_i h
 obtain⟨j,hj⟩:∃j,b+lg p=1+j:=⟨b+lg p-1,by omega⟩;have h1:=Nb 1 hn j;rw[alz]at h1;rw[hj];have h2:2 ^ lg p<=2*2 ^ j:=by
  rw[a0V,<-Nat.pow_succ];exact a1r (by omega) (by omega)
 calc (n+1)*2 ^ lg p<=(n+1)*(2*2 ^ j):=a0m _ h2
  _=2*(2 ^ j*(n+1)):=by rw[a0V (n+1),a0O]
  _<=2*hh (1+j) n:=a0m _ h1
def Rb(p b w n:Nat):Nat:=964*w*dH p*hh (b+lg p) n
theorem tails{y:Nat}(h1:1<=p)(h:p<=40)(hn:1<=n)(ht:t<=964*p) {e:Nat}(he:e<=p*y*L1 p b n):e*t*2 ^ lg p<=Rb p b (2*y) n:=by
 have h2:=aeM p b hn;have h3:=Tx h
 calc e*t*2 ^ lg p<=(p*y*L1 p b n)*(964*p)*2 ^ lg p:=a0w _ (a0E he ht)
  _=964*y*(p*p)*(L1 p b n*2 ^ lg p):=by simp only[a0V,a1A,a0O]
  _<=964*y*dH p*(2*hh (b+lg p) n):=a0E (a0m _ h3) h2
  _=Rb p b (2*y) n:=by unfold Rb;simp only[a0V,a1A,a0O]
theorem D8(p b w v n:Nat):Rb p b w n+Rb p b v n=Rb p b (w+v) n:=by unfold Rb;simp only[a0L,a0r]
theorem sK{w v:Nat}(h:w<=v):Rb p b w n<=Rb p b v n:=by
 unfold Rb;exact a0w _ (a0w _ (a0m _ h))
structure Pt(X:NF)(p b m w:Nat)(t:Nat)(C E e:Nat->Nat):Prop where
 kp:KP X t C E e
 ht:t+10<=p*(524+10*(m+b))
 he:∀n,e n+(if iU X then 1+(if oL X then n else 0) else 0)<=p*(1+m+b)*L1 p b n
 hC:∀n,1<=n->C n*2 ^ lg p<=Rb p b w n
 hE:∀n,1<=n->(t+3+E n+(if oL X then sumTo (λj=>C j+519) n else 0))*2 ^ lg p<=Rb p b w n
 br:oL X=true->1<=b+lg p
theorem Pt.set(s:Nat):Pt (.set s) 1 0 0 2 514 (λ_=>514) (λ_=>514) (λ_=>1):=by
 refine⟨KP.set s,by omega,λn=>?_,λn hn=>?_,λn hn=>?_,λh=>by simp[oL]at h⟩
 ·have:=D7 1 0 n;simp[iU];omega
 ·have h1:lg 1=0:=by decide +kernel
  have h2:dH 1=1:=by decide +kernel
  unfold Rb;rw[h1,h2];simp[hh]
 have h1:lg 1=0:=by decide +kernel
 have h2:dH 1=1:=by decide +kernel
 unfold Rb;rw[h1,h2];simp[hh,oL]
theorem Pt.star{m w:Nat} {C E e:Nat->Nat}(h:Pt X p b m w t C E e)(hp:1<=p)(bR:p<=40)(hm:m+b<=43)(hz:X≠.zero) :
 ∃E' e',Pt (.star X) p b (m+1) (w+2*(m+b)+8) (t+4) E' E' e':=by
 have hb:=h.br;have hK:∃tk,tk<=t+2/\xH X tk C (λn=>t+3+E n+(if oL X then if fB X then 0 else sumTo (λj=>C j+519) n else 0)) (λn=>e n+(if iU X then 1+(if oL X then n else 0) else 0)):=by
  cases hs:iU X
  ·refine⟨t,by omega,(h.kp.plain hs hz).mono (a0a _) (λ_=>a0a _) (λn=>by omega) (λn=>by simp)⟩
  cases X with
  | sum l =>
    refine⟨t+2,by omega,h.kp.sum.mono (a0a _) (λ_=>a0a _) (λn=>?_) (λn=>?_)⟩
    ·simp only[oL,fB,a0n,a0G];exact a0a _
    show 1+e n+(if EI l=true then n else 0)<=e n+(1+(if EI l=true then n else 0));omega
  | zero=>simp[iU]at hs
  | one=>simp[iU]at hs
  | set s=>simp[iU]at hs
  | pair a c=>simp[iU]at hs
  | star a=>simp[iU]at hs
 obtain⟨tk,Ym,hK⟩:=hK;have hS:=hK.star
 let F:Nat->Nat:=λn=>t+3+E n+(if oL X then sumTo (λj=>C j+519) n else 0)
 let y:Nat->Nat:=λn=>e n+(if iU X then 1+(if oL X then n else 0) else 0)
 refine⟨λn=>F n+(y n+1+(if fB X then n else 0))*(t+6),λn=>1+y n+(if fB X then n else 0),?_⟩;have hy:∀n,1+y n+(if fB X then n else 0)<=p*(1+(m+1)+b)*L1 p b n:=by
  intro n;have h1:=h.he n;have h2:1+(if fB X then n else 0)<=p*L1 p b n:=by
   have h3:L1 p b n<=p*L1 p b n:=a1p _ hp;refine a0e ?_ h3
   by_cases hx:fB X=true
   ·have:oL X=true:=by cases X<;>simp[fB]at hx;rfl
    have:=hb this;simp only[hx,a0C];unfold L1;rw[a0g (by omega)];omega
   simp only[hx,a0n,a0G];exact D7 p b n
  have e1:p*(1+(m+1)+b)*L1 p b n=p*(1+m+b)*L1 p b n+p*L1 p b n:=by
   rw[show 1+(m+1)+b=(1+m+b)+1 by omega,a0L,a0r,a1c]
  rw[e1];show 1+(e n+(if iU X then 1+(if oL X then n else 0) else 0))+(if fB X then n else 0)<=_;omega
 have hEb:∀n,tk+2+(t+3+E n+(if oL X then if fB X then 0 else sumTo (λj=>C j+519) n else 0))+(y n)*(tk+4)+(if fB X then sumTo (λj=>C j+(tk+523)) n else 0)<=F n+(y n+1+(if fB X then n else 0))*(t+6):=by
  intro n;have h1:y n*(tk+4)<=y n*(t+6):=a0m _ (by omega)
  by_cases hx:fB X=true
  ·have Be:oL X=true:=by cases X<;>simp[fB]at hx;rfl
   have h2:sumTo (λj=>C j+(tk+523)) n=sumTo (λj=>C j+519) n+n*(tk+4):=by
    rw[<-mr (tk+4) n,<-wJ];congr 1;funext j;omega
   have h3:n*(tk+4)<=n*(t+6):=a0m _ (by omega);simp only[F,hx,Be,a0C,h2,a0r];omega
  simp only[F,hx,a0n,a0G,a0r]
  split<;>omega
 have hEB:∀n,1<=n->(t+4+3+(F n+(y n+1+(if fB X then n else 0))*(t+6)))*2 ^ lg p<=Rb p b (w+2*(m+b)+8) n:=by
  intro n hn;have ht:=h.ht;have aqr:t+10<=964*p:=by
   have:p*(524+10*(m+b))<=p*964:=a0m _ (by omega);omega
  have h1:=h.hE n hn;have h2:=tails (y:=1+(m+1)+b) (e:=1+y n+(if fB X then n else 0)) hp bR hn (by omega:t+6<=964*p) (hy n);have h3:=tails (y:=1) (e:=1) (b:=b) hp bR hn (by omega:t+7<=964*p) (by have:=D7 p b n;have:1*1<=p*L1 p b n:=a0E hp this;simpa using this);have e1:(t+4+3+(F n+(y n+1+(if fB X then n else 0))*(t+6)))*2 ^ lg p=F n*2 ^ lg p+(1+y n+(if fB X then n else 0))*(t+6)*2 ^ lg p+1*(t+7)*2 ^ lg p:=by
   rw[<-a0r,<-a0r,a2m (y n) 1];congr 1;omega
  rw[e1];have e2:Rb p b (w+2*(m+b)+8) n=Rb p b w n+Rb p b (2*(1+(m+1)+b)) n+Rb p b (2*1) n+Rb p b 2 n:=by
   rw[D8,D8,D8];congr 1;omega
  rw[e2];have h4:F n*2 ^ lg p<=Rb p b w n:=h1;omega
 refine⟨?_,?_,?_,?_,?_,?_⟩
 ·refine(KP.of hS (.inr ⟨X,rfl⟩)).mono (by omega) (λn=>hEb n) (λn=>hEb n) (λn=>?_)
  exact a0a _
 ·have:=h.ht
  rw[show 524+10*(m+1+b)=(524+10*(m+b))+10 by omega,a0L];have:10<=p*10:=by omega
  omega
 ·intro n;simp only[iU,a0n,a0G,a1G];exact hy n
 ·intro n hn
  refine a0e (a0w _ ?_) (hEB n hn);omega
 ·intro n hn
  simp only[oL,a0n,a0G,a1G];exact hEB n hn
 intro Be;simp[oL]at Be
end Go.Proofs.YtgbdcmpmmkfbhaaGreat
