import Derived.Test.YtgbdcmpmmkfbhaaGreatJ10
import Derived.Test.YtgbdcmpmmkfbhaaGreatJ3
import Derived.Test.YtgbdcmpmmkfbhaaGreatJ1
set_option linter.unusedVariables false
set_option linter.unusedSimpArgs false
set_option linter.unnecessarySimpa false
set_option maxRecDepth 100000
set_option maxHeartbeats 4000000
namespace Go.Proofs.YtgbdcmpmmkfbhaaGreat
variable {L S ps:LN} {w w' x y z:World} {v gT:Value} {b cap eb g j n q s:Nat} {e:Ending} {l l' t:LB} {hi k:Int} {ops:Array Oper} {rest:List Oper} {a:Act} {acc:List RX}
open Go.RowKit
theorem ac3(s f:Nat):∀k,ny s f k=sG s f k
 | 0=>rfl
 | k+1=>by simp only[ny,sG,ac3 s f k]
theorem BL.aB {base:Nat}(h:BL base w v L)(f:aA S w w')(hS:∀k,k∈S->k<base):BL base w' v L:=ek h f hS
theorem aA.fresh(h:aA S x y)(k:aA [n] y z)(hn:x.heap.size<=n):aA S x z :=
 ⟨k.os.trans h.os,k.tape.trans h.tape,k.output.trans h.output,a0e h.size k.size,
  λi hi hS=>(k.block i (a0x hi h.size) (by simp;omega)).trans (h.block i hi hS)⟩
theorem ahn {base:Nat} {e:TypeId} {size:Nat} {xs:List Value}(h:w.ownsRow base e size v n xs)(f:aA S w w')
 (hS:∀k,k∈S->v.ownBlock≠some k):w'.ownsRow base e size v n xs:=by
 refine⟨h.1,?_⟩;rcases h.2 with hn|⟨g,cap,cur,rfl,hb,mP,rest⟩
 ·exact .inl hn
 refine .inr ⟨g,cap,cur,rfl,hb,?_,rest⟩;rw[f.block g (a0d.1 mP).1 (λhm=>hS g hm (by simp[Value.ownBlock]))];exact mP
def SP(base b:Nat)(t:LB)(S:LN)(w:World)(p:Option (Nat × LB))(e:Ending)(w':World):Prop :=
 match p with
 | some (s,r)=>∃(eb:Nat) (gT:Value),e=.returned (.pointer (some ⟨eb,0,none⟩))/\w.heap.size<=eb/\XB w' eb s/\PA w' b t r gT/\BL base w' gT (S++[s])/\FP base b w w'
 | none=>e=.returned (.pointer none)/\(∃l' gT,PA w' b t l' gT)/\FP base b w w'
theorem Wu(base b:Nat)(t l:LB)(vs:Value)(S:LN)(w:World)(h:PA w b t l vs)(hs:BL base w vs S)(hb:b<base)(hz:base<=w.heap.size)(hS:S.length<=1000000) :
 Calls Tryz.prog 137 #[.pointer (some ⟨b,0,none⟩)] w λe w'=>SP base b t S w (lV l) e w':=by
 have H:=aj h;have HS:=aj hs;have jO:b<w.heap.size:=by omega
 clear h hs;go_enter Tryz.func137,Tryz.ntmps137
 go_wp2_with fail
 refine(iY b t l vs 94 w H).mono ?_;rintro e w1 ⟨rfl,iw,aZ⟩;have P1:=aj iw;have F1:=aj aZ;have z1:=aZ.size;clear iw aZ;obtain⟨l1,sH⟩:∃l1,l1=rs 94 l:=⟨_,rfl⟩;have Hcl:Z_ (lV l=match ed (l.length+1) 0 l1 with | none=>none|some (s,r)=>some (if tk 94 l then s ^^^ eT else s,r)):=by
  show _=_;unfold lV;rw[<-iM,sH];cases hk:tk 94 l
  ·rw[uI hk]
   simp only[a0n,a0G];cases ed (l.length+1) 0 l with
   | none=>rfl
   | some x=>obtain⟨s,r⟩:=x;rfl
  rw[sM hk];rfl
 have hll:l1.length<=l.length:=by rw[sH];unfold rs;split<;>simp
 rw[<-sH]at P1;clear sH;generalize tk 94 l=ot at *;go_wp2_with fail
 go_loopg [5] (l.length+2) (λk ve wr=>∃(s':Nat) (l':LB) (en:Bool),ve=.bool en/\SB wr w1.heap.size (wd s' 0) (wd s' 1) (wd s' 2) (wd s' 3)/\PA wr b t l' vs/\aA [b] w wr/\s'<2 ^ 256/\w1.heap.size<wr.heap.size /\
  (if en then ed (l.length+1) 0 l1=some (s',l') else (∃kk,k=kk+1/\l'.length+1<=kk/\ed kk s' l'=ed (l.length+1) 0 l1)))
 case atStart =>
  refine⟨0,l1,false,rfl,?_,P1.o.aB (S:=[]) ((aA.refl _ _).alloc _) (by simp),F1.o.alloc _,by decide,by simp,?_⟩
  ·have:wd 0 0=0/\wd 0 1=0/\wd 0 2=0/\wd 0 3=0:=by decide
   rw[this.1,this.2.1,this.2.2.1,this.2.2.2];exact SB.new rfl
  simp only[a0n,a0G];exact⟨_,rfl,by omega,rfl⟩
 case round =>
  obtain⟨s',l',en,rfl,hsb,mJ,bU,Ya,fM,hen⟩:=hrel;have F2:=aj bU;clear bU;cases en
  case false =>
   simp only[a0n,a0G]at hen;obtain⟨kk,hk1,ME,Py⟩:=hen;obtain⟨k2,rfl⟩:∃k2,kk=k2+1:=⟨kk-1,by omega⟩;have bN:Z_ (ed (l.length+1) 0 l1=match qJ l' with | none=>none|some ((a,b),r)=>if bf 93 r then some (addRange s' a b,r.tail) else ed k2 (addRange s' a b) r):=by
    show _=_;rw[<-Py];rfl
   have HSB:=aj hsb;have HPA:=aj mJ;clear Py hsb mJ;go_wp2_with fail
   refine(Yq b t l' vs wr HPA).mono ?_;rintro e w3 ⟨a,c,ok,l3,rfl,mR,bZ,hi3⟩;have P3:=aj mR;have F3:=aj (F2.o.trans bZ);have B3:=aj (HSB.o.aB bZ (by simp;omega));have z3:=bZ.size;clear mR bZ HSB;cases hit:qJ l' with
   | none =>
     rw[hit]at hi3 bN;obtain rfl:ok=false:=hi3;have Yo:Z_ (lV l=none):=by show _=_;rw[Hcl.o,bN.o]
     go_wp2;go_ret;rw[Yo.o];exact⟨rfl,⟨_,_,P3⟩,.Np F3⟩
   | some x =>
     obtain⟨⟨x,y⟩,r⟩:=x;have hlen:=zg hit;rw[hit]at hi3 bN;obtain⟨rfl,rfl,rfl,rfl⟩:a=x/\c=y/\ok=true/\l3=r:=hi3;have ha8:=a.toNat_lt;have Yc:=c.toNat_lt;have aoW:Z_ (ny s' a.toNat (c.toNat+1-a.toNat)=addRange s' a c):=by show _=_;rw[ac3];rfl
     have lL:=Mj Ya a c;go_wp2_with fail
     refine(Wq w1.heap.size s' a.toNat c.toNat w3 (by omega) (by omega) B3).mono ?_;rintro e w4 ⟨rfl,EN,nR⟩;rw[aoW.o]at EN;have B4:=aj EN;have P4:=aj (P3.o.aB nR (by simp;omega));have F4:=aj (F3.o.fresh nR z1);have z4:=nR.size;clear EN nR;generalize addRange s' a c=s4 at *;go_wp2_with fail
     refine(iY b t l3 vs 93 w4 P4).mono ?_;rintro e w5 ⟨rfl,Mx,wN⟩;have B5:=aj (B4.o.aB wN (by simp;omega));have F5:=aj (F4.o.trans wN);have z5:=wN.size;clear wN;have SV:(rs 93 l3).length<=l3.length:=by unfold rs;split<;>simp
     cases k5:tk 93 l3
     ·have dM:ed (l.length+1) 0 l1=ed k2 s4 l3:=by
       rw[bN.o];simp only[<-iM,k5];rfl
      rw[uI k5]at Mx;have P5:=aj Mx;have Hs5:=aj dM;clear Mx dM;go_wp2;go_roundg (gk-1)
      case measure=>omega
      case rel =>
       refine⟨s4,l3,false,rfl,B5,P5,F5,lL,by omega,?_⟩;simp only[a0n,a0G];exact⟨k2,by omega,by omega,Hs5.o.symm⟩
     have dM:ed (l.length+1) 0 l1=some (s4,l3.tail):=by
      rw[bN.o];simp only[<-iM,k5];rfl
     rw[sM k5]at Mx;have P5:=aj Mx;have Hs5:=aj dM;clear Mx dM;go_wp2;go_roundg (gk-1)
     case measure=>omega
     case rel =>
      refine⟨s4,l3.tail,true,rfl,B5,P5,F5,lL,by omega,?_⟩;simp only[a0C];exact Hs5
  case true =>
   simp only[a0C]at hen;have Yo:Z_ (lV l=some (if ot then s' ^^^ eT else s',l')):=by show _=_;rw[Hcl.o,hen]
   have hS2:S.length<=1048576:=by omega
   have VP:=aj (HS.o.aB F2.o (by simp;omega));have gF:base<=wr.heap.size:=by omega
   have HPA:=aj mJ;have HSB:=aj hsb;clear hen mJ;obtain⟨q0,q1,q2,q3⟩:=hsb.cells;have qf:=hsb.fz;clear hsb;cases ot
   ·go_wp2_with fail
    refine(zD base b t l' vs S s' wr HPA.o VP.o hb gF hS2).mono ?_;rintro e w6 ⟨eb,gT,rfl,he6,hx6,UK,hl6,Bi⟩;have X6:=aj hx6;have P6:=aj UK;have L6:=aj hl6;have G6:=aj ((FP.Np (base:=base) F2).trans Bi);clear hx6 UK hl6 Bi;go_wp2;go_ret;rw[Yo.o];exact⟨eb,gT,rfl,by omega,X6,P6,L6,G6⟩
   have HQ:Z_ (∀(w:World),Calls Tryz.prog 139 #[.agg #[.int .u64 (wd s' 0),.int .u64 (wd s' 1),.int .u64 (wd s' 2),.int .u64 (wd s' 3)]] w λe w'=>e=.returned (.agg #[.int .u64 (wd (s' ^^^ eT) 0),.int .u64 (wd (s' ^^^ eT) 1),.int .u64 (wd (s' ^^^ eT) 2),.int .u64 (wd (s' ^^^ eT) 3)])/\aA [] w w'):=λw=>Q9 s' w
   go_wp2_with fail
   refine(HQ.o wr).mono ?_;rintro e w5 ⟨rfl,wN⟩;have B5:=aj (HSB.o.aB wN (by simp));have P5:=aj (HPA.o.aB wN (by simp));have S5:=aj (VP.o.aB wN (by simp));have F5:=aj (F2.o.trans (wN.mono (by simp)));have z5:=wN.size;obtain⟨q0,q1,q2,q3⟩:=B5.o.cells;have qf:=B5.o.fz;clear wN;have T6:Z_ (∀v0 v1 v2 v3:Value,aA [w1.heap.size] w5 ((((w5.setCell ⟨w1.heap.size,0,none⟩ v0).setCell ⟨w1.heap.size,1,none⟩ v1).setCell ⟨w1.heap.size,2,none⟩ v2).setCell ⟨w1.heap.size,3,none⟩ v3)):=λv0 v1 v2 v3=>((((aA.refl [w1.heap.size] w5).setCell (p:=⟨w1.heap.size,0,none⟩) (.inl (by simp)) v0).setCell (p:=⟨w1.heap.size,1,none⟩) (.inl (by simp)) v1).setCell (p:=⟨w1.heap.size,2,none⟩) (.inl (by simp)) v2).setCell (p:=⟨w1.heap.size,3,none⟩) (.inl (by simp)) v3
   have U6:=aj (λv0 v1 v2 v3=>zD base b t l' vs S (s' ^^^ eT) _ (P5.o.aB (T6.o v0 v1 v2 v3) (by simp;omega)) (ahn S5.o (T6.o v0 v1 v2 v3) (by intro k hk e;simp at hk;subst hk;have:=HS.o.lt _ e;omega)) hb (by simp;omega) hS2);generalize s' ^^^ eT=s6 at *;go_wp2_with fail
   refine(U6.o _ _ _ _).mono ?_;rintro e w6 ⟨eb,gT,rfl,he6,hx6,UK,hl6,Bi⟩;have X6:=aj hx6;have P6:=aj UK;have L6:=aj hl6;have G6:=aj ((FP.Np (base:=base) (F5.o.fresh (T6.o _ _ _ _) z1)).trans Bi);simp at he6;clear hx6 UK hl6 Bi;go_wp2;go_ret;rw[Yo.o];exact⟨eb,gT,rfl,by omega,X6,P6,L6,G6⟩
def XN(w:World)(eb:Nat)(k:Int)(v:Value):Prop:=w.heap[eb]?=some (.cells #[.int .i64 k,.int .u64 0,.int .u64 0,.int .u64 0,.int .u64 0,v,.pointer none,.int .i64 0,.int .i64 0] 195 (0,0))
def XW(w:World)(eb q:Nat)(lo hi:Int):Prop:=w.heap[eb]?=some (.cells #[.int .i64 3,.int .u64 0,.int .u64 0,.int .u64 0,.int .u64 0,.slice none 0 0,.pointer (some ⟨q,0,none⟩),.int .i64 lo,.int .i64 hi] 195 (0,0))
def pv(ps:LN):List Value:=ps.map λp=>.pointer (some ⟨p,0,none⟩)
def XV(A:Nat->Prop)(w:World)(v:Value)(ps:LN):Prop:=w.ownsRow 0 178 1 v ps.length (pv ps)/\(∀k,v.ownBlock=some k->A k)/\ps.length<=1000
mutual
/-- An expression in memory,all of it in blocks of A. -/
def XR(A:Nat->Prop)(w:World):Nat->RX->Prop
 | p,.one s=>A p/\XB w p s
 | p,.seq l=>A p/\∃v ps,XN w p 1 v/\XV A w v ps/\kQ A w ps l
 | p,.alt l=>A p/\∃v ps,XN w p 2 v/\XV A w v ps/\kQ A w ps l
 | p,.rep x lo hi=>A p/\∃q,XW w p q lo (SN hi)/\XR A w q x
def kQ(A:Nat->Prop)(w:World):LN->List RX->Prop
 | [],[]=>True
 | p::ps,x::l=>XR A w p x/\kQ A w ps l
 | _,_=>False
end
def mY(A:Nat->Prop)(w w':World):Prop:=∀k,A k->(∃cur fz,w.heap[k]?=some (.cells cur 195 fz)\/w.heap[k]?=some (.cells cur 178 fz))->w'.heap[k]?=w.heap[k]?
theorem XV.aW {A:Nat->Prop}(h:XV A w v ps)(k:mY A w w'):XV A w' v ps:=by
 refine⟨⟨h.1.1,?_⟩,h.2⟩;rcases h.1.2 with hn|⟨g,cap,cur,rfl,hb,mP,rest⟩
 ·exact .inl hn
 exact .inr ⟨g,cap,cur,rfl,hb,(k g (h.2.1 g rfl) ⟨cur,_,.inr mP⟩).trans mP,rest⟩
mutual
theorem XR.aW {A:Nat->Prop}(k:mY A w w'):∀{p:Nat} {x:RX},XR A w p x->XR A w' p x
 | p,.one s,h=>by
   simp only[XR]at h |-;exact⟨h.1,(k p h.1 ⟨_,_,.inl h.2⟩).trans h.2⟩
 | p,.seq l,h=>by
   simp only[XR]at h |-;obtain⟨h1,v,ps,h2,h3,h4⟩:=h;exact⟨h1,v,ps,(k p h1 ⟨_,_,.inl h2⟩).trans h2,h3.aW k,kQ.aW k h4⟩
 | p,.alt l,h=>by
   simp only[XR]at h |-;obtain⟨h1,v,ps,h2,h3,h4⟩:=h;exact⟨h1,v,ps,(k p h1 ⟨_,_,.inl h2⟩).trans h2,h3.aW k,kQ.aW k h4⟩
 | p,.rep x lo hi,h=>by
   simp only[XR]at h |-;obtain⟨h1,q,h2,h3⟩:=h;exact⟨h1,q,(k p h1 ⟨_,_,.inl h2⟩).trans h2,XR.aW k h3⟩
theorem kQ.aW {A:Nat->Prop}(k:mY A w w'):∀{ps:LN} {l:List RX},kQ A w ps l->kQ A w' ps l
 | [],[],_=>by simp only[kQ]
 | p::ps,x::l,h=>by
   simp only[kQ]at h |-;exact⟨XR.aW k h.1,kQ.aW k h.2⟩
 | [],_::_,h=>by simp only[kQ]at h
 | _::_,[],h=>by simp only[kQ]at h
end
mutual
theorem XR.mono {A B:Nat->Prop}(k:∀n,A n->B n):∀{p:Nat} {x:RX},XR A w p x->XR B w p x
 | p,.one s,h=>by simp only[XR]at h |-;exact⟨k p h.1,h.2⟩
 | p,.seq l,h=>by
   simp only[XR]at h |-;obtain⟨h1,v,ps,h2,h3,h4⟩:=h;exact⟨k p h1,v,ps,h2,⟨h3.1,λn hn=>k n (h3.2.1 n hn),h3.2.2⟩,kQ.mono k h4⟩
 | p,.alt l,h=>by
   simp only[XR]at h |-;obtain⟨h1,v,ps,h2,h3,h4⟩:=h;exact⟨k p h1,v,ps,h2,⟨h3.1,λn hn=>k n (h3.2.1 n hn),h3.2.2⟩,kQ.mono k h4⟩
 | p,.rep x lo hi,h=>by
   simp only[XR]at h |-;obtain⟨h1,q,h2,h3⟩:=h;exact⟨k p h1,q,h2,XR.mono k h3⟩
theorem kQ.mono {A B:Nat->Prop}(k:∀n,A n->B n):∀{ps:LN} {l:List RX},kQ A w ps l->kQ B w ps l
 | [],[],_=>by simp only[kQ]
 | p::ps,x::l,h=>by
   simp only[kQ]at h |-;exact⟨XR.mono k h.1,kQ.mono k h.2⟩
 | [],_::_,h=>by simp only[kQ]at h
 | _::_,[],h=>by simp only[kQ]at h
end
theorem kQ.snoc {A:Nat->Prop}:∀{ps:LN} {l:List RX} {p:Nat} {x:RX},kQ A w ps l->XR A w p x->kQ A w (ps++[p]) (l++[x])
 | [],[],p,x,_,h=>by simp only[a1a,kQ];exact⟨h,trivial⟩
 | q::ps,y::l,p,x,h,hx=>by
   simp only[kQ,a0J]at h |-;exact⟨h.1,kQ.snoc h.2 hx⟩
 | [],_::_,p,x,h,_=>by simp only[kQ]at h
 | _::_,[],p,x,h,_=>by simp only[kQ]at h
theorem kQ.len {A:Nat->Prop}:∀{ps:LN} {l:List RX},kQ A w ps l->ps.length=l.length
 | [],[],_=>rfl
 | p::ps,x::l,h=>by simp only[kQ]at h;simp[kQ.len h.2]
 | [],_::_,h=>by simp only[kQ]at h
 | _::_,[],h=>by simp only[kQ]at h
theorem mY.aB {A:Nat->Prop}(f:aA S w w')(hA:∀k,A k->k<w.heap.size/\k∉S):mY A w w' :=
 λk hk _=>f.block k (hA k hk).1 (hA k hk).2
theorem mY.fp {A:Nat->Prop}{base:Nat}(f:FP base b w w')(hA:∀k,A k->k<w.heap.size/\k≠b):mY A w w':=by
 intro k hk ⟨cur,fz,h⟩;refine f.block k (hA k hk).1 (hA k hk).2 (.inr ?_);intro c f2 e;rcases h with h|h<;>rw[h]at e<;>simp at e
theorem FP.fresh{base:Nat}(h:FP base b x y)(k:aA [n] y z)(hn:x.heap.size<=n):FP base b x z :=
 ⟨k.os.trans h.os,k.tape.trans h.tape,k.output.trans h.output,a0e h.size k.size,
  λi hi hb hc=>(k.block i (a0x hi h.size) (by simp;omega)).trans (h.block i hi hb hc)⟩
def XP(base b:Nat)(t:LB)(S:LN)(w:World)(p:Option (RX × LB))(e:Ending)(w':World):Prop :=
 match p with
 | some (x,r)=>∃(eb:Nat) (gT:Value),e=.returned (.pointer (some ⟨eb,0,none⟩))/\XR (λk=>w.heap.size<=k/\k<w'.heap.size) w' eb x/\PA w' b t r gT/\BL base w' gT (S++fu x)/\FP base b w w'
 | none=>e=.returned (.pointer none)/\(∃l' gT,PA w' b t l' gT)/\FP base b w w'
theorem XB.lt(h:XB w eb s):eb<w.heap.size:=(a0d.1 h).1
theorem SP.xp{base:Nat} {p:Option (Nat × LB)}(h:SP base b t S w p e w'):XP base b t S w (p.map λx=>(.one x.1,x.2)) e w':=by
 cases p with
 | none=>exact h
 | some x =>
   obtain⟨s,r⟩:=x;obtain⟨eb,gT,h1,h2,h3,h4,h5,h6⟩:=h;refine⟨eb,gT,h1,?_,h4,h5,h6⟩;simp only[XR];exact⟨⟨h2,h3.lt⟩,h3⟩
def afY(k:Nat):Prop:=∀(base b nest:Nat) (t l:LB) (vs:Value) (S:LN) (w:World),PA w b t l vs->BL base w vs S->b<base->base<=w.heap.size->S.length+l.length<=100->nest<=5->4*l.length+4<=k ->
 Calls Tryz.prog 96 #[.pointer (some ⟨b,0,none⟩),.int .i64 nest] w λe w'=>XP base b t S w (gX k nest [] l) e w'
def afZ(k:Nat):Prop:=∀(base b nest:Nat) (t l:LB) (vs:Value) (S:LN) (w:World),PA w b t l vs->BL base w vs S->b<base->base<=w.heap.size->S.length+l.length<=100->nest<=5->4*l.length+3<=k ->
 Calls Tryz.prog 106 #[.pointer (some ⟨b,0,none⟩),.int .i64 nest] w λe w'=>XP base b t S w (iT k nest [] l) e w'
def aa2(k:Nat):Prop:=∀(base b nest:Nat) (t l:LB) (vs:Value) (S:LN) (w:World),PA w b t l vs->BL base w vs S->b<base->base<=w.heap.size->S.length+l.length<=100->nest<=5->4*l.length+2<=k ->
 Calls Tryz.prog 124 #[.pointer (some ⟨b,0,none⟩),.int .i64 nest] w λe w'=>XP base b t S w (gz k nest l) e w'
def IV(k nest:Nat)(l:LB):Option (RX × LB) :=
 if 5<=nest then none else match gX k (nest+1) [] l with | none=>none|some (x,r2)=>if bf 41 r2 then some (x,r2.tail) else none
theorem XP.fpl{base:Nat}{w1:World} {p:Option (RX × LB)}(h:XP base b t S w1 p e w')(f:FP base b w w1)(hb:b<w.heap.size):XP base b t S w p e w':=by
 cases p with
 | none=>exact⟨h.1,h.2.1,f.trans h.2.2⟩
 | some x =>
   obtain⟨x,r⟩:=x;obtain⟨eb,gT,h1,h2,h3,h4,h5⟩:=h;exact⟨eb,gT,h1,h2.mono (λn hn=>⟨a0e f.size hn.1,hn.2⟩),h3,h4,f.trans h5⟩
theorem Wv {k:Nat}(hC:afY k)(base b nest:Nat)(t l:LB)(vs:Value)(S:LN)(w:World)(h:PA w b t l vs)(hs:BL base w vs S)(hb:b<base)(hz:base<=w.heap.size)(hS:S.length+l.length<=100)(hn:nest<=5)(hk:4*l.length+4<=k) :
 Calls Tryz.prog 136 #[.pointer (some ⟨b,0,none⟩),.int .i64 nest] w λe w'=>XP base b t S w (IV k nest l) e w':=by
 have H:=aj h;have HS:=aj hs;clear h hs
 by_cases h5:5<=nest
 ·have Hg:Z_ (IV k nest l=none):=by show _=_;unfold IV;rw[a0j h5]
  go_enter Tryz.func136,Tryz.ntmps136
  go_wp2;go_ret;rw[Hg.o];exact⟨rfl,⟨_,_,H⟩,FP.refl _ _ _⟩
 have Hg:Z_ (IV k nest l=match gX k (nest+1) [] l with | none=>none|some (x,r2)=>if bf 41 r2 then some (x,r2.tail) else none):=by show _=_;unfold IV;rw[a0g h5]
 have Hc:=aj (hC base b (nest+1) t l vs S w H.o HS.o hb hz hS (by omega) hk);go_enter Tryz.func136,Tryz.ntmps136
 go_wp2_with fail
 refine(Hc.o).mono ?_;intro e w1 hx;cases hp:gX k (nest+1) [] l with
 | none =>
   rw[hp]at hx Hg;obtain⟨rfl,⟨l',gT,mJ⟩,hf⟩:=hx;have P1:=aj mJ;have F1:=aj hf;clear mJ hf;go_wp2_with fail
   refine(iY b t l' gT 41 w1 P1).mono ?_;rintro e w2 ⟨rfl,bR,aS⟩;have P2:=aj bR;have F2:=aj (F1.o.aB aS);clear bR aS;cases tk 41 l'
   all_goals
    go_wp2;go_ret;rw[Hg.o];exact⟨rfl,⟨_,_,P2⟩,F2⟩
 | some x =>
   obtain⟨x,r⟩:=x;rw[hp]at hx Hg;obtain⟨eb,gT,rfl,Cy,mJ,jO,hf⟩:=hx;have X1:=aj Cy;have P1:=aj mJ;have B1:=aj jO;have F1:=aj hf;have UM:b<w.heap.size:=by omega
   have z1:=hf.size;clear Cy mJ jO hf;go_wp2_with fail
   refine(iY b t r gT 41 w1 P1).mono ?_;rintro e w2 ⟨rfl,bR,aS⟩;have X2:=aj ((X1.o.aW (mY.aB aS (λn hn=>⟨hn.2,by simp;omega⟩))).mono (B:=λn=>w.heap.size<=n/\n<w2.heap.size) (λn hn=>⟨hn.1,a0x hn.2 aS.size⟩));have B2:=aj (B1.o.aB aS (by simp;omega));have F2:=aj (F1.o.aB aS);clear aS;cases k2:tk 41 r
   ·have P2:=aj bR
    clear bR;rw[iM]at k2;go_wp2;go_ret;rw[Hg.o];simp only[k2];exact⟨rfl,⟨_,_,P2⟩,F2⟩
   rw[sM k2]at bR;have P2:=aj bR;clear bR;rw[iM]at k2;go_wp2;go_ret;rw[Hg.o];simp only[k2];exact⟨eb,gT,rfl,X2,P2,B2,F2⟩
theorem ac4(k nest:Nat)(c:UInt8)(r:LB):gz (k+1) nest (c::r) =
 if c==40 then IV k nest r
 else if c==91 then (lV r).map (λx=>(.one x.1,x.2))
 else if c==46 then some (.one eT,r)
 else if c==92 then (match r with | []=>none|d::r2=>some (.one (2 ^ d.toNat),r2))
 else if gL c then none
 else some (.one (2 ^ c.toNat),r):=by
 conv=>lhs;unfold gz
 simp only[]
 split
 ·rfl
 split
 ·cases lV r with
  | none=>rfl
  | some x=>obtain⟨s,q⟩:=x;rfl
 rfl
theorem ZJ(c:Nat):ny 0 c (c+1-c)=2 ^ c:=by
 rw[show c+1-c=1 by omega];simp[ny]
theorem yZ{base:Nat}
 (h:∃(eb:Nat) (gT:Value),e=.returned (.pointer (some ⟨eb,0,none⟩))/\w.heap.size<=eb/\XB w' eb s/\PA w' b t l gT/\BL base w' gT (S++[s])/\FP base b w w'):XP base b t S w (some (.one s,l)) e w' :=
 SP.xp (p:=some (s,l)) h
theorem pJ:wd 0 0=0/\wd 0 1=0/\wd 0 2=0/\wd 0 3=0:=by decide
theorem XP.ret{base:Nat} {p:Option (RX × LB)}(h:XP base b t S w p e w'):∃q,e=.returned (.pointer q):=by
 cases p with
 | none=>exact⟨_,h.1⟩
 | some x=>obtain⟨eb,gT,h1,_⟩:=h;exact⟨_,h1⟩
theorem aa3(w:World):Calls Tryz.prog 139 #[.agg #[.int .u64 0,.int .u64 0,.int .u64 0,.int .u64 0]] w λe w'=>e=.returned (bv eT)/\aA [] w w':=by
 have h:=Q9 0 w;unfold bv at h;rw[pJ.1,pJ.2.1,pJ.2.2.1,pJ.2.2.2]at h;have e:afW 0=eT:=by decide
 rw[e]at h;exact h
theorem JN {k:Nat}(hC:afY k):aa2 (k+1):=by
 intro base b nest t l vs S w h hs hb hz hS hn hk;have H:=aj h;have HS:=aj hs;have jO:b<w.heap.size:=by omega
 clear h hs;go_enter Tryz.func124,Tryz.ntmps124
 go_wp2_with fail
 refine(yK b t l vs w H).mono ?_;rintro e w1 ⟨rfl,iw,aZ⟩;have P1:=aj iw;have S1:=aj (HS.o.aB aZ (by simp;omega));have F1:=aj (FP.Np (base:=base) aZ);have z1:=aZ.size;clear iw aZ;cases l with
 | nil =>
   go_wp2;go_ret;exact⟨rfl,⟨_,_,P1⟩,F1⟩
 | cons c r =>
   have Hp:=aj (ac4 k nest c r);simp only[a1z]at P1;simp only[a0o]at hS hk;rw[E4];have e40:=Eb c 40 (by omega);have Sm:=Eb c 91 (by omega);have e46:=Eb c 46 (by omega);have zU:=Eb c 92 (by omega);have e41:=Eb c 41 (by omega);have qd:=Eb c 124 (by omega);have e42:=Eb c 42 (by omega);have e43:=Eb c 43 (by omega);have e63:=Eb c 63 (by omega);have Cz:=Eb c 123 (by omega);have e125:=Eb c 125 (by omega);have Ci:=Eb c 93 (by omega);have Yc:=c.toNat_lt;cases OY:(c==40)
   case true =>
    have f40:((c.toNat:Int)==40)=true:=e40.trans OY;rw[OY]at Hp;clear e40 Sm e46 zU e41 qd e42 e43 e63 Cz e125 Ci;have G:=aj (Wv hC base b nest t r vs S w1 P1.o S1.o hb (by omega) (by omega) hn (by omega));go_wp2_with fail
    refine(G.o).mono ?_;intro e w2 hx;have X2:=aj (hx.fpl F1.o jO);obtain⟨q,rfl⟩:=hx.ret;clear hx;go_wp2;go_ret;rw[Hp.o];exact X2
   have f40:((c.toNat:Int)==40)=false:=e40.trans OY;rw[OY]at Hp;clear e40;cases My:(c==91)
   case true =>
    have f91:((c.toNat:Int)==91)=true:=Sm.trans My;rw[My]at Hp;clear Sm e46 zU e41 qd e42 e43 e63 Cz e125 Ci;have G:=aj (Wu base b t r vs S w1 P1.o S1.o hb (by omega) (by omega));go_wp2_with fail
    refine(G.o).mono ?_;intro e w2 hx;have X2:=aj (hx.xp.fpl F1.o jO);obtain⟨q,rfl⟩:=hx.xp.ret;clear hx;go_wp2;go_ret;rw[Hp.o];exact X2
   have f91:((c.toNat:Int)==91)=false:=Sm.trans My;rw[My]at Hp;clear Sm;cases MC:(c==46)
   case true =>
    have f46:((c.toNat:Int)==46)=true:=e46.trans MC;rw[MC]at Hp;clear e46 zU e41 qd e42 e43 e63 Cz e125 Ci;go_wp2_with fail
    refine(aa3 _).mono ?_;rintro e w2 ⟨rfl,aS⟩;have fA:aA [] w1 w2:=((aA.refl _ _).alloc _).trans aS;have G:=aj (zD base b t r vs S eT w2 (P1.o.aB fA (by simp)) (S1.o.aB fA (by simp)) hb (by have:=fA.size;omega) (by omega));have F2:=aj (F1.o.aB (fA.mono (by simp)));clear aS fA;go_wp2_with fail
    refine(G.o).mono ?_;intro e w3 hx;have X3:=aj ((yZ hx).fpl F2.o jO);obtain⟨q,rfl⟩:=(yZ hx).ret;clear hx;go_wp2;go_ret;rw[Hp.o];exact X3
   have f46:((c.toNat:Int)==46)=false:=e46.trans MC;rw[MC]at Hp;clear e46;cases wM:(c==92)
   case true =>
    have f92:((c.toNat:Int)==92)=true:=zU.trans wM;rw[wM]at Hp;clear zU e41 qd e42 e43 e63 Cz e125 Ci;go_wp2_with fail
    refine(yK b t r vs w1 P1).mono ?_;rintro e w2 ⟨rfl,bR,aS⟩;have P2:=aj bR;have S2:=aj (S1.o.aB aS (by simp;omega));have F2:=aj (F1.o.aB aS);have z2:=aS.size;clear bR aS;cases r with
    | nil =>
      go_wp2;go_ret;rw[Hp.o];exact⟨rfl,⟨_,_,P2⟩,F2⟩
    | cons d r2 =>
      rw[E4];have hd8:=d.toNat_lt;simp only[a1z]at P2;simp only[a0o]at hS;have Hsb:Z_ (∀o,o=Obj.cells #[.int .u64 0,.int .u64 0,.int .u64 0,.int .u64 0] 192->SB (w2.alloc o) w2.heap.size (wd 0 0) (wd 0 1) (wd 0 2) (wd 0 3)):=by
       intro o ho;rw[ho,pJ.1,pJ.2.1,pJ.2.2.1,pJ.2.2.2];exact SB.new rfl
      go_wp2_with fail
      refine(Wq w2.heap.size 0 d.toNat d.toNat _ (by omega) (by omega) (Hsb.o _ rfl)).mono ?_;rintro e w4 ⟨rfl,EN,nR⟩;rw[ZJ]at EN;have fA:aA [] w2 w4:=((aA.refl [] w2).alloc _).fresh nR (a0a _);have G:=aj (zD base b t r2 vs S (2 ^ d.toNat) w4 (P2.o.aB fA (by simp)) (S2.o.aB fA (by simp)) hb (by have:=fA.size;omega) (by omega));have F4:=aj (F2.o.aB (fA.mono (by simp)));obtain⟨q0,q1,q2,q3⟩:=EN.cells;clear EN nR fA;go_wp2_with fail
      refine(G.o).mono ?_;intro e w5 hx;have X5:=aj ((yZ hx).fpl F4.o jO);obtain⟨q,rfl⟩:=(yZ hx).ret;clear hx;go_wp2;go_ret;rw[Hp.o];exact X5
   have f92:((c.toNat:Int)==92)=false:=zU.trans wM;rw[wM]at Hp;clear zU;have Bl:Z_ (gL c=(c==41||c==124||c==42||c==43||c==63||c==123||c==125||c==93)):=rfl;cases xW:(c==41)
   case true =>
    have f41:((c.toNat:Int)==41)=true:=e41.trans xW;have pG:Z_ (gL c=true):=by show _=_;rw[Bl.o,xW];rfl
    rw[pG.o]at Hp;clear e41 qd e42 e43 e63 Cz e125 Ci Bl;go_wp2;go_ret;rw[Hp.o];exact⟨rfl,⟨_,_,P1⟩,F1⟩
   have f41:((c.toNat:Int)==41)=false:=e41.trans xW;clear e41;cases nP:(c==124)
   case true =>
    have f124:((c.toNat:Int)==124)=true:=qd.trans nP;have pG:Z_ (gL c=true):=by show _=_;rw[Bl.o,xW,nP];rfl
    rw[pG.o]at Hp;clear qd e42 e43 e63 Cz e125 Ci Bl;go_wp2;go_ret;rw[Hp.o];exact⟨rfl,⟨_,_,P1⟩,F1⟩
   have f124:((c.toNat:Int)==124)=false:=qd.trans nP;clear qd;cases Yg:(c==42)
   case true =>
    have f42:((c.toNat:Int)==42)=true:=e42.trans Yg;have pG:Z_ (gL c=true):=by show _=_;rw[Bl.o,xW,nP,Yg];rfl
    rw[pG.o]at Hp;clear e42 e43 e63 Cz e125 Ci Bl;go_wp2;go_ret;rw[Hp.o];exact⟨rfl,⟨_,_,P1⟩,F1⟩
   have f42:((c.toNat:Int)==42)=false:=e42.trans Yg;clear e42;cases k43:(c==43)
   case true =>
    have f43:((c.toNat:Int)==43)=true:=e43.trans k43;have pG:Z_ (gL c=true):=by show _=_;rw[Bl.o,xW,nP,Yg,k43];rfl
    rw[pG.o]at Hp;clear e43 e63 Cz e125 Ci Bl;go_wp2;go_ret;rw[Hp.o];exact⟨rfl,⟨_,_,P1⟩,F1⟩
   have f43:((c.toNat:Int)==43)=false:=e43.trans k43;clear e43;cases k63:(c==63)
   case true =>
    have f63:((c.toNat:Int)==63)=true:=e63.trans k63;have pG:Z_ (gL c=true):=by show _=_;rw[Bl.o,xW,nP,Yg,k43,k63];rfl
    rw[pG.o]at Hp;clear e63 Cz e125 Ci Bl;go_wp2;go_ret;rw[Hp.o];exact⟨rfl,⟨_,_,P1⟩,F1⟩
   have f63:((c.toNat:Int)==63)=false:=e63.trans k63;clear e63;cases ZK:(c==123)
   case true =>
    have f123:((c.toNat:Int)==123)=true:=Cz.trans ZK;have pG:Z_ (gL c=true):=by show _=_;rw[Bl.o,xW,nP,Yg,k43,k63,ZK];rfl
    rw[pG.o]at Hp;clear Cz e125 Ci Bl;go_wp2;go_ret;rw[Hp.o];exact⟨rfl,⟨_,_,P1⟩,F1⟩
   have f123:((c.toNat:Int)==123)=false:=Cz.trans ZK;clear Cz;cases zn:(c==125)
   case true =>
    have f125:((c.toNat:Int)==125)=true:=e125.trans zn;have pG:Z_ (gL c=true):=by show _=_;rw[Bl.o,xW,nP,Yg,k43,k63,ZK,zn];rfl
    rw[pG.o]at Hp;clear e125 Ci Bl;go_wp2;go_ret;rw[Hp.o];exact⟨rfl,⟨_,_,P1⟩,F1⟩
   have f125:((c.toNat:Int)==125)=false:=e125.trans zn;clear e125;cases k93:(c==93)
   case true =>
    have f93:((c.toNat:Int)==93)=true:=Ci.trans k93;have pG:Z_ (gL c=true):=by show _=_;rw[Bl.o,xW,nP,Yg,k43,k63,ZK,zn,k93];rfl
    rw[pG.o]at Hp;clear Ci Bl;go_wp2;go_ret;rw[Hp.o];exact⟨rfl,⟨_,_,P1⟩,F1⟩
   have f93:((c.toNat:Int)==93)=false:=Ci.trans k93;clear Ci;have pG:Z_ (gL c=false):=by show _=_;rw[Bl.o,xW,nP,Yg,k43,k63,ZK,zn,k93];rfl
   rw[pG.o]at Hp;clear Bl;have Hsb:Z_ (∀o,o=Obj.cells #[.int .u64 0,.int .u64 0,.int .u64 0,.int .u64 0] 192->SB (w1.alloc o) w1.heap.size (wd 0 0) (wd 0 1) (wd 0 2) (wd 0 3)):=by
    intro o ho;rw[ho,pJ.1,pJ.2.1,pJ.2.2.1,pJ.2.2.2];exact SB.new rfl
   go_wp2_with fail
   refine(Wq w1.heap.size 0 c.toNat c.toNat _ (by omega) (by omega) (Hsb.o _ rfl)).mono ?_;rintro e w4 ⟨rfl,EN,nR⟩;rw[ZJ]at EN;have fA:aA [] w1 w4:=((aA.refl [] w1).alloc _).fresh nR (a0a _);have G:=aj (zD base b t r vs S (2 ^ c.toNat) w4 (P1.o.aB fA (by simp)) (S1.o.aB fA (by simp)) hb (by have:=fA.size;omega) (by omega));have F4:=aj (F1.o.aB (fA.mono (by simp)));obtain⟨q0,q1,q2,q3⟩:=EN.cells;clear EN nR fA;go_wp2_with fail
   refine(G.o).mono ?_;intro e w5 hx;have X5:=aj ((yZ hx).fpl F4.o jO);obtain⟨q,rfl⟩:=(yZ hx).ret;clear hx;go_wp2;go_ret;rw[Hp.o];exact X5
def kS(k nest:Nat)(l:LB):Option (RX × LB) :=
 match gz k nest l with
 | none=>none
 | some (x,r)=>dF (r.length+1) x r
def amk(k:Nat):Prop:=∀(base b nest:Nat) (t l:LB) (vs:Value) (S:LN) (w:World),PA w b t l vs->BL base w vs S->b<base->base<=w.heap.size->S.length+l.length<=100->nest<=5->4*l.length+2<=k ->
 Calls Tryz.prog 116 #[.pointer (some ⟨b,0,none⟩),.int .i64 nest] w λe w'=>XP base b t S w (kS k nest l) e w'
theorem XW.new{lo:Int}(h:eb=w.heap.size):XW (w.alloc (.cells #[.int .i64 3,.int .u64 0,.int .u64 0,.int .u64 0,.int .u64 0,.slice none 0 0,.pointer (some ⟨q,0,none⟩),.int .i64 lo,.int .i64 hi] 195)) eb q lo hi:=by
 subst h;exact bK w _
theorem Nq {k:Nat}(hA:aa2 k):amk k:=by
 intro base b nest t l vs S w h hs hb hz hS hn hk;have A1:=aj (hA base b nest t l vs S w h hs hb hz hS hn hk);have jO:b<w.heap.size:=by omega
 clear h hs;go_enter Tryz.func116,Tryz.ntmps116
 go_wp2_with fail
 refine(A1.o).mono ?_;intro e w1 hx;cases hp:gz k nest l with
 | none =>
   have Hr:Z_ (kS k nest l=none):=by show _=_;unfold kS;rw[hp]
   rw[hp]at hx;obtain⟨rfl,⟨l',gT,mJ⟩,hf⟩:=hx;have P1:=aj mJ;have F1:=aj hf;clear mJ hf;obtain⟨q0,zW⟩:∃q0:Option Addr,q0=none:=⟨_,rfl⟩;rw[<-zW];go_wp2_with fail
   go_loopg [5] 1 (λk ve wr=>k=1/\ve=.pointer q0/\wr=w1)
   case atStart=>exact⟨rfl,by rw[zW],rfl⟩
   case round =>
    obtain⟨hk1,rfl,rfl⟩:=hrel;go_wp2;go_ret;rw[Hr.o];exact⟨by subst zW;rfl,⟨_,_,P1⟩,F1⟩
 | some x =>
   obtain⟨x,r⟩:=x;have Hr:Z_ (kS k nest l=dF (r.length+1) x r):=by show _=_;unfold kS;rw[hp]
   rw[hp]at hx;obtain⟨eb,gT,rfl,Cy,mJ,Gp,hf⟩:=hx;have X1:=aj Cy;have P1:=aj mJ;have B1:=aj Gp;have F1:=aj hf;clear Cy mJ Gp hf;go_wp2_with fail
   go_loopg [5] (r.length+2) (λk ve wr=>∃(q:Nat) (y:RX) (l':LB) (kk:Nat),k=kk+1/\l'.length+1<=kk/\ve=.pointer (some ⟨q,0,none⟩)/\XR (λn=>w.heap.size<=n/\n<wr.heap.size) wr q y/\fu y=fu x/\PA wr b t l' gT/\BL base wr gT (S++fu x)/\FP base b w wr/\dF kk y l'=dF (r.length+1) x r)
   case atStart=>exact⟨eb,x,r,r.length+1,rfl,a0a _,rfl,X1,rfl,P1,B1,F1,rfl⟩
   case round =>
    clear X1 P1 B1 F1;obtain⟨q,y,l',kk,hk1,ME,rfl,Cy,hsy,mJ,Gp,hf,Cj⟩:=hrel;obtain⟨k2,rfl⟩:∃k2,kk=k2+1:=⟨kk-1,by omega⟩;have Hpm:Z_ (dF (r.length+1) x r=if Ai l' then (match Ah l' with | none=>none|some (b,r)=>dF k2 (.rep y b.1 b.2) r) else some (y,l')):=by
     show _=_;rw[<-Cj];rfl
    have X1:=aj Cy;have P1:=aj mJ;have B1:=aj Gp;have F1:=aj hf;have z1:=hf.size;have Hsy:=aj hsy;clear Cy mJ Gp hf Cj hsy;go_wp2_with fail
    refine(Nn b t l' gT wr P1).mono ?_;rintro e w2 ⟨rfl,n2,rfl⟩;cases aX:Ai l'
    ·have MV:Z_ (dF (r.length+1) x r=some (y,l')):=by show _=_;rw[Hpm.o,aX];rfl
     go_wp2;go_ret;rw[Hr.o,MV.o];refine⟨q,gT,rfl,?_,P1.o.drewN _,?_,F1.o.drewN _⟩
     ·exact(X1.o.aW (mY.aB ((aA.refl [] wr).drewN n2) (λn hn=>⟨hn.2,by simp⟩))).mono (λn hn=>hn)
     rw[Hsy.o];exact B1
    have MV:Z_ (dF (r.length+1) x r=match Ah l' with | none=>none|some (b,r)=>dF k2 (.rep y b.1 b.2) r):=by show _=_;rw[Hpm.o,aX];rfl
    go_wp2_with fail
    refine(Ju b t l' gT (wr.drewN n2) (P1.o.drewN n2)).mono ?_;rintro e w3 ⟨a,m,ok,l3,rfl,mR,bZ,Jv⟩;have P3:=aj mR;have ZL:aA [b] wr w3:=((aA.refl [b] wr).drewN n2).trans bZ;have X3:=aj ((X1.o.aW (mY.aB ZL (λn hn=>⟨hn.2,by simp;omega⟩))).mono (B:=λn=>w.heap.size<=n/\n<w3.heap.size) (λn hn=>⟨hn.1,a0x hn.2 ZL.size⟩));have B3:=aj (B1.o.aB ZL (by simp;omega));have F3:=aj (F1.o.aB ZL);have z3:=ZL.size;clear mR bZ ZL;cases KW:Ah l' with
    | none =>
      rw[KW]at Jv MV;obtain rfl:ok=false:=Jv;go_wp2;go_ret;rw[Hr.o,MV.o];exact⟨rfl,⟨_,_,P3⟩,F3⟩
    | some br =>
      obtain⟨⟨lo,hi⟩,r3⟩:=br;have hlen:=(BV KW).1;have hop:=tT lo hi;rw[KW]at Jv MV;obtain⟨rfl,rfl,rfl,rfl⟩:a=lo/\m=SN hi/\ok=true/\l3=r3:=Jv;simp only at hlen;go_wp2;go_roundg (gk-1)
      case measure=>omega
      case rel =>
       have hfa:=(aA.refl [] w3).alloc (.cells #[.int .i64 3,.int .u64 0,.int .u64 0,.int .u64 0,.int .u64 0,.slice none 0 0,.pointer (some ⟨q,0,none⟩),.int .i64 lo,.int .i64 (SN hi)] 195);refine⟨w3.heap.size,.rep y lo hi,l3,k2,by omega,by omega,rfl,?_,Hsy,P3.o.aB hfa (by simp),B3.o.aB hfa (by simp),F3.o.alloc _,MV.o.symm⟩;simp only[XR];refine⟨⟨by omega,by simp⟩,q,XW.new rfl,?_⟩;exact(X3.o.aW (mY.aB hfa (λn hn=>⟨hn.2,by simp⟩))).mono (λn hn=>⟨hn.1,by simp;omega⟩)
theorem alK:(Tryz.prog.info? 178).map (λi=>(i.zero,i.size,i.bytes))=some (some (.pointer none),1,8):=by kernel_rfl
def LX(base:Nat)(w:World)(v:Value)(ps:LN):Prop:=w.ownsRow base 178 1 v ps.length (pv ps)
theorem Ww {o:Oper} {Q:Exit->Act->World->Prop}(w:World)(nJ:o.guard=none)(s x:Operand)
 (ho:o.op=.call { callee:=.builtin .append,args:=#[s,x],argTypes:=#[193,193] })
 (base:Nat) (v:Value) (ps:LN) (p b1:Nat) (hs:a.eval s=v) (aQ:LX base w v ps) (hx:a.eval x=.slice (some ⟨b1,0,none⟩) 1 1)
 (hc:w.cell? ⟨b1,0,none⟩=some (.pointer (some ⟨p,0,none⟩))) (hlen:ps.length<=1048576) (iW:base<=w.heap.size)
 (h:∀g cap w',LX base w' (.slice (some ⟨g,0,none⟩) (ps.length+1) cap) (ps++[p])->w.grownBy w' v.ownBlock->(v.ownBlock=some g\/g=w.heap.size)->g<w'.heap.size->wpList Tryz.prog ops Q rest (a.put o.dst (.slice (some ⟨g,0,none⟩) (ps.length+1) cap)) w') :
 wpList Tryz.prog ops Q (o::rest) a w:=by
 obtain⟨i0,hi,iA,fT,gF⟩:=info_parts alK;refine wpList_append_lies w nJ s x 193 ho base 178 i0 (.pointer none) 1 8 Tryz.underlying193 hi iA fT gF rfl (by decide) v ps.length (pv ps) hs aQ ⟨b1,0,none⟩ 1 1 [.pointer (some ⟨p,0,none⟩)] hx rfl ?_ (λx hx=>by simp at hx;subst hx;rfl) (by decide) (by unfold maxLen;omega) (by omega) iW w.heap.size rfl ?_
 ·intro j u hj
  have:j=0:=by
   cases j with
   | zero=>rfl
   | succ j=>simp at hj
  subst this;rw[add0];simp at hj;rw[<-hj];exact hc
 intro g cap w' h1 h2 h3 h4;exact h g cap w' (by unfold LX pv;simpa[pv] using h1) h2 h3 h4
theorem jo(w:World)(v:Value)(t:TypeId)(n:Nat)(h:w.heap.size=n):(w.alloc (.cells #[v] t)).cell? ⟨n,0,none⟩=some v:=by subst h;simp
theorem aho(l:LB):IU l=qK l:=by unfold IU qK;rw[iM,iM]
theorem ahp(k nest:Nat)(acc:List RX)(l:LB):iT (k+1) nest acc l=if qK l then some (.seq acc,l) else match kS k nest l with | none=>none|some (y,r2)=>iT k nest (acc++[y]) r2:=by
 conv=>lhs;unfold iT
 unfold kS
 split
 ·rfl
 cases gz k nest l with
 | none=>rfl
 | some x=>obtain⟨x,r⟩:=x;rfl
theorem SX {k nest:Nat}{r:LB} {y:RX}(h:kS k nest l=some (y,r)):(fu y).length+r.length<=l.length/\r.length+1<=l.length:=by
 unfold kS at h
 split at h
 ·simp at h
 rename_i x r1 h1
 have e1:=Fx h1;have e2:=vD h;rw[e2.1];omega
theorem XN.c5(h:XN w eb k v):w.cell? ⟨eb,5,none⟩=some v:=by unfold XN at h;simp[World.cell?,h]
theorem XN.fz(h:XN w eb k v)(o:Nat):w.frozen? ⟨eb,o,none⟩=false:=by unfold XN at h;simp[World.frozen?,h]
theorem XN.lt(h:XN w eb k v):eb<w.heap.size:=(a0d.1 h).1
theorem XN.aoX(h:XN w eb k v)(v':Value):XN (w.setCell ⟨eb,5,none⟩ v') eb k v':=by
 unfold XN at h |-;simp[World.setCell,h,a0t]
theorem XN.new(h:eb=w.heap.size):XN (w.alloc (.cells #[.int .i64 k,.int .u64 0,.int .u64 0,.int .u64 0,.int .u64 0,.slice none 0 0,.pointer none,.int .i64 0,.int .i64 0] 195)) eb k (.slice none 0 0):=by
 subst h;exact bK w _
theorem XN.aB(h:XN w eb k v)(f:aA S w w')(hS:eb∉S):XN w' eb k v:=(f.block eb h.lt hS).trans h
theorem XN.fp{base:Nat}(h:XN w eb k v)(f:FP base b w w')(hb:eb≠b):XN w' eb k v:=by
 refine(f.block eb h.lt hb (.inr ?_)).trans h;intro cur fz e;rw[h]at e;simp at e
theorem LX.fp{base base':Nat}(h:LX base' w v ps)(f:FP base b w w')(hb:b<base'):LX base' w' v ps:=by
 refine⟨h.1,?_⟩;rcases h.2 with hn|⟨g,cap,cur,rfl,hg,mP,rest⟩
 ·exact .inl hn
 refine .inr ⟨g,cap,cur,rfl,hg,(f.block g (a0d.1 mP).1 (by omega) (.inr ?_)).trans mP,rest⟩;intro c fz e;rw[mP]at e;simp at e
structure GX(base b eb:Nat)(kd:Int)(t:LB)(S:LN)(w wr:World)(acc:List RX)(l':LB)(v gT:Value)(ps:LN):Prop where
 nd:XN wr eb kd v
 row:LX (eb+1) wr v ps
 kids:kQ (λn=>eb<n/\n<wr.heap.size/\v.ownBlock≠some n) wr ps acc
 pa:PA wr b t l' gT
 bl:BL base wr gT (S++fP acc)
 fp:FP base b w wr
 eb:w.heap.size<=eb
 len:S.length+(fP acc).length+l'.length<=100
 few:acc.length+l'.length<=101
theorem GX.xv{base:Nat} {kd:Int}{wr:World}(h:GX base b eb kd t S w wr acc l' v gT ps) :
 (w.heap.size<=eb/\eb<wr.heap.size)/\XV (λk=>w.heap.size<=k/\k<wr.heap.size) wr v ps/\kQ (λk=>w.heap.size<=k/\k<wr.heap.size) wr ps acc:=by
 refine⟨⟨h.eb,h.nd.lt⟩,⟨uF h.row (a1C _),?_,?_⟩,h.kids.mono ?_⟩
 ·intro k hk;have:=h.row.lt k hk;have:=h.eb;omega
 ·have:=h.kids.len;have:=h.few;omega
 intro n hn;have:=h.eb;exact⟨by omega,hn.2.1⟩
theorem GX.drewN{base:Nat} {kd:Int}{wr:World}(n:Nat)(h:GX base b eb kd t S w wr acc l' v gT ps):GX base b eb kd t S w (wr.drewN n) acc l' v gT ps :=
 ⟨h.nd,h.row,(h.kids.aW (mY.aB ((aA.refl [] wr).drewN n) (λk hk=>⟨hk.2.1,by simp⟩))),h.pa.drewN n,h.bl,h.fp.drewN n,h.eb,h.len,h.few⟩
theorem GX.took{base:Nat} {kd:Int}{wr w2:World}{l2:LB}(h:GX base b eb kd t S w wr acc l' v gT ps)(hb:b<base)(UM:base<=w.heap.size)(f:aA [b] wr w2)(hp:PA w2 b t l2 gT)(hl:l2.length<=l'.length):GX base b eb kd t S w w2 acc l2 v gT ps:=by
 have heb:=h.eb;have hz:=f.size;refine⟨h.nd.aB f (by simp;omega),ek h.row f (by simp;omega),?_,hp,h.bl.aB f (by simp;omega),h.fp.aB f,heb,by have:=h.len;omega,by have:=h.few;omega⟩;exact(h.kids.aW (mY.aB f (λn hn=>⟨hn.2.1,by simp;omega⟩))).mono (λn hn=>⟨hn.1,by omega,hn.2.2⟩)
theorem GX.step{base:Nat} {kd:Int}{wr w3 w5:World}{r2:LB}{vs2:Value} {y:RX} {o:Obj}
 (h:GX base b eb kd t S w wr acc l' v gT ps) (hb:b<base) (UM:base<=w.heap.size) (hx:XR (λn=>wr.heap.size<=n/\n<w3.heap.size) w3 q y) (mJ:PA w3 b t r2 vs2) (jO:BL base w3 vs2 (S++fP acc++fu y)) (hf:FP base b wr w3)
 (hs:(fu y).length+r2.length<=l'.length) (hr:acc.length+1+r2.length<=101)
 (iN:LX (eb+1) w5 (.slice (some ⟨g,0,none⟩) (ps.length+1) cap) (ps++[q])) (Ec:(w3.alloc o).grownBy w5 v.ownBlock) (aX:v.ownBlock=some g\/g=(w3.alloc o).heap.size) :
 GX base b eb kd t S w (w5.setCell ⟨eb,5,none⟩ (.slice (some ⟨g,0,none⟩) (ps.length+1) cap)) (acc++[y]) r2 (.slice (some ⟨g,0,none⟩) (ps.length+1) cap) vs2 (ps++[q]):=by
 have heb:=h.eb;have aO:=h.nd.lt;have uP:=hf.size;have yA:=Ec.size;have Cu:∀k,v.ownBlock=some k->eb+1<=k/\k<wr.heap.size:=λk hk=>h.row.lt k hk
 have KH:(w3.alloc o).heap.size=w3.heap.size+1:=by simp
 rw[KH]at yA aX;have F3:=(aA.refl [] w3).alloc o;have F5:aA v.ownBlock.toList (w3.alloc o) w5:=aA.dS Ec;have F6:=(aA.refl [eb] w5).setCell (p:=⟨eb,5,none⟩) (.inl (by simp)) (.slice (some ⟨g,0,none⟩) (ps.length+1) cap);have Jl:(w5.setCell ⟨eb,5,none⟩ (.slice (some ⟨g,0,none⟩) (ps.length+1) cap)).heap.size=w5.heap.size:=by simp
 have bL:∀k,k∈v.ownBlock.toList->v.ownBlock=some k:=λk hk=>by rw[a0H]at hk;exact hk
 have n1:eb∉v.ownBlock.toList:=λhm=>by have:=Cu _ (bL _ hm);omega
 have n2:b∉v.ownBlock.toList:=λhm=>by have:=Cu _ (bL _ hm);omega
 have aW:∀(A:Nat->Prop),(∀k,A k->k<w3.heap.size/\eb<k/\v.ownBlock≠some k)->mY A w3 (w5.setCell ⟨eb,5,none⟩ (.slice (some ⟨g,0,none⟩) (ps.length+1) cap)):=by
  intro A hA k hk _;obtain⟨a1,a2,a3⟩:=hA k hk;rw[F6.block k (by omega) (by simp;omega),F5.block k (by rw[KH];omega) (λhm=>a3 (bL _ hm)),F3.block k a1 (by simp)]
 have aml:Value.ownBlock (.slice (some ⟨g,0,none⟩) (ps.length+1) cap)=some g:=rfl;refine⟨?_,?_,?_,?_,?_,?_,heb,?_,?_⟩
 ·exact XN.aoX (((h.nd.fp hf (by omega)).aB F3 (by simp)).aB F5 n1) _
 ·have:=ownsRow_setCell_below iN (a:=⟨eb,5,none⟩) (by simp) (.slice (some ⟨g,0,none⟩) (ps.length+1) cap)
  exact this
 ·refine kQ.snoc ?_ ?_
  ·have k1:=h.kids.aW (mY.fp hf (λn hn=>⟨hn.2.1,by omega⟩))
   refine(k1.aW (aW _ (λn hn=>⟨by omega,hn.1,hn.2.2⟩))).mono ?_;intro n hn;refine⟨hn.1,by rw[Jl];omega,?_⟩;rw[aml];intro e;simp only[Option.some.injEq]at e;subst e;rcases aX with e|e
   ·exact hn.2.2 e
   omega
  refine(hx.aW (aW _ (λn hn=>⟨hn.2,by omega,λe=>by have:=Cu _ e;omega⟩))).mono ?_;intro n hn;refine⟨by omega,by rw[Jl];omega,?_⟩;rw[aml];intro e;simp only[Option.some.injEq]at e;subst e;rcases aX with e|e
  ·have:=Cu _ e;omega
  omega
 ·exact((mJ.aB F3 (by simp)).aB F5 n2).aB F6 (by simp;omega)
 ·have b1:BL base w3 vs2 (S++fP (acc++[y])):=by
   rw[wK,zl,<-a0K];exact jO
  refine jb (jb (b1.aB F3 (by simp)) F5 ?_) F6 ?_
  ·intro k hk
   have h1:=bL k hk;obtain⟨cur,fz,e⟩:=DW (h.row.fp hf (by omega)) k h1;refine .inr ⟨cur,178,fz,?_,by decide⟩;rw[F3.block k (by have:=Cu _ h1;omega) (by simp)];exact e
  intro k hk;simp at hk;subst hk;have:=((h.nd.fp hf (by omega)).aB F3 (by simp)).aB F5 n1;exact .inr ⟨_,195,_,this,by decide⟩
 ·refine FP.fresh ?_ F6 heb
  have f1:=(h.fp.trans hf).aB (F3.mono (by simp));refine⟨Ec.os.trans f1.os,Ec.tape.trans f1.tape,Ec.output.trans f1.output,a0e f1.size F5.size,?_⟩;intro k hk hkb hc;rw[F5.block k (by have:=f1.size;omega) (λhm=>by have:=Cu _ (bL _ hm);omega)];exact f1.block k hk hkb hc
 ·rw[wK,zl,a0v];have:=h.len;omega
 simp;omega
theorem Nr {K:Nat}(hA:∀k,k<K->amk k):afZ K:=by
 intro base b nest t l vs S w h hs hb hz hS hn hk;have H:=aj h;have HS:=aj hs;have jO:b<w.heap.size:=by omega
 have HA:=aj hA;clear h hs hA;go_enter Tryz.func106,Tryz.ntmps106
 go_wp2_with fail
 go_loopg [] K (λk wr=>∃(acc:List RX) (l':LB) (v gT:Value) (ps:LN),GX base b w.heap.size 1 t S w wr acc l' v gT ps/\4*l'.length+3<=k/\k<=K/\iT k nest acc l'=iT K nest [] l)
 case atStart =>
  have hfa:=(aA.refl [] w).alloc (.cells #[.int .i64 1,.int .u64 0,.int .u64 0,.int .u64 0,.int .u64 0,.slice none 0 0,.pointer none,.int .i64 0,.int .i64 0] 195);refine⟨[],l,.slice none 0 0,vs,[],⟨XN.new rfl,World.ownsRow_nil _ _ _ _,?_,H.o.aB hfa (by simp),?_,(FP.refl _ _ _).alloc _,a0a _,?_,?_⟩,hk,a0a _,rfl⟩
  ·simp only[kQ]
  ·simpa[fP] using HS.o.aB hfa (by simp)
  ·simpa[fP] using hS
  simp;omega
 case round =>
  clear H HS;obtain⟨acc,l',v,gT,ps,hg,hk1,ME,rW⟩:=hrel;obtain⟨k2,rfl⟩:∃k2,gk=k2+1:=⟨gk-1,by omega⟩;have SY:Z_ (iT K nest [] l=if qK l' then some (.seq acc,l') else match kS k2 nest l' with | none=>none|some (y,r2)=>iT k2 nest (acc++[y]) r2):=by
   show _=_;rw[<-rW,ahp]
  have G:=aj hg;clear hg rW;go_wp2_with fail
  refine(Ll b t l' gT wr G.o.pa).mono ?_;rintro e w2 ⟨rfl,n2,rfl⟩;rw[aho];cases O0:qK l'
  case true =>
   have Hr:Z_ (iT K nest [] l=some (.seq acc,l')):=by show _=_;rw[SY.o,O0];rfl
   go_wp2;go_ret;rw[Hr.o];have G2:=G.o.drewN n2;refine⟨w.heap.size,gT,rfl,?_,G2.pa,G2.bl,G2.fp⟩;have:=G2.xv;simp only[XR];exact⟨this.1,v,ps,G2.nd,this.2.1,this.2.2⟩
  case false =>
   have Hr:Z_ (iT K nest [] l=match kS k2 nest l' with | none=>none|some (y,r2)=>iT k2 nest (acc++[y]) r2):=by show _=_;rw[SY.o,O0];rfl
   have G2:=aj (G.o.drewN n2);clear G;have hzr:=G2.o.fp.size;have R:=aj (HA.o k2 (by omega) base b nest t l' gT (S++fP acc) (wr.drewN n2) G2.o.pa G2.o.bl hb (by omega) (by rw[a0v];exact G2.o.len) hn (by omega));generalize wr.drewN n2=w2 at *;go_wp2_with fail
   refine(R.o).mono ?_;intro e w3 hx;cases hp:kS k2 nest l' with
   | none =>
     rw[hp]at hx Hr;obtain⟨rfl,⟨l3,vs3,mJ⟩,hf⟩:=hx;have P3:=aj mJ;have F3:=aj (G2.o.fp.trans hf);clear mJ hf;obtain⟨q0,zW⟩:∃q0:Option Addr,q0=none:=⟨_,rfl⟩;rw[<-zW];go_wp2;go_ret;rw[Hr.o];exact⟨by first | rfl|(subst zW;rfl),⟨_,_,P3⟩,F3⟩
   | some yr =>
     obtain⟨y,r2⟩:=yr;have pF:=SX hp;rw[hp]at hx Hr;obtain⟨q,vs3,rfl,Cy,mJ,Ns,hf⟩:=hx;have oo:=G2.o.nd.fp hf (by omega);have c5:=oo.c5;have z5:=oo.fz 5;have CE:=oo.lt;have iN:=G2.o.row.fp hf (by omega);obtain⟨a,cap,rfl⟩:=aT iN;have X3:=aj Cy;have P3:=aj mJ;have B3:=aj Ns;have F3:=aj hf;have L3:=aj iN;have uP:=hf.size;have Na:=G2.o.few;have pY:ps.length<=101:=by have:=G2.o.kids.len;omega
     have Wx:acc.length+1+r2.length<=101:=by omega
     have ae:Value.ownBlock (.slice a ps.length cap)≠some w.heap.size:=λe=>by have:=iN.lt _ e;omega
     have gc:∀o:Obj,(w3.alloc o).cell? ⟨w.heap.size,5,none⟩=some (.slice a ps.length cap):=λo=>(((aA.refl [] w3).alloc o).cell (p:=⟨w.heap.size,5,none⟩) CE (by simp)).trans c5
     have gf:∀o:Obj,(w3.alloc o).frozen? ⟨w.heap.size,5,none⟩=false:=λo=>(((aA.refl [] w3).alloc o).frozen (p:=⟨w.heap.size,5,none⟩) CE (by simp)).trans z5
     clear Cy mJ Ns hf iN oo;go_wp2_with (first | (at_builtin;refine Ww _ rfl _ _ rfl (w.heap.size+1) (.slice a ps.length cap) ps q w3.heap.size rfl (L3.o.alloc _) rfl (jo _ _ _ _ rfl) (by omega) (by simp;omega) ?_;intro gg aP w5 aQ aG aX iD;have c6:=(aG.cell_far ⟨w.heap.size,5,none⟩ (by simp;omega) (Ne.symm ae)).trans (gc _);have z6:=(aG.frozen_far ⟨w.heap.size,5,none⟩ (by simp;omega) (Ne.symm ae)).trans (gf _);have G5:=aj (G2.o.step hb hz X3.o P3.o B3.o F3.o pF.1 Wx aQ aG aX);clear aQ aG aX iD))
     go_roundg k2
     case measure=>omega
     case rel=>exact⟨_,_,_,_,_,G5,by omega,by omega,Hr.o.symm⟩
def Lm(k nest:Nat)(acc:List RX)(l:LB):Option (RX × LB) :=
 if acc.isEmpty then gX k nest [] l else if bf 124 l then gX k nest acc l.tail else some (.alt acc,l)
theorem Wy(k nest:Nat)(acc:List RX)(l:LB):gX (k+1) nest acc l=match iT k nest [] l with | none=>none|some (x,r)=>Lm k nest (acc++[x]) r:=by
 conv=>lhs;unfold gX
 cases iT k nest [] l with
 | none=>rfl
 | some x =>
   obtain⟨x,r⟩:=x;have:(acc++[x]).isEmpty=false:=by cases acc<;>rfl
   simp only[Lm,this]
   rfl
/-- The part of a round that reads one more. -/
theorem S9 {K:Nat}(hA:∀k,k<K->afZ k):afY K:=by
 intro base b nest t l vs S w h hs hb hz hS hn hk;have H:=aj h;have HS:=aj hs;have jO:b<w.heap.size:=by omega
 have HA:=aj hA;clear h hs hA;go_enter Tryz.func96,Tryz.ntmps96
 go_wp2_with fail
 go_loopg [] K (λk wr=>∃(acc:List RX) (l':LB) (v gT:Value) (ps:LN),GX base b w.heap.size 2 t S w wr acc l' v gT ps/\(acc=[]->4*l'.length+4<=k)/\4*l'.length<=k/\k<=K/\Lm k nest acc l'=gX K nest [] l)
 case atStart =>
  have hfa:=(aA.refl [] w).alloc (.cells #[.int .i64 2,.int .u64 0,.int .u64 0,.int .u64 0,.int .u64 0,.slice none 0 0,.pointer none,.int .i64 0,.int .i64 0] 195);refine⟨[],l,.slice none 0 0,vs,[],⟨XN.new rfl,World.ownsRow_nil _ _ _ _,?_,H.o.aB hfa (by simp),?_,(FP.refl _ _ _).alloc _,a0a _,?_,?_⟩,λ_=>hk,by omega,a0a _,rfl⟩
  ·simp only[kQ]
  ·simpa[fP] using HS.o.aB hfa (by simp)
  ·simpa[fP] using hS
  simp;omega
 case round =>
  clear H HS;obtain⟨acc,l',v,gT,ps,hg,hk1,ME,Py,rW⟩:=hrel;have iN:=hg.row;obtain⟨a,cap,rfl⟩:=aT iN;have c5:=hg.nd.c5;have pY:=hg.kids.len;have Na:=hg.few;cases acc with
  | nil =>
    have hp0:ps.length=0:=by simpa using pY
    have j6:((ps.length:Int)==0)=true:=by rw[hp0];rfl
    have hk4:=hk1 rfl;obtain⟨k2,rfl⟩:∃k2,gk=k2+1:=⟨gk-1,by omega⟩;have SY:Z_ (gX K nest [] l=match iT k2 nest [] l' with | none=>none|some (x,r)=>Lm k2 nest ([]++[x]) r):=by
     show _=_;rw[<-rW];unfold Lm;simp only[List.isEmpty_nil,a0C];exact Wy k2 nest [] l'
    have G:=aj hg;have hzr:=hg.fp.size;have hlen:=hg.len;simp only[fP,a1f]at hlen;have aqc:l'.length<=100:=by omega
    have Q:=aj (HA.o k2 (by omega) base b nest t l' gT (S++fP []) wr hg.pa hg.bl hb (by omega) (by simp[fP];omega) hn (by omega));clear hg rW iN pY hp0 hlen;go_wp2_with fail
    refine(Q.o).mono ?_;intro e w3 hx;cases hp:iT k2 nest [] l' with
    | none =>
      rw[hp]at hx SY;obtain⟨rfl,⟨l3,vs3,mJ⟩,hf⟩:=hx;have P3:=aj mJ;have F3:=aj (G.o.fp.trans hf);clear mJ hf;obtain⟨q0,zW⟩:∃q0:Option Addr,q0=none:=⟨_,rfl⟩;rw[<-zW];go_wp2;go_ret;rw[SY.o];exact⟨by first | rfl|(subst zW;rfl),⟨_,_,P3⟩,F3⟩
    | some yr =>
      obtain⟨y,r2⟩:=yr;have pF:=wL hp;simp only[fP,a1f,a1v]at pF;rw[hp]at hx SY;obtain⟨q,vs3,rfl,Cy,mJ,Ns,hf⟩:=hx;have oo:=G.o.nd.fp hf (by omega);have c5:=oo.c5;have z5:=oo.fz 5;have CE:=oo.lt;have iN:=G.o.row.fp hf (by omega);have X3:=aj Cy;have P3:=aj mJ;have B3:=aj Ns;have F3:=aj hf;have L3:=aj iN;have uP:=hf.size;have pY:ps.length<=101:=by have:=G.o.kids.len;have:=G.o.few;omega
      have Wx:(([]:List RX)).length+1+r2.length<=101:=by simp;omega
      have ae:Value.ownBlock (.slice a ps.length cap)≠some w.heap.size:=λe=>by have:=iN.lt _ e;omega
      have gc:∀o:Obj,(w3.alloc o).cell? ⟨w.heap.size,5,none⟩=some (.slice a ps.length cap):=λo=>(((aA.refl [] w3).alloc o).cell (p:=⟨w.heap.size,5,none⟩) CE (by simp)).trans c5
      have gf:∀o:Obj,(w3.alloc o).frozen? ⟨w.heap.size,5,none⟩=false:=λo=>(((aA.refl [] w3).alloc o).frozen (p:=⟨w.heap.size,5,none⟩) CE (by simp)).trans z5
      clear Cy mJ Ns hf iN oo;go_wp2_with (first | (at_builtin;refine Ww _ rfl _ _ rfl (w.heap.size+1) (.slice a ps.length cap) ps q w3.heap.size rfl (L3.o.alloc _) rfl (jo _ _ _ _ rfl) (by omega) (by simp;omega) ?_;intro gg aP w5 aQ aG aX iD;have c6:=(aG.cell_far ⟨w.heap.size,5,none⟩ (by simp;omega) (Ne.symm ae)).trans (gc _);have z6:=(aG.frozen_far ⟨w.heap.size,5,none⟩ (by simp;omega) (Ne.symm ae)).trans (gf _);have G5:=aj (G.o.step hb hz X3.o P3.o B3.o F3.o pF.1 Wx aQ aG aX);clear aQ aG aX iD))
      go_roundg k2
      case measure=>omega
      case rel=>exact⟨_,_,_,_,_,G5,λe=>by simp at e,by omega,by omega,SY.o.symm⟩
  | cons x0 aoY =>
    have bL:¬ ps.length=0:=by rw[pY];simp
    have j6:((ps.length:Int)==0)=false:=a0k.2 (by omega);generalize Ze:x0::aoY=acc at *;have hae:acc.isEmpty=false:=by rw[<-Ze];rfl
    have ajA:Z_ (gX K nest [] l=if bf 124 l' then gX gk nest acc l'.tail else some (.alt acc,l')):=by
     show _=_;rw[<-rW];unfold Lm;rw[hae];rfl
    have G0:=aj hg;clear hg rW iN hk1 pY Ze;go_wp2_with fail
    refine(iY b t l' gT 124 wr G0.o.pa).mono ?_;rintro e w2 ⟨rfl,bR,aS⟩;cases k2:tk 124 l'
    case false =>
     rw[uI k2]at bR;have G2:=aj (G0.o.took hb hz aS bR (a0a _));rw[iM]at k2;have Hr:Z_ (gX K nest [] l=some (.alt acc,l')):=by show _=_;rw[ajA.o,k2];rfl
     clear bR aS;go_wp2;go_ret;rw[Hr.o];refine⟨w.heap.size,gT,rfl,?_,G2.o.pa,G2.o.bl,G2.o.fp⟩;have:=G2.o.xv;simp only[XR];exact⟨this.1,_,ps,G2.o.nd,this.2.1,this.2.2⟩
    case true =>
     rw[sM k2]at bR;have EM:=eH (by rw[<-iM];exact k2);have G:=aj (G0.o.took hb hz aS bR (by omega));rw[iM]at k2;have aqd:acc.length+1+l'.tail.length<=101:=by omega
     obtain⟨k3,rfl⟩:∃k3,gk=k3+1:=⟨gk-1,by omega⟩;have SY:Z_ (gX K nest [] l=match iT k3 nest [] l'.tail with | none=>none|some (x,r)=>Lm k3 nest (acc++[x]) r):=by
      show _=_;rw[ajA.o,k2];exact Wy k3 nest acc l'.tail
     have hzr:=G.o.fp.size;have hlen:=G.o.len;have Q:=aj (HA.o k3 (by omega) base b nest t l'.tail gT (S++fP acc) w2 G.o.pa G.o.bl hb (by omega) (by rw[a0v];exact hlen) hn (by omega));clear bR aS G0 ajA hlen c5;go_wp2_with fail
     refine(Q.o).mono ?_;intro e w3 hx;cases hp:iT k3 nest [] l'.tail with
     | none =>
       rw[hp]at hx SY;obtain⟨rfl,⟨l3,vs3,mJ⟩,hf⟩:=hx;have P3:=aj mJ;have F3:=aj (G.o.fp.trans hf);clear mJ hf;obtain⟨q0,zW⟩:∃q0:Option Addr,q0=none:=⟨_,rfl⟩;rw[<-zW];go_wp2;go_ret;rw[SY.o];exact⟨by first | rfl|(subst zW;rfl),⟨_,_,P3⟩,F3⟩
     | some yr =>
       obtain⟨y,r2⟩:=yr;have pF:=wL hp;simp only[fP,a1f,a1v]at pF;rw[hp]at hx SY;obtain⟨q,vs3,rfl,Cy,mJ,Ns,hf⟩:=hx;have oo:=G.o.nd.fp hf (by omega);have c5:=oo.c5;have z5:=oo.fz 5;have CE:=oo.lt;have iN:=G.o.row.fp hf (by omega);have X3:=aj Cy;have P3:=aj mJ;have B3:=aj Ns;have F3:=aj hf;have L3:=aj iN;have uP:=hf.size;have pY:ps.length<=101:=by have:=G.o.kids.len;have:=G.o.few;omega
       have Wx:(acc).length+1+r2.length<=101:=by omega
       have ae:Value.ownBlock (.slice a ps.length cap)≠some w.heap.size:=λe=>by have:=iN.lt _ e;omega
       have gc:∀o:Obj,(w3.alloc o).cell? ⟨w.heap.size,5,none⟩=some (.slice a ps.length cap):=λo=>(((aA.refl [] w3).alloc o).cell (p:=⟨w.heap.size,5,none⟩) CE (by simp)).trans c5
       have gf:∀o:Obj,(w3.alloc o).frozen? ⟨w.heap.size,5,none⟩=false:=λo=>(((aA.refl [] w3).alloc o).frozen (p:=⟨w.heap.size,5,none⟩) CE (by simp)).trans z5
       clear Cy mJ Ns hf iN oo;go_wp2_with (first | (at_builtin;refine Ww _ rfl _ _ rfl (w.heap.size+1) (.slice a ps.length cap) ps q w3.heap.size rfl (L3.o.alloc _) rfl (jo _ _ _ _ rfl) (by omega) (by simp;omega) ?_;intro gg aP w5 aQ aG aX iD;have c6:=(aG.cell_far ⟨w.heap.size,5,none⟩ (by simp;omega) (Ne.symm ae)).trans (gc _);have z6:=(aG.frozen_far ⟨w.heap.size,5,none⟩ (by simp;omega) (Ne.symm ae)).trans (gf _);have G5:=aj (G.o.step hb hz X3.o P3.o B3.o F3.o pF.1 Wx aQ aG aX);clear aQ aG aX iD))
       go_roundg k3
       case measure=>omega
       case rel=>exact⟨_,_,_,_,_,G5,λe=>by simp at e,by omega,by omega,SY.o.symm⟩
theorem ac5:∀K,afY K/\afZ K/\(∀k,k+1=K->aa2 K):=by
 intro K
 induction K using Nat.strongRecOn with
 | _ K ih =>
   have anG:∀k,k<K->aa2 k:=by
    intro k hk;cases k with
    | zero =>
      intro base b nest t l vs S w _ _ _ _ _ _ h0;omega
    | succ k=>exact JN (ih k (by omega)).1
   have aoZ:afZ K:=Nr (λk hk=>Nq (anG k hk));refine⟨S9 (λk hk=>(ih k hk).2.1),aoZ,?_⟩;rintro k rfl;exact JN (ih k (by omega)).1
def Yr(x:RX):Prop:=∀(A:Nat->Prop) (w:World) (p:Nat),XR A w p x->rM x->jh x<=100 ->
 Calls Tryz.prog 84 #[.pointer (some ⟨p,0,none⟩)] w λe w'=>e=.returned (.int .i64 (dx x))/\w=w'
theorem XB.c0(h:XB w eb s):w.cell? ⟨eb,0,none⟩=some (.int .i64 0):=by unfold XB at h;simp[World.cell?,h]
theorem XN.c0(h:XN w eb k v):w.cell? ⟨eb,0,none⟩=some (.int .i64 k):=by unfold XN at h;simp[World.cell?,h]
theorem XW.c0{lo:Int}(h:XW w eb q lo hi):w.cell? ⟨eb,0,none⟩=some (.int .i64 3):=by unfold XW at h;simp[World.cell?,h]
theorem XW.c6{lo:Int}(h:XW w eb q lo hi):w.cell? ⟨eb,6,none⟩=some (.pointer (some ⟨q,0,none⟩)):=by unfold XW at h;simp[World.cell?,h]
theorem XW.c7{lo:Int}(h:XW w eb q lo hi):w.cell? ⟨eb,7,none⟩=some (.int .i64 lo):=by unfold XW at h;simp[World.cell?,h]
theorem XW.c8{lo:Int}(h:XW w eb q lo hi):w.cell? ⟨eb,8,none⟩=some (.int .i64 hi):=by unfold XW at h;simp[World.cell?,h]
theorem kQ.get {A:Nat->Prop}:∀{ps:LN} {l:List RX},kQ A w ps l->∀(j:Nat) (hj:j<l.length),∃p,ps[j]?=some p/\XR A w p l[j]
 | [],[],_,j,hj=>by simp at hj
 | p::ps,x::l,h,j,hj=>by
   simp only[kQ]at h;cases j with
   | zero=>exact⟨p,rfl,h.1⟩
   | succ j =>
     obtain⟨q,h1,h2⟩:=kQ.get h.2 j (by simpa using hj);exact⟨q,by simpa using h1,by simpa using h2⟩
 | [],_::_,h,_,_=>by simp only[kQ]at h
 | _::_,[],h,_,_=>by simp only[kQ]at h
theorem XV.cell {A:Nat->Prop}(h:XV A w (.slice (some ⟨g,0,none⟩) n cap) ps){p:Nat}(hj:ps[j]?=some p):w.cell? ⟨g,j,none⟩=some (.pointer (some ⟨p,0,none⟩)):=by
 have h3:=World.ownsRow.cells h.1 (g:=g) rfl j (.pointer (some ⟨p,0,none⟩)) (by simp[pv,hj]);rw[add0]at h3;exact h3
theorem ac6(l:List RX)(j:Nat)(hj:j<l.length):bM (l.take (j+1))=bM (l.take j)+dx l[j]:=by
 have app:∀(a b:List RX),bM (a++b)=bM a+bM b:=by
  intro a b
  induction a with
  | nil=>simp[bM]
  | cons x a ih=>simp only[a0J,bM,ih];omega
 rw[a0I hj,app];simp[bM]
theorem IW:∀{l:List RX} {e:RX},lz l->e∈l->rM e
 | x::r,e,h,he=>by
   rcases a0l.1 he with h1|h1
   ·rw[h1];exact h.1
   exact IW h.2 h1
theorem Wz(l:List RX)(hd:lz l)(ht:fo l<=100)(j:Nat):bM (l.take j)<=40000:=by
 have h1:∀(l:List RX) (j:Nat),bM (l.take j)<=bM l:=by
  intro l
  induction l with
  | nil=>intro j;simp[bM]
  | cons x r ih =>
    intro j;cases j with
    | zero=>simp[bM]
    | succ j=>have:=ih j;simp only[a2N,bM];omega
 have h2:=Iu hd;have h3:=h1 l j;omega
theorem ac7(s:Nat):Yr (.one s):=by
 intro A w p h hd ht;simp only[XR]at h;have c0:=h.2.c0;go_enter Tryz.func84,Tryz.ntmps84
 go_wp2;go_ret;exact⟨rfl,rfl⟩
theorem JO(A:Nat->Prop)(w:World)(p:Nat)(kd:Int)(v:Value)(ps:LN)(l:List RX)(hkd:kd=1\/kd=2)(hn:XN w p kd v)(hv:XV A w v ps)(hr:kQ A w ps l)(hd:lz l)(ht:fo l<=100)(ih:∀y∈l,Yr y) :
 Calls Tryz.prog 84 #[.pointer (some ⟨p,0,none⟩)] w λe w'=>e=.returned (.int .i64 (bM l))/\w=w':=by
 obtain⟨a,cap,rfl⟩:=aT hv.1;have c0:=hn.c0;have c5:=hn.c5;have hlen:=hr.len;have HV:=aj hv;have HR:=aj hr;have HD:=aj hd;have HT:=aj ht;have HI:=aj ih;have k0:(kd==0)=false:=a0k.2 (by omega);have k3:(kd==3)=false:=a0k.2 (by omega);have HL:Z_ (∀j,bM (l.take j)<=40000):=λj=>Wz l hd ht j
 have rW:ps.length<=1048576:=by have:=hv.2.2;omega
 have Av:=aj hlen;clear hv hr hd ht ih hn hlen hkd;go_enter Tryz.func84,Tryz.ntmps84
 go_wp2_with fail
 go_loopg [3,21] ps.length (λk vn vi wr=>∃(j:Nat),j+k=ps.length/\vi=.int .i64 j/\vn=.int .i64 (bM (l.take j))/\wr=w)
 case atStart=>exact⟨0,by omega,rfl,rfl,rfl⟩
 case round =>
  obtain⟨j,hj,rfl,rfl,hw⟩:=hrel;subst hw
  by_cases aO:j<ps.length
  ·have qM:j<l.length:=by have:=Av.o;omega
   obtain⟨q,hq,hx⟩:=HR.o.get j qM;obtain⟨g,rfl⟩:∃g,a=some ⟨g,0,none⟩:=by
    rcases HV.o.1.2 with⟨e,h⟩|⟨g,c,cur,e,_⟩
    ·simp at e;omega
    simp at e;exact⟨g,e.1⟩
   have hc:=HV.o.cell hq;have hm:=a0z qM;have Hs:=aj (ac6 l j qM);have mV:=HL.o j;have rD:=HL.o (j+1);rw[Hs.o]at rD;have EM:jh l[j]<=100:=by have:=(yS hm).2;have:=HT.o;omega
   have PR:=aj (HI.o _ hm _ _ _ hx (IW HD.o hm) EM);generalize dx l[j]=m at *;generalize bM (l.take j)=n at *;clear hx hm EM hq;go_wp2_with fail
   refine(PR.o).mono ?_;rintro e w2 ⟨rfl,rfl⟩;go_wp2;go_roundg (gk-1)
   case measure=>omega
   case rel=>exact⟨j+1,by omega,by go_num,by rw[Hs.o];go_num,rfl⟩
  have ht:l.take j=l:=a0D (by have:=Av.o;omega);rw[ht];go_wp2;go_ret;exact⟨rfl,rfl⟩
theorem ac8(x:RX)(lo:Nat)(hi:Option Nat)(ih:Yr x):Yr (.rep x lo hi):=by
 intro A w p h hd ht;simp only[XR]at h;obtain⟨h0,q,h1,h2⟩:=h;have c0:=h1.c0;have c6:=h1.c6;have c7:=h1.c7;have c8:=h1.c8;have hop:=tT lo hi;simp only[jh]at ht;have PR:=aj (ih A w q h2 hd.1 (by omega));have hle:=UD hd.1;have l7:=hd.2.1;have zV:=hd.2.2;have Hp:Z_ (dx (.rep x lo hi)=if 40<dx x then dx x else dx x*times lo hi):=rfl;clear h1 h2 hd ih;have rp:Calls Tryz.prog 97 #[.pointer (some ⟨p,0,none⟩)] w λe w'=>e=.returned (.int .i64 (dx (.rep x lo hi)))/\w=w':=by
  generalize dx x=n at *
  by_cases Bg:40<n
  ·have Hp2:Z_ (dx (.rep x lo hi)=n):=by show _=_;rw[Hp.o,a0j Bg]
   go_enter Tryz.func97,Tryz.ntmps97
   go_wp2_with fail
   refine(PR.o).mono ?_;rintro e w2 ⟨rfl,rfl⟩;go_wp2;go_ret;rw[Hp2.o];exact⟨rfl,rfl⟩
  cases hi with
  | none =>
    have Hp2:Z_ (dx (.rep x lo none)=n*(lo+1)):=by show _=_;rw[Hp.o,a0g Bg];rfl
    have hm:n*(lo+1)<=40*10:=a0E (by omega) (by omega);go_enter Tryz.func97,Tryz.ntmps97
    go_wp2_with fail
    refine(PR.o).mono ?_;rintro e w2 ⟨rfl,rfl⟩;simp only[SN]at c8;have Jq:(n:Int)*((lo:Int)+1)=((n*(lo+1):Nat):Int):=by simp
    generalize n*(lo+1)=z at *;go_wp2;go_ret;rw[Hp2.o];exact⟨by first | rfl|(rw[<-Jq];rfl),rfl⟩
  | some m =>
    have hm9:=zV m rfl;have Hp2:Z_ (dx (.rep x lo (some m))=n*m):=by show _=_;rw[Hp.o,a0g Bg];rfl
    have hm:n*m<=40*9:=a0E (by omega) (by omega);have bL:((m:Int) == -1)=false:=a0k.2 (by omega);go_enter Tryz.func97,Tryz.ntmps97
    go_wp2_with fail
    refine(PR.o).mono ?_;rintro e w2 ⟨rfl,rfl⟩;simp only[SN]at c8;have Jq:(n:Int)*(m:Int)=((n*m:Nat):Int):=by simp
    generalize n*m=z at *;go_wp2;go_ret;rw[Hp2.o];exact⟨by first | rfl|(rw[<-Jq];rfl),rfl⟩
 have RP:=aj rp;clear rp Hp;go_enter Tryz.func84,Tryz.ntmps84
 go_wp2_with fail
 refine(RP.o).mono ?_;rintro e w2 ⟨rfl,rfl⟩;go_wp2;go_ret;exact⟨rfl,rfl⟩
theorem ac9(l:List RX)(ih:∀y∈l,Yr y):Yr (.seq l):=by
 intro A w p h hd ht;simp only[XR]at h;obtain⟨h0,v,ps,h1,h2,h3⟩:=h;exact JO A w p 1 v ps l (.inl rfl) h1 h2 h3 hd ht ih
theorem ada(l:List RX)(ih:∀y∈l,Yr y):Yr (.alt l):=by
 intro A w p h hd ht;simp only[XR]at h;obtain⟨h0,v,ps,h1,h2,h3⟩:=h;simp only[jh]at ht;exact JO A w p 2 v ps l (.inr rfl) h1 h2 h3 hd (by omega) ih
mutual
theorem Gq:∀(x:RX),Yr x
 | .one s=>ac7 s
 | .seq l=>ac9 l (Ed l)
 | .alt l=>ada l (Ed l)
 | .rep x lo hi=>ac8 x lo hi (Gq x)
theorem Ed:∀(l:List RX),∀y∈l,Yr y
 | [],y,hy=>by simp at hy
 | x::r,y,hy=>by
   rcases a0l.1 hy with h|h
   ·rw[h];exact Gq x
   exact Ed r y h
end
def WP(base b:Nat)(t:LB)(w:World)(p:Option RX)(e:Ending)(w':World):Prop :=
 match p with
 | some x=>∃(eb:Nat) (gT:Value),e=.returned (.pointer (some ⟨eb,0,none⟩))/\XR (λk=>w.heap.size<=k/\k<w'.heap.size) w' eb x/\PA w' b t [] gT/\BL base w' gT (fu x)/\FP base b w w'
 | none=>e=.returned (.pointer none)/\FP base b w w'
theorem aeY(base b:Nat)(t:LB)(w:World)(h:PA w b t t (.slice none 0 0))(hb:b<base)(hz:base<=w.heap.size)(ht:t.length<=100) :
 Calls Tryz.prog 83 #[.pointer (some ⟨b,0,none⟩)] w λe w'=>WP base b t w (fD t) e w':=by
 have C:=aj ((ac5 (4*t.length+4)).1 base b 0 t t (.slice none 0 0) [] w h (BL.nil _ _) hb hz (by simp;exact ht) (by omega) (a0a _));have Hw:Z_ (fD t=match gX (4*t.length+4) 0 [] t with | some (x,[])=>some x|_=>none):=rfl;have fM:=bS t;clear h;go_enter Tryz.func83,Tryz.ntmps83
 go_wp2_with fail
 refine(C.o).mono ?_;intro e w1 hx;cases hp:gX (4*t.length+4) 0 [] t with
 | none =>
   rw[hp]at hx Hw;obtain⟨rfl,⟨l',gT,i,rW,hdr⟩,hf⟩:=hx;have F:=aj hf;have c0:=rW.c0;have c1:=rW.c1;have hi:=rW.2.1;clear hf rW
   by_cases aO:i<t.length
   ·have iH:decide ((i:Int)<(t.length:Int))=true:=a0h (by omega)
    go_wp2_with fail
    go_quiet (fail)
    go_wp2;go_ret;rw[Hw.o];exact⟨rfl,F.o.drewN _⟩
   have iH:decide ((i:Int)<(t.length:Int))=false:=a0f (by omega);go_wp2_with fail
   go_quiet (fail)
   go_wp2;go_ret;rw[Hw.o];exact⟨rfl,F.o.drewN _⟩
 | some xr =>
   obtain⟨x,r⟩:=xr;rw[hp]at hx Hw;obtain⟨eb,gT,rfl,Cy,⟨i,rW,hdr⟩,jO,hf⟩:=hx;have F:=aj hf;have X:=aj Cy;have B:=aj jO;have P:=aj rW;have D:=aj hdr;have c0:=rW.c0;have c1:=rW.c1;have hi:=rW.2.1;clear hf rW Cy jO hdr
   by_cases aO:i<t.length
   ·have iH:decide ((i:Int)<(t.length:Int))=true:=a0h (by omega)
    obtain⟨_,hr⟩:=(drop_cons D).1 aO;have KE:Z_ (fD t=none):=by show _=_;rw[Hw.o,hr]
    clear hr;go_wp2_with fail
    go_quiet (fail)
    go_wp2;go_ret;rw[KE.o];exact⟨rfl,F.o.drewN _⟩
   have iH:decide ((i:Int)<(t.length:Int))=false:=a0f (by omega);have hr:=(drop_cons D).2 aO;have KE:Z_ (fD t=some x):=by show _=_;rw[Hw.o,hr]
   clear hr;go_wp2_with fail
   go_quiet (fail)
   go_wp2;go_ret;rw[KE.o];refine⟨eb,gT,rfl,?_,⟨i,P.o.drewN _,?_⟩,?_,F.o.drewN _⟩
   ·exact(X.o.aW (mY.aB ((aA.refl [] w1).drewN _) (λn hn=>⟨hn.2,by simp⟩))).mono (λn hn=>hn)
   ·exact(drop_cons D).2 aO ▸ D
   have b2:BL base w1 gT (fu x):=by simpa using B.o
   exact b2
theorem aa4(w0 w1 w2 w3:Nat)(q r:Nat)(w:World)(hq:q<4)(hr:r<64)(h0:w0<18446744073709551616)(h1:w1<18446744073709551616)(h2:w2<18446744073709551616)(h3:w3<18446744073709551616) :
 Calls Tryz.prog 127 #[.agg #[.int .u64 w0,.int .u64 w1,.int .u64 w2,.int .u64 w3],.int .u8 (64*q+r:Nat)] w λe w'=>e=.returned (.bool ((if q=0 then w0 else if q=1 then w1 else if q=2 then w2 else w3).testBit r))/\w'=w.alloc (.cells #[.int .u64 w0,.int .u64 w1,.int .u64 w2,.int .u64 w3] 192):=by
 have hd:((64*q+r:Nat):Int).tdiv 64=q:=by rw[a2D (by omega)];omega
 have hm:((64*q+r:Nat):Int).tmod 64=r:=by rw[a2f (by omega)];omega
 have aO:64*q+r<256:=by omega
 generalize 64*q+r=c at *;rcases(by omega:q=0\/q=1\/q=2\/q=3) with rfl|rfl|rfl|rfl
 ·go_enter Tryz.func127,Tryz.ntmps127
  go_wp2;go_ret;exact⟨by rw[<-xL _ _ h0];rfl,rfl⟩
 ·go_enter Tryz.func127,Tryz.ntmps127
  go_wp2;go_ret;exact⟨by rw[<-xL _ _ h1];rfl,rfl⟩
 ·go_enter Tryz.func127,Tryz.ntmps127
  go_wp2;go_ret;exact⟨by rw[<-xL _ _ h2];rfl,rfl⟩
 go_enter Tryz.func127,Tryz.ntmps127
 go_wp2;go_ret;exact⟨by rw[<-xL _ _ h3];rfl,rfl⟩
theorem alL(s:Nat)(c:Nat)(w:World)(hc:c<256) :
 Calls Tryz.prog 127 #[.agg #[.int .u64 (wd s 0),.int .u64 (wd s 1),.int .u64 (wd s 2),.int .u64 (wd s 3)],.int .u8 c] w λe w'=>e=.returned (.bool (s.testBit c))/\w'=w.alloc (.cells #[.int .u64 (wd s 0),.int .u64 (wd s 1),.int .u64 (wd s 2),.int .u64 (wd s 3)] 192):=by
 have h:=aa4 (wd s 0) (wd s 1) (wd s 2) (wd s 3) (c / 64) (c % 64) w (by omega) (Nat.mod_lt _ (by decide)) (iL _ _) (iL _ _) (iL _ _) (iL _ _);rw[show 64*(c / 64)+c % 64=c by omega]at h;have e:(if c / 64=0 then wd s 0 else if c / 64=1 then wd s 1 else if c / 64=2 then wd s 2 else wd s 3).testBit (c % 64)=s.testBit c:=by
  have h1:c / 64<4:=by omega
  have key:(wd s (c / 64)).testBit (c % 64)=s.testBit c:=by
   rw[xu _ _ _ (Nat.mod_lt _ (by decide)),show 64*(c / 64)+c % 64=c by omega]
  rw[<-key];rcases(by omega:c / 64=0\/c / 64=1\/c / 64=2\/c / 64=3) with h|h|h|h<;>simp[h]
 rw[e]at h;exact h
def apart(S:LN)(a b:Nat):Bool:=S.any λs=>s.testBit a != s.testBit b
theorem BL.cell {base:Nat}(h:BL base w (.slice (some ⟨g,0,none⟩) n cap) S)(hj:S[j]?=some s)(k:Nat)(hk:k<4):w.cell? ⟨g,j*4+k,none⟩=(AA s)[k]?:=by
 have h1:=flat_get AA 4 (λa=>rfl) S j k s hj hk;have h3:=World.ownsRow.cells h (g:=g) rfl (j*4+k);have aO:k<(AA s).length:=hk;rw[a0c aO]at h1 |-;have:=h3 _ h1;rw[add0]at this;exact this
theorem WE(base:Nat)(vs:Value)(S:LN)(a b:Nat)(w:World)(hs:BL base w vs S)(ha:a<256)(hb:b<256)(hS:S.length<=1000) :
 Calls Tryz.prog 117 #[vs,.int .u8 a,.int .u8 b] w λe w'=>e=.returned (.bool (apart S a b))/\aA [] w w':=by
 obtain⟨ad,cap,rfl⟩:=aT hs;have HS:=aj hs;clear hs;go_enter Tryz.func117,Tryz.ntmps117
 go_wp2_with fail
 go_loopg [11] S.length (λk vi wr=>∃(j:Nat),j+k=S.length/\vi=.int .i64 j/\apart (S.drop j) a b=apart S a b/\aA [] w wr)
 case atStart=>exact⟨0,by omega,rfl,rfl,aA.refl _ _⟩
 case round =>
  obtain⟨j,hj,rfl,Jr,bU⟩:=hrel;have F:=aj bU;have AP:=aj Jr;clear bU Jr
  by_cases aO:j<S.length
  ·have lK:BL base wr (.slice ad S.length cap) S:=HS.o.aB F.o (by simp)
   obtain⟨g,rfl⟩:∃g,ad=some ⟨g,0,none⟩:=by
    rcases lK.2 with⟨e,h⟩|⟨g,c,cur,e,_⟩
    ·omega
    simp at e;exact⟨g,e.1⟩
   have hjS:S[j]?=some S[j]:=a0c aO;have hc:=λk hk=>lK.cell hjS k hk
   have Hd:Z_ (S.drop j=S[j]::S.drop (j+1)):=a0q aO;generalize S[j]=s at *;have q0:wr.cell? ⟨g,j*4,none⟩=some (.int .u64 (wd s 0)):=hc 0 (by omega);have q1:wr.cell? ⟨g,j*4+1,none⟩=some (.int .u64 (wd s 1)):=hc 1 (by omega);have q2:wr.cell? ⟨g,j*4+2,none⟩=some (.int .u64 (wd s 2)):=hc 2 (by omega);have q3:wr.cell? ⟨g,j*4+3,none⟩=some (.int .u64 (wd s 3)):=hc 3 (by omega);have bN:Z_ (apart S a b=((s.testBit a != s.testBit b)||apart (S.drop (j+1)) a b)):=by
    show _=_;rw[<-AP.o,Hd.o];rfl
   have HH:=aj (λ(c:Nat) (hc:c<256) (w:World)=>alL s c w hc);generalize s.testBit=fb at *;clear hc lK hjS AP Hd;generalize wd s 0=s0 at *;generalize wd s 1=s1 at *;generalize wd s 2=s2 at *;generalize wd s 3=s3 at *;go_wp2_with fail
   go_region_with (go_at_call 127;refine(HH.o _ (by assumption) _).mono ?_;rintro e w7 ⟨rfl,rfl⟩)
   all_goals
    cases hA:fb a
    ·cases hB:fb b
     ·have pG:Z_ (apart (S.drop (j+1)) a b=apart S a b):=by show _=_;rw[bN.o,hA,hB];rfl
      go_wp2;go_roundg (gk-1)
      case measure=>omega
      case rel=>exact⟨j+1,by omega,by go_num,pG,((((F.o.alloc _).alloc _).alloc _).drew)⟩
     have pG:Z_ (apart S a b=true):=by show _=_;rw[bN.o,hA,hB];rfl
     go_wp2;go_ret;rw[pG.o];exact⟨rfl,((((F.o.alloc _).alloc _).alloc _).drew)⟩
    cases hB:fb b
    ·have pG:Z_ (apart S a b=true):=by show _=_;rw[bN.o,hA,hB];rfl
     go_wp2;go_ret;rw[pG.o];exact⟨rfl,((((F.o.alloc _).alloc _).alloc _).drew)⟩
    have pG:Z_ (apart (S.drop (j+1)) a b=apart S a b):=by show _=_;rw[bN.o,hA,hB];rfl
    go_wp2;go_roundg (gk-1)
    case measure=>omega
    case rel=>exact⟨j+1,by omega,by go_num,pG,((((F.o.alloc _).alloc _).alloc _).drew)⟩
  have Hz:Z_ (apart S a b=false):=by
   show _=_;rw[<-AP.o,a0p (by omega)];rfl
  go_wp2;go_ret;rw[Hz.o];exact⟨rfl,F⟩
def NL(k:IntKind)(w:World)(v:Value)(L:LN):Prop :=
 ∃a cap,v=.slice a L.length cap/\∀(j:Nat) (h:j<L.length),∃g off,a=some ⟨g,off,none⟩/\g<w.heap.size/\w.cell? ⟨g,off+j,none⟩=some (.int k L[j])
theorem NL.aB {k:IntKind}(h:NL k w v L)(f:aA S w w')(hS:∀a n c,v=.slice (some a) n c->a.block∉S):NL k w' v L:=by
 obtain⟨a,cap,rfl,h1⟩:=h;refine⟨a,cap,rfl,?_⟩;intro j hj;obtain⟨g,off,rfl,h2,h3⟩:=h1 j hj;exact⟨g,off,rfl,a0x h2 f.size,(f.cell (p:=⟨g,off+j,none⟩) h2 (hS ⟨g,off,none⟩ _ _ rfl)).trans h3⟩
theorem aeZ(v:Value)(L:LN)(n:Nat)(w:World)(hv:NL .i64 w v L)(hL:L.length<=1048576) :
 Calls Tryz.prog 102 #[v,.int .i64 n] w λe w'=>e=.returned (.int .i64 (L.findIdx (·==n)))/\w=w':=by
 obtain⟨a,cap,rfl,h1⟩:=hv;have H1:=aj h1;clear h1;go_enter Tryz.func102,Tryz.ntmps102
 go_wp2_with fail
 go_loopg [9] L.length (λk vi wr=>∃(j:Nat),j+k=L.length/\vi=.int .i64 j/\wr=w/\j+(L.drop j).findIdx (·==n)=L.findIdx (·==n))
 case atStart=>exact⟨0,by omega,rfl,rfl,by simp⟩
 case round =>
  obtain⟨j,hj,rfl,hw,hf⟩:=hrel;subst hw
  by_cases aO:j<L.length
  ·obtain⟨g,off,rfl,_,hc⟩:=H1.o j aO
   have hd:L.drop j=L[j]::L.drop (j+1):=a0q aO;rw[hd,List.findIdx_cons]at hf;generalize L[j]=m at *;cases hmn:(m==n)
   ·have hb:((m:Int)==(n:Int))=false:=by rw[a0k];intro e;simp at hmn;omega
    rw[hmn]at hf;have Hf:Z_ ((j+1)+(L.drop (j+1)).findIdx (·==n)=L.findIdx (·==n)):=by
     show _=_;simp at hf;omega
    clear hf hd;go_wp2;go_roundg (gk-1)
    case measure=>omega
    case rel=>exact⟨j+1,by omega,by go_num,rfl,Hf⟩
   have hb:((m:Int)==(n:Int))=true:=by rw[a0X];simp at hmn;omega
   rw[hmn]at hf;have Hf:Z_ (L.findIdx (·==n)=j):=by
    show _=_;simp at hf;omega
   clear hf hd;go_wp2;go_ret;rw[Hf.o];exact⟨rfl,rfl⟩
  have Hf:Z_ (L.findIdx (·==n)=L.length):=by
   show _=_;rw[<-hf,a0p (by omega)];simp;omega
  clear hf;go_wp2;go_ret;rw[Hf.o];exact⟨rfl,rfl⟩
def mZ(S F:LN)(c:Nat):Nat:=F.findIdx λf=>!(apart S f c)
theorem aa5(base:Nat)(vs v:Value)(S F:LN)(c:Nat)(w:World)(hs:BL base w vs S)(hv:NL .u8 w v F)(hS:S.length<=1000)(hF:F.length<=1000)(vF:∀f∈F,f<256)(hc:c<256) :
 Calls Tryz.prog 107 #[vs,v,.int .u8 c] w λe w'=>e=.returned (.int .i64 (mZ S F c))/\aA [] w w':=by
 obtain⟨a,cap,rfl,h1⟩:=hv;obtain⟨asl,WH,rfl⟩:=aT hs;have H1:=aj h1;have HS:=aj hs;have H2:=aj vF;clear h1 hs vF;go_enter Tryz.func107,Tryz.ntmps107
 go_wp2_with fail
 go_loopg [11] F.length (λk vi wr=>∃(j:Nat),j+k=F.length/\vi=.int .i64 j/\aA [] w wr/\j+mZ S (F.drop j) c=mZ S F c)
 case atStart=>exact⟨0,by omega,rfl,aA.refl _ _,by simp⟩
 case round =>
  obtain⟨j,hj,rfl,bU,hf⟩:=hrel;have FR:=aj bU
  by_cases aO:j<F.length
  ·obtain⟨g,off,rfl,hg,Kz⟩:=H1.o j aO
   have nL:=(bU.cell (p:=⟨g,off+j,none⟩) hg (by simp)).trans Kz;have hm8:=H2.o _ (a0z aO);have hd:F.drop j=F[j]::F.drop (j+1):=a0q aO;rw[hd]at hf;unfold mZ at hf;rw[List.findIdx_cons]at hf;generalize F[j]=m at *;have T:=aj (WE base (.slice asl S.length WH) S m c wr (HS.o.aB bU (by simp)) hm8 hc hS);clear bU Kz hd;cases Jr:apart S m c
   ·rw[Jr]at hf
    have Hf:Z_ (mZ S F c=j):=by show _=_;unfold mZ;simp at hf;omega
    clear hf;rw[Jr]at T;go_wp2_with fail
    refine(T.o).mono ?_;rintro e w2 ⟨rfl,aS⟩;have F2:=aj (FR.o.trans aS);clear aS;go_wp2;go_ret;rw[Hf.o];exact⟨rfl,F2⟩
   rw[Jr]at hf;have Hf:Z_ ((j+1)+mZ S (F.drop (j+1)) c=mZ S F c):=by show _=_;unfold mZ;simp at hf;omega
   clear hf;rw[Jr]at T;go_wp2_with fail
   refine(T.o).mono ?_;rintro e w2 ⟨rfl,aS⟩;have F2:=aj (FR.o.trans aS);clear aS;go_wp2;go_roundg (gk-1)
   case measure=>omega
   case rel=>exact⟨j+1,by omega,by go_num,F2,Hf⟩
  have Hf:Z_ (mZ S F c=F.length):=by
   show _=_;rw[<-hf,a0p (by omega)];unfold mZ;simp;omega
  clear hf bU;go_wp2;go_ret;rw[Hf.o];exact⟨rfl,FR⟩
def UL(base:Nat)(w:World)(v:Value)(L:LN):Prop:=w.ownsRow base 5 1 v L.length (nv .u8 L)
def IL(base:Nat)(w:World)(v:Value)(L:LN):Prop:=w.ownsRow base 3 1 v L.length (nv .i64 L)
theorem vM {k:IntKind} {base:Nat} {e:TypeId}(h:w.ownsRow base e 1 v L.length (nv k L)):NL k w v L:=by
 obtain⟨a,cap,rfl⟩:=aT h;refine⟨a,cap,rfl,?_⟩;intro j hj;rcases h.2 with⟨e1,h1⟩|⟨g,c,cur,e1,hg,mP,_⟩
 ·omega
 simp at e1;obtain⟨rfl,rfl⟩:=e1;have hc:=World.ownsRow.cells h (g:=g) rfl j (.int k L[j]) (by simp[nv,hj]);rw[add0]at hc;exact⟨g,0,rfl,(a0d.1 mP).1,by simpa using hc⟩
theorem ajB {o:Oper} {Q:Exit->Act->World->Prop}(w:World)(nJ:o.guard=none)(s x:Operand)
 (ho:o.op=.call { callee:=.builtin .append,args:=#[s,x],argTypes:=#[184,184] })
 (base:Nat) (v:Value) (L:LN) (n b1:Nat) (hs:a.eval s=v) (aQ:UL base w v L) (hx:a.eval x=.slice (some ⟨b1,0,none⟩) 1 1)
 (hc:w.cell? ⟨b1,0,none⟩=some (.int .u8 n)) (hlen:L.length<=1048576) (iW:base<=w.heap.size)
 (h:∀g cap w',UL base w' (.slice (some ⟨g,0,none⟩) (L.length+1) cap) (L++[n])->w.grownBy w' v.ownBlock->(v.ownBlock=some g\/g=w.heap.size)->g<w'.heap.size->wpList Tryz.prog ops Q rest (a.put o.dst (.slice (some ⟨g,0,none⟩) (L.length+1) cap)) w') :
 wpList Tryz.prog ops Q (o::rest) a w:=by
 obtain⟨i0,hi,iA,fT,gF⟩:=info_parts afy;refine wpList_append_lies w nJ s x 184 ho base 5 i0 (.int .u8 0) 1 1 Tryz.underlying184 hi iA fT gF rfl (by decide) v L.length (nv .u8 L) hs aQ ⟨b1,0,none⟩ 1 1 [.int .u8 n] hx rfl ?_ (λx hx=>by simp at hx;subst hx;rfl) (by decide) (by unfold maxLen;omega) (by omega) iW w.heap.size rfl ?_
 ·intro j u hj
  have:j=0:=by
   cases j with
   | zero=>rfl
   | succ j=>simp at hj
  subst this;rw[add0];simp at hj;rw[<-hj];exact hc
 intro g cap w' h1 h2 h3 h4;exact h g cap w' (by unfold UL nv;simpa[nv] using h1) h2 h3 h4
theorem sO {o:Oper} {Q:Exit->Act->World->Prop}(w:World)(nJ:o.guard=none)(s x:Operand)
 (ho:o.op=.call { callee:=.builtin .append,args:=#[s,x],argTypes:=#[128,128] })
 (base:Nat) (v:Value) (L:LN) (n b1:Nat) (hs:a.eval s=v) (aQ:IL base w v L) (hx:a.eval x=.slice (some ⟨b1,0,none⟩) 1 1)
 (hc:w.cell? ⟨b1,0,none⟩=some (.int .i64 n)) (hlen:L.length<=10000000000000) (iW:base<=w.heap.size)
 (h:∀g cap w',IL base w' (.slice (some ⟨g,0,none⟩) (L.length+1) cap) (L++[n])->w.grownBy w' v.ownBlock->(v.ownBlock=some g\/g=w.heap.size)->g<w'.heap.size->wpList Tryz.prog ops Q rest (a.put o.dst (.slice (some ⟨g,0,none⟩) (L.length+1) cap)) w') :
 wpList Tryz.prog ops Q (o::rest) a w:=by
 obtain⟨i0,hi,iA,fT,gF⟩:=info_parts Ur;refine wpList_append_lies w nJ s x 128 ho base 3 i0 (.int .i64 0) 1 8 Tryz.underlying128 hi iA fT gF rfl (by decide) v L.length (nv .i64 L) hs aQ ⟨b1,0,none⟩ 1 1 [.int .i64 n] hx rfl ?_ (λx hx=>by simp at hx;subst hx;rfl) (by decide) (by unfold maxLen;omega) (by omega) iW w.heap.size rfl ?_
 ·intro j u hj
  have:j=0:=by
   cases j with
   | zero=>rfl
   | succ j=>simp at hj
  subst this;rw[add0];simp at hj;rw[<-hj];exact hc
 intro g cap w' h1 h2 h3 h4;exact h g cap w' (by unfold IL nv;simpa[nv] using h1) h2 h3 h4
def lM(S:LN):Nat->LN
 | 0=>[]
 | c+1=>if mZ S (lM S c) c==(lM S c).length then lM S c++[c] else lM S c
def WI(S:LN)(c:Nat):LN:=(List.range c).map λi=>mZ S (lM S i) i
theorem xN(S:LN):∀c,(lM S c).length<=c/\∀f∈lM S c,f<c
 | 0=>by simp[lM]
 | c+1=>by
   have h:=xN S c;simp only[lM]
   split
   ·refine⟨by simp;omega,?_⟩
    intro f hf;rcases a0b.1 hf with h1|h1
    ·have:=h.2 f h1;omega
    simp at h1;omega
   exact⟨by omega,λf hf=>by have:=h.2 f hf;omega⟩
theorem ahq(S F:LN)(c:Nat):mZ S F c<=F.length:=List.findIdx_le_length
end Go.Proofs.YtgbdcmpmmkfbhaaGreat
