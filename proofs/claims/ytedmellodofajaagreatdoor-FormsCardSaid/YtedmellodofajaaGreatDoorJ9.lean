import Derived.Test.YtedmellodofajaaGreatDoorJ8
import Derived.Test.YtedmellodofajaaGreatDoorJ5
import Derived.Test.YtedmellodofajaaGreatDoorJ7
import Derived.Test.YtedmellodofajaaGreatDoorJ1
import Derived.Test.YtedmellodofajaaGreatDoorJ4
import Derived.Deep.DeepCutAuto
set_option linter.unusedVariables false
set_option linter.unusedSimpArgs false
set_option linter.unnecessarySimpa false
set_option linter.defProp false
set_option maxRecDepth 100000
set_option maxHeartbeats 4000000
namespace Go.Proofs.YtedmellodofajaaGreatDoor
open Go.RowKit
section
variable {b cap eb g j n q s:Nat} {l l' t:LB} {L S ps:LN} {w w':World} {e e2:TypeId} {hi k:Int} {ops:Array Oper} {rest:List Oper} {a:Act} {y:RX} {v v2 iN:Value} {acc:List RX} {xs xs2:List Value}
def alA(k:Nat):Prop:=∀(base b nest:Nat) (t l:LB) (vs:Value) (S:LN) (w:World),PA w b t l vs->BL base w vs S->b<base->base<=w.heap.size->S.length+l.length<=100->nest<=5->4*l.length+4<=k ->
 zF 155 #[zP b,zI nest] w λe w'=>XP base b t S w (iQ k nest [] l) e w'
def alB(k:Nat):Prop:=∀(base b nest:Nat) (t l:LB) (vs:Value) (S:LN) (w:World),PA w b t l vs->BL base w vs S->b<base->base<=w.heap.size->S.length+l.length<=100->nest<=5->4*l.length+3<=k ->
 zF 170 #[zP b,zI nest] w λe w'=>XP base b t S w (jF k nest [] l) e w'
def afl(k:Nat):Prop:=∀(base b nest:Nat) (t l:LB) (vs:Value) (S:LN) (w:World),PA w b t l vs->BL base w vs S->b<base->base<=w.heap.size->S.length+l.length<=100->nest<=5->4*l.length+2<=k ->
 zF 189 #[zP b,zI nest] w λe w'=>XP base b t S w (ik k nest l) e w'
def M0(k nest:Nat)(l:LB):Option (RX × LB) :=
 if 5<=nest then none else match iQ k (nest+1) [] l with | none=>none|some (x,r2)=>if bA 41 r2 then some (x,r2.tail) else none
def XP.fpl{base:Nat}{a:World} {p:Option (RX × LB)} {e:Ending}(h:XP base b t S a p e w')(f:FP base b w a)(hb:b<w.heap.size):XP base b t S w p e w':=by
 cases p with
 | none=>exact⟨h.1,h.2.1,f.trans h.2.2⟩
 | some x=>obtain⟨x,r⟩:=x;obtain⟨eb,iN,k,j,i,g,d⟩:=h;exact⟨eb,iN,k,j.mono (λn c=>⟨a0h f.size c.1,c.2⟩),i,g,f.trans d⟩
def aaY {k:Nat}(hC:alA k)(base b nest:Nat)(t l:LB)(vs:Value)(S:LN)(w:World)(h:PA w b t l vs)(q:BL base w vs S)(hb:b<base)(hz:base<=w.heap.size)(u:S.length+l.length<=100)(f:nest<=5)(s:4*l.length+4<=k) :
 zF 201 #[zP b,zI nest] w λe w'=>XP base b t S w (M0 k nest l) e w':=by
 by_cases p:5<=nest
 .have d:M0 k nest l=none:=by unfold M0;rw[a0m p]
  delta zF;go_in
  go_wp2;go_ret;rw[d];exact⟨rfl,⟨_,_,h⟩,FP.refl _ _ _⟩
 have d:M0 k nest l=match iQ k (nest+1) [] l with | none=>none|some (x,r2)=>if bA 41 r2 then some (x,r2.tail) else none:=by unfold M0;rw[a0n p]
 have z:=hC base b (nest+1) t l vs S w h q hb hz u (by omega) s;delta zF;go_in
 go_wp2_with fail
 refine z.mono ?_;intro e m g;cases o:iQ k (nest+1) [] l with
 | none =>
   rw[o]at g d;obtain⟨rfl,⟨l',iN,i⟩,F1⟩:=g;go_wp2_with fail
   refine(jI b t l' iN 41 m i).mono ?_;rintro e j ⟨rfl,c,a⟩;have F2:=F1.aC a;clear a;cases tk 41 l'
   all_goals
    go_wp2;go_ret;rw[d];exact⟨rfl,⟨_,_,c⟩,F2⟩
 | some x =>
   obtain⟨x,r⟩:=x;rw[o]at g d;obtain⟨eb,iN,rfl,y,i,C,F1⟩:=g;have E:b<w.heap.size:=by omega
   have D:=F1.size;go_wp2_with fail
   refine(jI b t r iN 41 m i).mono ?_;rintro e j ⟨rfl,c,a⟩;have v:=((y.aY (pO.aC a (λn f=>⟨f.2,by simp;omega⟩))).mono (B:=λn=>w.heap.size<=n/\n<j.heap.size) (λn f=>⟨f.1,a0t f.2 a.size⟩));have A:=(C.aC a (by simp;omega));have F2:=F1.aC a;clear a;cases k2:tk 41 r
   .rw[jw]at k2;go_wp2;go_ret;rw[d];simp only[k2];exact⟨rfl,⟨_,_,c⟩,F2⟩
   rw[vE k2]at c;have c:=c;rw[jw]at k2;go_wp2;go_ret;rw[d];simp only[k2];exact⟨eb,iN,rfl,v,c,A,F2⟩
def ahu(k nest:Nat)(c:UInt8)(r:LB):ik (k+1) nest (c::r) =
 if c==40 then M0 k nest r
 else if c==91 then (nT r).map (λx=>(.one x.1,x.2))
 else if c==46 then some (.one fU,r)
 else if c==92 then (match r with | []=>none|d::r2=>some (.one (2 ^ d.toNat),r2))
 else if iI c then none
 else some (.one (2 ^ c.toNat),r):=by
 conv=>lhs;unfold ik
 simp only[]
 split
 .rfl
 split
 .cases nT r with
  | none=>rfl
  | some x=>obtain⟨s,q⟩:=x;rfl
 rfl
theorem adA(c:Nat):pU 0 c (c+1-c)=2 ^ c:=by rw[show c+1-c=1 by omega];simp[pU]
def BF{base:Nat} {e:Ending}
 (h:∃(eb:Nat) (iN:Value),e=zR (zP eb)/\w.heap.size<=eb/\XB w' eb s/\PA w' b t l iN/\BL base w' iN (S++[s])/\FP base b w w'):XP base b t S w (some (.one s,l)) e w' :=
 SP.xp (p:=some (s,l)) h
def rT:wd 0 0=0/\wd 0 1=0/\wd 0 2=0/\wd 0 3=0:=by decide
def XP.ret{base:Nat} {p:Option (RX × LB)} {e:Ending}(h:XP base b t S w p e w'):∃q,e=zR (.pointer q):=by
 cases p with
 | none=>exact⟨_,h.1⟩
 | some x=>obtain⟨eb,iN,a,_⟩:=h;exact⟨_,a⟩
def afm(w:World):zF 204 #[.agg #[.int .u64 0,.int .u64 0,.int .u64 0,.int .u64 0]] w λe w'=>e=zR (bv fU)/\aB [] w w':=by
 have h:=WY 0 w;unfold bv at h;rw[rT.1,rT.2.1,rT.2.2.1,rT.2.2.2]at h;have e:aly 0=fU:=by decide
 rw[e]at h;exact h
def Oy {k:Nat}(hC:alA k):afl (k+1):=by
 intro base b nest t l vs S w H HS hb hz hS hn hk;have V:b<w.heap.size:=by omega
 delta zF;go_in
 go_wp2_with fail
 refine(Bj b t l vs w H).mono ?_;rintro e I ⟨rfl,y,aZ⟩;have X:=(HS.aC aZ (by simp;omega));have F1:=FP.Tk (base:=base) aZ;have z1:=aZ.size;clear aZ;cases l with
 | nil=>go_wp2;go_ret;exact⟨rfl,⟨_,_,y⟩,F1⟩
 | cons c r =>
   have f:=ahu k nest c r;simp only[a1L]at y;simp only[a0r]at hS hk;rw[JQ];have M:=Iy c 40 (by omega);have W:=Iy c 91 (by omega);have A:=Iy c 46 (by omega);have R:=Iy c 92 (by omega);have v:=Iy c 41 (by omega);have J:=Iy c 124 (by omega);have i:=Iy c 42 (by omega);have h:=Iy c 43 (by omega);have g:=Iy c 63 (by omega);have C:=Iy c 123 (by omega);have a:=Iy c 125 (by omega);have z:=Iy c 93 (by omega);have ZP:=c.toNat_lt;cases UZ:(c==40)
   case true =>
    have f40:((c.toNat:Int)==40)=true:=M.trans UZ;rw[UZ]at f;clear M W A R v J i h g C a z;have G:=aaY hC base b nest t r vs S I y X hb (by omega) (by omega) hn (by omega);go_wp2_with fail
    refine G.mono ?_;intro e E m;have X2:=m.fpl F1 V;obtain⟨q,rfl⟩:=m.ret;clear m;go_wp2;go_ret;rw[f];exact X2
   have f40:((c.toNat:Int)==40)=false:=M.trans UZ;rw[UZ]at f;clear M;cases Sc:(c==91)
   case true =>
    have f91:((c.toNat:Int)==91)=true:=W.trans Sc;rw[Sc]at f;clear W A R v J i h g C a z;have G:=aaX base b t r vs S I y X hb (by omega) (by omega);go_wp2_with fail
    refine G.mono ?_;intro e E m;have X2:=m.xp.fpl F1 V;obtain⟨q,rfl⟩:=m.xp.ret;clear m;go_wp2;go_ret;rw[f];exact X2
   have f91:((c.toNat:Int)==91)=false:=W.trans Sc;rw[Sc]at f;clear W;cases Sd:(c==46)
   case true =>
    have f46:((c.toNat:Int)==46)=true:=A.trans Sd;rw[Sd]at f;clear A R v J i h g C a z;go_wp2_with fail
    refine(afm _).mono ?_;rintro e E ⟨rfl,N⟩;have u:aB [] I E:=zJ.trans N;have G:=(Cw base b t r vs S fU E (y.aC u (by simp)) (X.aC u (by simp)) hb (by have:=u.size;omega) (by omega));have F2:=F1.aC (u.mono (by simp));clear N u;go_wp2_with fail
    refine G.mono ?_;intro e w3 m;have X3:=(BF m).fpl F2 V;obtain⟨q,rfl⟩:=(BF m).ret;clear m;go_wp2;go_ret;rw[f];exact X3
   have f46:((c.toNat:Int)==46)=false:=A.trans Sd;rw[Sd]at f;clear A;cases Z:(c==92)
   case true =>
    have f92:((c.toNat:Int)==92)=true:=R.trans Z;rw[Z]at f;clear R v J i h g C a z;go_wp2_with fail
    refine(Bj b t r vs I y).mono ?_;rintro e E ⟨rfl,P2,N⟩;have S2:=(X.aC N (by simp;omega));have F2:=F1.aC N;have z2:=N.size;clear N;cases r with
    | nil=>go_wp2;go_ret;rw[f];exact⟨rfl,⟨_,_,P2⟩,F2⟩
    | cons d r2 =>
      rw[JQ];have hd8:=d.toNat_lt;simp only[a1L]at P2;simp only[a0r]at hS;have O:∀o,o=Obj.cells #[.int .u64 0,.int .u64 0,.int .u64 0,.int .u64 0] 261->SB (E.alloc o) E.heap.size (wd 0 0) (wd 0 1) (wd 0 2) (wd 0 3):=by intro o ho;rw[ho,rT.1,rT.2.1,rT.2.2.1,rT.2.2.2];exact SB.new rfl
      go_wp2_with fail
      refine(aaW E.heap.size 0 d.toNat d.toNat _ (by omega) (by omega) (O _ rfl)).mono ?_;rintro e T ⟨rfl,P,U⟩;rw[adA]at P;have u:aB [] E T:=((aB.refl [] E).alloc _).fresh U (a0b _);have G:=(Cw base b t r2 vs S (2 ^ d.toNat) T (P2.aC u (by simp)) (S2.aC u (by simp)) hb (by have:=u.size;omega) (by omega));have F4:=F2.aC (u.mono (by simp));obtain⟨q0,q1,q2,q3⟩:=P.cells;clear P U u;go_wp2_with fail
      refine G.mono ?_;intro e w5 m;have X5:=(BF m).fpl F4 V;obtain⟨q,rfl⟩:=(BF m).ret;clear m;go_wp2;go_ret;rw[f];exact X5
   have f92:((c.toNat:Int)==92)=false:=R.trans Z;rw[Z]at f;clear R;have n:iI c=(c==41||c==124||c==42||c==43||c==63||c==123||c==125||c==93):=rfl;cases D:(c==41)
   case true =>
    have f41:((c.toNat:Int)==41)=true:=v.trans D;have p:iI c=true:=by rw[n,D];rfl
    rw[p]at f;clear v J i h g C a z n;go_wp2;go_ret;rw[f];exact⟨rfl,⟨_,_,y⟩,F1⟩
   have f41:((c.toNat:Int)==41)=false:=v.trans D;clear v;cases F:(c==124)
   case true =>
    have f124:((c.toNat:Int)==124)=true:=J.trans F;have p:iI c=true:=by rw[n,D,F];rfl
    rw[p]at f;clear J i h g C a z n;go_wp2;go_ret;rw[f];exact⟨rfl,⟨_,_,y⟩,F1⟩
   have f124:((c.toNat:Int)==124)=false:=J.trans F;clear J;cases j:(c==42)
   case true =>
    have f42:((c.toNat:Int)==42)=true:=i.trans j;have p:iI c=true:=by rw[n,D,F,j];rfl
    rw[p]at f;clear i h g C a z n;go_wp2;go_ret;rw[f];exact⟨rfl,⟨_,_,y⟩,F1⟩
   have f42:((c.toNat:Int)==42)=false:=i.trans j;clear i;cases s:(c==43)
   case true =>
    have f43:((c.toNat:Int)==43)=true:=h.trans s;have p:iI c=true:=by rw[n,D,F,j,s];rfl
    rw[p]at f;clear h g C a z n;go_wp2;go_ret;rw[f];exact⟨rfl,⟨_,_,y⟩,F1⟩
   have f43:((c.toNat:Int)==43)=false:=h.trans s;clear h;cases x:(c==63)
   case true =>
    have f63:((c.toNat:Int)==63)=true:=g.trans x;have p:iI c=true:=by rw[n,D,F,j,s,x];rfl
    rw[p]at f;clear g C a z n;go_wp2;go_ret;rw[f];exact⟨rfl,⟨_,_,y⟩,F1⟩
   have f63:((c.toNat:Int)==63)=false:=g.trans x;clear g;cases B:(c==123)
   case true =>
    have f123:((c.toNat:Int)==123)=true:=C.trans B;have p:iI c=true:=by rw[n,D,F,j,s,x,B];rfl
    rw[p]at f;clear C a z n;go_wp2;go_ret;rw[f];exact⟨rfl,⟨_,_,y⟩,F1⟩
   have f123:((c.toNat:Int)==123)=false:=C.trans B;clear C;cases Y:(c==125)
   case true =>
    have f125:((c.toNat:Int)==125)=true:=a.trans Y;have p:iI c=true:=by rw[n,D,F,j,s,x,B,Y];rfl
    rw[p]at f;clear a z n;go_wp2;go_ret;rw[f];exact⟨rfl,⟨_,_,y⟩,F1⟩
   have f125:((c.toNat:Int)==125)=false:=a.trans Y;clear a;cases L:(c==93)
   case true =>
    have f93:((c.toNat:Int)==93)=true:=z.trans L;have p:iI c=true:=by rw[n,D,F,j,s,x,B,Y,L];rfl
    rw[p]at f;clear z n;go_wp2;go_ret;rw[f];exact⟨rfl,⟨_,_,y⟩,F1⟩
   have f93:((c.toNat:Int)==93)=false:=z.trans L;clear z;have p:iI c=false:=by rw[n,D,F,j,s,x,B,Y,L];rfl
   rw[p]at f;clear n;have O:∀o,o=Obj.cells #[.int .u64 0,.int .u64 0,.int .u64 0,.int .u64 0] 261->SB (I.alloc o) I.heap.size (wd 0 0) (wd 0 1) (wd 0 2) (wd 0 3):=by intro o ho;rw[ho,rT.1,rT.2.1,rT.2.2.1,rT.2.2.2];exact SB.new rfl
   go_wp2_with fail
   refine(aaW I.heap.size 0 c.toNat c.toNat _ (by omega) (by omega) (O _ rfl)).mono ?_;rintro e T ⟨rfl,P,U⟩;rw[adA]at P;have u:aB [] I T:=((aB.refl [] I).alloc _).fresh U (a0b _);have G:=(Cw base b t r vs S (2 ^ c.toNat) T (y.aC u (by simp)) (X.aC u (by simp)) hb (by have:=u.size;omega) (by omega));have F4:=F1.aC (u.mono (by simp));obtain⟨q0,q1,q2,q3⟩:=P.cells;clear P U u;go_wp2_with fail
   refine G.mono ?_;intro e w5 m;have X5:=(BF m).fpl F4 V;obtain⟨q,rfl⟩:=(BF m).ret;clear m;go_wp2;go_ret;rw[f];exact X5
def mE(k nest:Nat)(l:LB):Option (RX × LB) :=
 match ik k nest l with
 | none=>none
 | some (x,r)=>dQ (r.length+1) x r
def ati(k:Nat):Prop:=∀(base b nest:Nat) (t l:LB) (vs:Value) (S:LN) (w:World),PA w b t l vs->BL base w vs S->b<base->base<=w.heap.size->S.length+l.length<=100->nest<=5->4*l.length+2<=k ->
 zF 181 #[zP b,zI nest] w λe w'=>XP base b t S w (mE k nest l) e w'
def XW.new{lo:Int}(h:eb=w.heap.size):XW (w.alloc (.cells #[zI 3,.int .u64 0,.int .u64 0,.int .u64 0,.int .u64 0,zN,zP q,zI lo,zI hi] 264)) eb q lo hi:=by subst h;exact bD w _
def Tm {k:Nat}(Y:afl k):ati k:=by
 intro base b nest t l vs S w h M hb hz X c W;have A1:=Y base b nest t l vs S w h M hb hz X c W;have jE:b<w.heap.size:=by omega
 clear h M;delta zF;go_in
 go_wp2_with fail
 refine A1.mono ?_;intro e T A;cases C:ik k nest l with
 | none =>
   have E:mE k nest l=none:=by unfold mE;rw[C]
   rw[C]at A;obtain⟨rfl,⟨l',iN,f⟩,F1⟩:=A;obtain⟨G,J⟩:∃G:Option Addr,G=none:=⟨_,rfl⟩;rw[<-J];go_wp2_with fail
   go_loopg [5] 1 (λk F wr=>k=1/\F=.pointer G/\wr=T)
   exact⟨rfl,by rw[J],rfl⟩
   .obtain⟨H,rfl,rfl⟩:=hrel;go_wp2;go_ret;rw[E];exact⟨by subst J;rfl,⟨_,_,f⟩,F1⟩
 | some x =>
   obtain⟨x,r⟩:=x;have E:mE k nest l=dQ (r.length+1) x r:=by unfold mE;rw[C]
   rw[C]at A;obtain⟨eb,iN,rfl,o,f,u,F1⟩:=A;go_wp2_with fail
   go_loopg [5] (r.length+2) (λk F wr=>∃(q:Nat) (y:RX) (l':LB) (i:Nat),k=i+1/\l'.length+1<=i/\F=zP q/\XR (λn=>w.heap.size<=n/\n<wr.heap.size) wr q y/\dB y=dB x/\PA wr b t l' iN/\BL base wr iN (S++dB x)/\FP base b w wr/\dQ i y l'=dQ (r.length+1) x r)
   exact⟨eb,x,r,r.length+1,rfl,a0b _,rfl,o,rfl,f,u,F1,rfl⟩
   .clear o f u F1;obtain⟨q,y,l',i,H,JG,rfl,o,p,f,u,F1,R⟩:=hrel;obtain⟨k2,rfl⟩:∃k2,i=k2+1:=⟨i-1,by omega⟩;have s:dQ (r.length+1) x r=if DK l' then (match DJ l' with | none=>none|some (b,r)=>dQ k2 (.rep y b.1 b.2) r) else some (y,l'):=by rw[<-R];rfl
    have z1:=F1.size;clear R;go_wp2_with fail
    refine(Tj b t l' iN wr f).mono ?_;rintro e w2 ⟨rfl,z,rfl⟩;cases N:DK l'
    .have j:dQ (r.length+1) x r=some (y,l'):=by rw[s,N];rfl
     go_wp2;go_ret;rw[E,j];refine⟨q,iN,rfl,?_,f.drewN _,?_,F1.drewN _⟩
     .exact(o.aY (pO.aC ((aB.refl [] wr).drewN z) (λn c=>⟨c.2,by simp⟩))).mono (λn c=>c)
     rw[p];exact u
    have j:dQ (r.length+1) x r=match DJ l' with | none=>none|some (b,r)=>dQ k2 (.rep y b.1 b.2) r:=by rw[s,N];rfl
    go_wp2_with fail
    refine(Oa b t l' iN (wr.drewN z) (f.drewN z)).mono ?_;rintro e v ⟨a,m,ok,L,rfl,P,O,D⟩;have d:aB [b] wr v:=((aB.refl [b] wr).drewN z).trans O;have Z:=((o.aY (pO.aC d (λn c=>⟨c.2,by simp;omega⟩))).mono (B:=λn=>w.heap.size<=n/\n<v.heap.size) (λn c=>⟨c.1,a0t c.2 d.size⟩));have B3:=(u.aC d (by simp;omega));have F3:=F1.aC d;have z3:=d.size;clear O d;cases I:DJ l' with
    | none=>rw[I]at D j;obtain rfl:ok=false:=D;go_wp2;go_ret;rw[E,j];exact⟨rfl,⟨_,_,P⟩,F3⟩
    | some br =>
      obtain⟨⟨lo,hi⟩,U⟩:=br;have hlen:=(E9 I).1;have V:=vU lo hi;rw[I]at D j;obtain⟨rfl,rfl,rfl,rfl⟩:a=lo/\m=Yt hi/\ok=true/\L=U:=D;simp only at hlen;go_wp2;go_roundg (gk-1)
      .have g:=(aB.refl [] v).alloc (.cells #[zI 3,.int .u64 0,.int .u64 0,.int .u64 0,.int .u64 0,zN,zP q,zI lo,zI (Yt hi)] 264);refine⟨v.heap.size,.rep y lo hi,L,k2,by omega,by omega,rfl,?_,p,P.aC g (by simp),B3.aC g (by simp),F3.alloc _,j.symm⟩;simp only[XR];refine⟨⟨by omega,by simp⟩,q,XW.new rfl,?_⟩;exact(Z.aY (pO.aC g (λn c=>⟨c.2,by simp⟩))).mono (λn c=>⟨c.1,by simp;omega⟩)
      omega
def asn:(Tryz.prog.info? 244).map (λi=>(i.zero,i.size,i.bytes))=some (some (.pointer none),1,8):=by kernel_rfl
def LX(base:Nat)(w:World)(v:Value)(ps:LN):Prop:=w.ownsRow base 244 1 v ps.length (pv ps)
def aaZ {o:Oper} {Q:Exit->Act->World->Prop}(w:World)(e:o.guard=none)(s x:Operand)
 (ho:o.op=.call { callee:=.builtin .append,args:=#[s,x],argTypes:=#[262,262] })
 (base:Nat) (v:Value) (ps:LN) (p b1:Nat) (i:a.eval s=v) (y:LX base w v ps) (b:a.eval x=zS b1 1 1)
 (k:zC w b1 0 (zP p)) (hlen:ps.length<=1048576) (d:base<=w.heap.size)
 (h:∀g cap w',LX base w' (zS g (ps.length+1) cap) (ps++[p])->w.grownBy w' v.ownBlock->(v.ownBlock=some g\/g=w.heap.size)->g<w'.heap.size->wpList Tryz.prog ops Q rest (a.put o.dst (zS g (ps.length+1) cap)) w') :
 wpList Tryz.prog ops Q (o::rest) a w:=by
 obtain⟨f,hi,gT,t,r⟩:=info_parts asn;refine wpList_append_lies w e s x 262 ho base 244 f (.pointer none) 1 8 Tryz.underlying262 hi gT t r rfl (by decide) v ps.length (pv ps) i y (zA b1) 1 1 [zP p] b rfl ?_ (λx b=>by simp at b;subst b;rfl) (by decide) (by unfold maxLen;omega) (by omega) d w.heap.size rfl ?_
 .intro j u c
  have:j=0:=by
   cases j with
   | zero=>rfl
   | succ j=>simp at c
  subst this;rw[add0];simp at c;rw[<-c];exact k
 intro g cap w' q n m l;exact h g cap w' (by unfold LX pv;simpa[pv] using q) n m l
def j6(w:World)(v:Value)(t:TypeId)(n:Nat)(h:w.heap.size=n):zC (w.alloc (.cells #[v] t)) n 0 v:=by subst h;simp
theorem anc(l:LB):MZ l=tQ l:=by unfold MZ tQ;rw[jw,jw]
theorem ane(k nest:Nat)(acc:List RX)(l:LB):jF (k+1) nest acc l=if tQ l then some (.seq acc,l) else match mE k nest l with | none=>none|some (y,r2)=>jF k nest (acc++[y]) r2:=by
 conv=>lhs;unfold jF
 unfold mE
 split
 .rfl
 cases ik k nest l with
 | none=>rfl
 | some x=>obtain⟨x,r⟩:=x;rfl
def Yw {k nest:Nat}{r:LB}(h:mE k nest l=some (y,r)):(dB y).length+r.length<=l.length/\r.length+1<=l.length:=by
 unfold mE at h
 split at h
 .simp at h
 rename_i x b a
 have c:=Kj a;have e2:=xJ h;rw[e2.1];omega
def XN.c5(h:XN w eb k v):zC w eb 5 v:=by unfold XN at h;simp[World.cell?,h]
theorem XN.fz(h:XN w eb k v)(o:Nat):w.frozen? (zB eb o)=false:=by unfold XN at h;simp[World.frozen?,h]
theorem XN.lt(h:XN w eb k v):eb<w.heap.size:=(a0c.1 h).1
def XN.awm(h:XN w eb k v)(a:Value):XN (w.setCell (zB eb 5) a) eb k a:=by unfold XN at h |-;simp[World.setCell,h,a0v]
def XN.new(h:eb=w.heap.size):XN (w.alloc (.cells #[zI k,.int .u64 0,.int .u64 0,.int .u64 0,.int .u64 0,zN,.pointer none,zI 0,zI 0] 264)) eb k zN:=by subst h;exact bD w _
theorem XN.aC(h:XN w eb k v)(f:aB S w w')(a:eb∉S):XN w' eb k v:=(f.block eb h.lt a).trans h
def XN.fp{base:Nat}(h:XN w eb k v)(f:FP base b w w')(hb:eb≠b):XN w' eb k v:=by refine(f.block eb h.lt hb (.inr ?_)).trans h;intro cur fz e;rw[h]at e;simp at e
def LX.fp{base base':Nat}(h:LX base' w v ps)(f:FP base b w w')(hb:b<base'):LX base' w' v ps:=by
 refine⟨h.1,?_⟩;rcases h.2 with d|⟨g,cap,cur,rfl,i,a,rest⟩
 .exact .inl d
 refine .inr ⟨g,cap,cur,rfl,i,(f.block g (a0c.1 a).1 (by omega) (.inr ?_)).trans a,rest⟩;intro c fz e;rw[a]at e;simp at e
structure GX(base b eb:Nat)(kd:Int)(t:LB)(S:LN)(w wr:World)(acc:List RX)(l':LB)(v iN:Value)(ps:LN):Prop where
 nd:XN wr eb kd v
 row:LX (eb+1) wr v ps
 kids:mD (λn=>eb<n/\n<wr.heap.size/\v.ownBlock≠some n) wr ps acc
 pa:PA wr b t l' iN
 bl:BL base wr iN (S++gB acc)
 fp:FP base b w wr
 eb:w.heap.size<=eb
 len:S.length+(gB acc).length+l'.length<=100
 few:acc.length+l'.length<=101
def GX.xv{base:Nat} {kd:Int}{wr:World}(h:GX base b eb kd t S w wr acc l' v iN ps) :
 (w.heap.size<=eb/\eb<wr.heap.size)/\XV (λk=>w.heap.size<=k/\k<wr.heap.size) wr v ps/\mD (λk=>w.heap.size<=k/\k<wr.heap.size) wr ps acc:=by
 refine⟨⟨h.eb,h.nd.lt⟩,⟨wQ h.row (a1G _),?_,?_⟩,h.kids.mono ?_⟩
 .intro k c;have:=h.row.lt k c;have:=h.eb;omega
 .have:=h.kids.len;have:=h.few;omega
 intro n a;have:=h.eb;exact⟨by omega,a.2.1⟩
theorem GX.drewN{base:Nat} {kd:Int}{wr:World}(n:Nat)(h:GX base b eb kd t S w wr acc l' v iN ps):GX base b eb kd t S w (wr.drewN n) acc l' v iN ps :=
 ⟨h.nd,h.row,(h.kids.aY (pO.aC ((aB.refl [] wr).drewN n) (λk a=>⟨a.2.1,by simp⟩))),h.pa.drewN n,h.bl,h.fp.drewN n,h.eb,h.len,h.few⟩
def GX.took{base:Nat} {kd:Int}{wr c:World}{l2:LB}(h:GX base b eb kd t S w wr acc l' v iN ps)(hb:b<base)(i:base<=w.heap.size)(f:aB [b] wr c)(e:PA c b t l2 iN)(g:l2.length<=l'.length):GX base b eb kd t S w c acc l2 v iN ps:=by have d:=h.eb;have hz:=f.size;refine⟨h.nd.aC f (by simp;omega),fG h.row f (by simp;omega),?_,e,h.bl.aC f (by simp;omega),h.fp.aC f,d,by have:=h.len;omega,by have:=h.few;omega⟩;exact(h.kids.aY (pO.aC f (λn a=>⟨a.2.1,by simp;omega⟩))).mono (λn a=>⟨a.1,by omega,a.2.2⟩)
def GX.step{base:Nat} {kd:Int}{wr c j:World}{C:LB}{i:Value} {o:Obj}
 (h:GX base b eb kd t S w wr acc l' v iN ps) (hb:b<base) (ZU:base<=w.heap.size) (O:XR (λn=>wr.heap.size<=n/\n<c.heap.size) c q y) (J:PA c b t C i) (M:BL base c i (S++gB acc++dB y)) (m:FP base b wr c)
 (X:(dB y).length+C.length<=l'.length) (Y:acc.length+1+C.length<=101)
 (N:LX (eb+1) j (zS g (ps.length+1) cap) (ps++[q])) (B:(c.alloc o).grownBy j v.ownBlock) (F:v.ownBlock=some g\/g=(c.alloc o).heap.size) :
 GX base b eb kd t S w (j.setCell (zB eb 5) (zS g (ps.length+1) cap)) (acc++[y]) C (zS g (ps.length+1) cap) i (ps++[q]):=by
 have u:=h.eb;have Z:=h.nd.lt;have W:=m.size;have V:=B.size;have s:∀k,v.ownBlock=some k->eb+1<=k/\k<wr.heap.size:=λk d=>h.row.lt k d
 have I:(c.alloc o).heap.size=c.heap.size+1:=by simp
 rw[I]at V F;have F3:=(aB.refl [] c).alloc o;have F5:aB v.ownBlock.toList (c.alloc o) j:=aB.fo B;have D:=(aB.refl [eb] j).setCell (p:=(zB eb 5)) (.inl (by simp)) (zS g (ps.length+1) cap);have H:(j.setCell (zB eb 5) (zS g (ps.length+1) cap)).heap.size=j.heap.size:=by simp
 have x:∀k,k∈v.ownBlock.toList->v.ownBlock=some k:=λk d=>by rw[a0H]at d;exact d
 have n1:eb∉v.ownBlock.toList:=λl=>by have:=s _ (x _ l);omega
 have L:b∉v.ownBlock.toList:=λl=>by have:=s _ (x _ l);omega
 have aY:∀(A:Nat->Prop),(∀k,A k->k<c.heap.size/\eb<k/\v.ownBlock≠some k)->pO A c (j.setCell (zB eb 5) (zS g (ps.length+1) cap)):=by intro A R k d _;obtain⟨U,a2,T⟩:=R k d;rw[D.block k (by omega) (by simp;omega),F5.block k (by rw[I];omega) (λl=>T (x _ l)),F3.block k U (by simp)]
 have z:Value.ownBlock (zS g (ps.length+1) cap)=some g:=rfl;refine⟨?_,?_,?_,?_,?_,?_,u,?_,?_⟩
 .exact XN.awm (((h.nd.fp m (by omega)).aC F3 (by simp)).aC F5 n1) _
 .have:=ownsRow_setCell_below N (a:=(zB eb 5)) (by simp) (zS g (ps.length+1) cap)
  exact this
 .refine mD.snoc ?_ ?_
  .have k1:=h.kids.aY (pO.fp m (λn f=>⟨f.2.1,by omega⟩))
   refine(k1.aY (aY _ (λn f=>⟨by omega,f.1,f.2.2⟩))).mono ?_;intro n f;refine⟨f.1,by rw[H];omega,?_⟩;rw[z];intro e;simp only[Option.some.injEq]at e;subst e;rcases F with e|e
   .exact f.2.2 e
   omega
  refine(O.aY (aY _ (λn f=>⟨f.2,by omega,λe=>by have:=s _ e;omega⟩))).mono ?_;intro n f;refine⟨by omega,by rw[H];omega,?_⟩;rw[z];intro e;simp only[Option.some.injEq]at e;subst e;rcases F with e|e
  .have:=s _ e;omega
  omega
 .exact((J.aC F3 (by simp)).aC F5 L).aC D (by simp;omega)
 .have b1:BL base c i (S++gB (acc++[y])):=by rw[yK,Ce,<-a0M];exact M
  refine jJ (jJ (b1.aC F3 (by simp)) F5 ?_) D ?_
  .intro k d
   have G:=x k d;obtain⟨cur,fz,e⟩:=Ip (h.row.fp m (by omega)) k G;refine .inr ⟨cur,244,fz,?_,by decide⟩;rw[F3.block k (by have:=s _ G;omega) (by simp)];exact e
  intro k d;simp at d;subst d;have:=((h.nd.fp m (by omega)).aC F3 (by simp)).aC F5 n1;exact .inr ⟨_,264,_,this,by decide⟩
 .refine FP.fresh ?_ D u
  have r:=(h.fp.trans m).aC (F3.mono (by simp));refine⟨B.os.trans r.os,B.tape.trans r.tape,B.output.trans r.output,a0h r.size F5.size,?_⟩;intro k d E P;rw[F5.block k (by have:=r.size;omega) (λl=>by have:=s _ (x _ l);omega)];exact r.block k d E P
 .rw[yK,Ce,a0p];have:=h.len;omega
 simp;omega
def Tn {K:Nat}(hA:∀k,k<K->ati k):alB K:=by
 intro base b nest t l vs S w H L hb hz hS X Z;have jE:b<w.heap.size:=by omega
 delta zF;go_in
 go_wp2_with fail
 go_loopg [] K (λk wr=>∃(acc:List RX) (l':LB) (v iN:Value) (ps:LN),GX base b w.heap.size 1 t S w wr acc l' v iN ps/\4*l'.length+3<=k/\k<=K/\jF k nest acc l'=jF K nest [] l)
 case atStart =>
  have h:=(aB.refl [] w).alloc (.cells #[zI 1,.int .u64 0,.int .u64 0,.int .u64 0,.int .u64 0,zN,.pointer none,zI 0,zI 0] 264);refine⟨[],l,zN,vs,[],⟨XN.new rfl,World.ownsRow_nil _ _ _ _,?_,H.aC h (by simp),?_,(FP.refl _ _ _).alloc _,a0b _,?_,?_⟩,Z,a0b _,rfl⟩
  .simp only[mD]
  .simpa[gB] using L.aC h (by simp)
  .simpa[gB] using hS
  simp;omega
 case round =>
  clear H L;obtain⟨acc,l',v,iN,ps,G,Y,JG,A⟩:=hrel;obtain⟨k2,rfl⟩:∃k2,gk=k2+1:=⟨gk-1,by omega⟩;have I:jF K nest [] l=if tQ l' then some (.seq acc,l') else match mE k2 nest l' with | none=>none|some (y,g)=>jF k2 nest (acc++[y]) g:=by rw[<-A,ane]
  clear A;go_wp2_with fail
  refine(Qs b t l' iN wr G.pa).mono ?_;rintro e T ⟨rfl,j,rfl⟩;rw[anc];cases J:tQ l'
  case true =>
   have d:jF K nest [] l=some (.seq acc,l'):=by rw[I,J];rfl
   go_wp2;go_ret;rw[d];have c:=G.drewN j;refine⟨w.heap.size,iN,rfl,?_,c.pa,c.bl,c.fp⟩;have:=c.xv;simp only[XR];exact⟨this.1,v,ps,c.nd,this.2.1,this.2.2⟩
  case false =>
   have d:jF K nest [] l=match mE k2 nest l' with | none=>none|some (y,g)=>jF k2 nest (acc++[y]) g:=by rw[I,J];rfl
   have c:=G.drewN j;clear G;have W:=c.fp.size;have R:=(hA k2 (by omega) base b nest t l' iN (S++gB acc) (wr.drewN j) c.pa c.bl hb (by omega) (by rw[a0p];exact c.len) X (by omega));generalize wr.drewN j=T at *;go_wp2_with fail
   refine R.mono ?_;intro e f m;cases s:mE k2 nest l' with
   | none=>rw[s]at m d;obtain⟨rfl,⟨l3,r,x⟩,C⟩:=m;have F3:=c.fp.trans C;clear C;obtain⟨B,N⟩:∃B:Option Addr,B=none:=⟨_,rfl⟩;rw[<-N];go_wp2;go_ret;rw[d];exact⟨by first | rfl|(subst N;rfl),⟨_,_,x⟩,F3⟩
   | some P =>
     obtain⟨y,g⟩:=P;have U:=Yw s;rw[s]at m d;obtain⟨q,r,rfl,X3,x,B3,F3⟩:=m;have i:=c.nd.fp F3 (by omega);have c5:=i.c5;have O:=i.fz 5;have M:=i.lt;have z:=c.row.fp F3 (by omega);obtain⟨a,cap,rfl⟩:=aW z;have xg:=F3.size;have SS:=c.few;have lV:ps.length<=101:=by have:=c.kids.len;omega
     have u:acc.length+1+g.length<=101:=by omega
     have E:Value.ownBlock (.slice a ps.length cap)≠some w.heap.size:=λe=>by have:=z.lt _ e;omega
     have gc:∀o:Obj,zC (f.alloc o) w.heap.size 5 (.slice a ps.length cap):=λo=>(((aB.refl [] f).alloc o).cell (p:=(zB w.heap.size 5)) M (by simp)).trans c5
     have gf:∀o:Obj,(f.alloc o).frozen? (zB w.heap.size 5)=false:=λo=>(((aB.refl [] f).alloc o).frozen (p:=(zB w.heap.size 5)) M (by simp)).trans O
     clear i;go_wp2_with (first | (at_builtin;refine aaZ _ rfl _ _ rfl (w.heap.size+1) (.slice a ps.length cap) ps q f.heap.size rfl (z.alloc _) rfl (j6 _ _ _ _ rfl) (by omega) (by simp;omega) ?_;intro gg aU w5 F n D V;have c6:=(n.cell_far (zB w.heap.size 5) (by simp;omega) (Ne.symm E)).trans (gc _);have z6:=(n.frozen_far (zB w.heap.size 5) (by simp;omega) (Ne.symm E)).trans (gf _);have G5:=c.step hb hz X3 x B3 F3 U.1 u F n D;clear F n D V))
     go_roundg k2;exact⟨_,_,_,_,_,G5,by omega,by omega,d.symm⟩;omega
def Qt(k nest:Nat)(acc:List RX)(l:LB):Option (RX × LB) :=
 if acc.isEmpty then iQ k nest [] l else if bA 124 l then iQ k nest acc l.tail else some (.alt acc,l)
def aa1(k nest:Nat)(acc:List RX)(l:LB):iQ (k+1) nest acc l=match jF k nest [] l with | none=>none|some (x,r)=>Qt k nest (acc++[x]) r:=by
 conv=>lhs;unfold iQ
 cases jF k nest [] l with
 | none=>rfl
 | some x =>
   obtain⟨x,r⟩:=x;have:(acc++[x]).isEmpty=false:=by cases acc<;>rfl
   simp only[Qt,this]
   rfl
def Yy {K:Nat}(hA:∀k,k<K->alB k):alA K:=by
 intro base b nest t l vs S w H HS hb hz hS hn hk;have jE:b<w.heap.size:=by omega
 delta zF;go_in
 go_wp2_with fail
 go_loopg [] K (λk wr=>∃(acc:List RX) (l':LB) (v iN:Value) (ps:LN),GX base b w.heap.size 2 t S w wr acc l' v iN ps/\(acc=[]->4*l'.length+4<=k)/\4*l'.length<=k/\k<=K/\Qt k nest acc l'=iQ K nest [] l)
 case atStart =>
  have F:=(aB.refl [] w).alloc (.cells #[zI 2,.int .u64 0,.int .u64 0,.int .u64 0,.int .u64 0,zN,.pointer none,zI 0,zI 0] 264);refine⟨[],l,zN,vs,[],⟨XN.new rfl,World.ownsRow_nil _ _ _ _,?_,H.aC F (by simp),?_,(FP.refl _ _ _).alloc _,a0b _,?_,?_⟩,λ_=>hk,by omega,a0b _,rfl⟩
  .simp only[mD]
  .simpa[gB] using HS.aC F (by simp)
  .simpa[gB] using hS
  simp;omega
 case round =>
  clear H HS;obtain⟨acc,l',v,iN,ps,G0,E,JG,Vo,U⟩:=hrel;have iG:=G0.row;obtain⟨a,cap,rfl⟩:=aW iG;have c5:=G0.nd.c5;have z:=G0.kids.len;have SS:=G0.few;cases acc with
  | nil =>
    have D:ps.length=0:=by simpa using z
    have kM:((ps.length:Int)==0)=true:=by rw[D];rfl
    have hk4:=E rfl;obtain⟨k2,rfl⟩:∃k2,gk=k2+1:=⟨gk-1,by omega⟩;have h:iQ K nest [] l=match jF k2 nest [] l' with | none=>none|some (x,r)=>Qt k2 nest ([]++[x]) r:=by rw[<-U];unfold Qt;simp only[List.isEmpty_nil,a0G];exact aa1 k2 nest [] l'
    have hzr:=G0.fp.size;have hlen:=G0.len;simp only[gB,a1e]at hlen;have axQ:l'.length<=100:=by omega
    have Q:=(hA k2 (by omega) base b nest t l' iN (S++gB []) wr G0.pa G0.bl hb (by omega) (by simp[gB];omega) hn (by omega));clear U iG z D hlen;go_wp2_with fail
    refine Q.mono ?_;intro e c f;cases m:jF k2 nest [] l' with
    | none=>rw[m]at f h;obtain⟨rfl,⟨l3,j,u⟩,I⟩:=f;have F3:=G0.fp.trans I;clear I;obtain⟨C,T⟩:∃C:Option Addr,C=none:=⟨_,rfl⟩;rw[<-T];go_wp2;go_ret;rw[h];exact⟨by first | rfl|(subst T;rfl),⟨_,_,u⟩,F3⟩
    | some X =>
      obtain⟨y,Y⟩:=X;have B:=yL m;simp only[gB,a1e,a1n]at B;rw[m]at f h;obtain⟨q,j,rfl,X3,u,B3,F3⟩:=f;have d:=G0.nd.fp F3 (by omega);have c5:=d.c5;have W:=d.fz 5;have P:=d.lt;have O:=G0.row.fp F3 (by omega);have xg:=F3.size;have z:ps.length<=101:=by have:=G0.kids.len;have:=G0.few;omega
      have s:(([]:List RX)).length+1+Y.length<=101:=by simp;omega
      have L:Value.ownBlock (.slice a ps.length cap)≠some w.heap.size:=λe=>by have:=O.lt _ e;omega
      have gc:∀o:Obj,zC (c.alloc o) w.heap.size 5 (.slice a ps.length cap):=λo=>(((aB.refl [] c).alloc o).cell (p:=(zB w.heap.size 5)) P (by simp)).trans c5
      have gf:∀o:Obj,(c.alloc o).frozen? (zB w.heap.size 5)=false:=λo=>(((aB.refl [] c).alloc o).frozen (p:=(zB w.heap.size 5)) P (by simp)).trans W
      clear d;go_wp2_with (first | (at_builtin;refine aaZ _ rfl _ _ rfl (w.heap.size+1) (.slice a ps.length cap) ps q c.heap.size rfl (O.alloc _) rfl (j6 _ _ _ _ rfl) (by omega) (by simp;omega) ?_;intro gg aU w5 N g J Z;have c6:=(g.cell_far (zB w.heap.size 5) (by simp;omega) (Ne.symm L)).trans (gc _);have z6:=(g.frozen_far (zB w.heap.size 5) (by simp;omega) (Ne.symm L)).trans (gf _);have G5:=G0.step hb hz X3 u B3 F3 B.1 s N g J;clear N g J Z))
      go_roundg k2;exact⟨_,_,_,_,_,G5,λe=>by simp at e,by omega,by omega,h.symm⟩;omega
  | cons x0 awn =>
    have bJ:¬ ps.length=0:=by rw[z];simp
    have kM:((ps.length:Int)==0)=false:=a0j.2 (by omega);generalize M:x0::awn=acc at *;have hae:acc.isEmpty=false:=by rw[<-M];rfl
    have n:iQ K nest [] l=if bA 124 l' then iQ gk nest acc l'.tail else some (.alt acc,l'):=by rw[<-U];unfold Qt;rw[hae];rfl
    clear U E z M;go_wp2_with fail
    refine(jI b t l' iN 124 wr G0.pa).mono ?_;rintro e w2 ⟨rfl,A,V⟩;cases k2:tk 124 l'
    case false =>
     rw[wU k2]at A;have R:=G0.took hb hz V A (a0b _);rw[jw]at k2;have Hr:iQ K nest [] l=some (.alt acc,l'):=by rw[n,k2];rfl
     clear A V;go_wp2;go_ret;rw[Hr];refine⟨w.heap.size,iN,rfl,?_,R.pa,R.bl,R.fp⟩;have:=R.xv;simp only[XR];exact⟨this.1,_,ps,R.nd,this.2.1,this.2.2⟩
    case true =>
     rw[vE k2]at A;have Bh:=jg (by rw[<-jw];exact k2);have G:=G0.took hb hz V A (by omega);rw[jw]at k2;have axR:acc.length+1+l'.tail.length<=101:=by omega
     obtain⟨i,rfl⟩:∃i,gk=i+1:=⟨gk-1,by omega⟩;have h:iQ K nest [] l=match jF i nest [] l'.tail with | none=>none|some (x,r)=>Qt i nest (acc++[x]) r:=by rw[n,k2];exact aa1 i nest acc l'.tail
     have hzr:=G.fp.size;have hlen:=G.len;have Q:=(hA i (by omega) base b nest t l'.tail iN (S++gB acc) w2 G.pa G.bl hb (by omega) (by rw[a0p];exact hlen) hn (by omega));clear A V G0 n hlen c5;go_wp2_with fail
     refine Q.mono ?_;intro e c f;cases m:jF i nest [] l'.tail with
     | none=>rw[m]at f h;obtain⟨rfl,⟨l3,j,u⟩,I⟩:=f;have F3:=G.fp.trans I;clear I;obtain⟨C,T⟩:∃C:Option Addr,C=none:=⟨_,rfl⟩;rw[<-T];go_wp2;go_ret;rw[h];exact⟨by first | rfl|(subst T;rfl),⟨_,_,u⟩,F3⟩
     | some X =>
       obtain⟨y,Y⟩:=X;have B:=yL m;simp only[gB,a1e,a1n]at B;rw[m]at f h;obtain⟨q,j,rfl,X3,u,B3,F3⟩:=f;have d:=G.nd.fp F3 (by omega);have c5:=d.c5;have W:=d.fz 5;have P:=d.lt;have O:=G.row.fp F3 (by omega);have xg:=F3.size;have z:ps.length<=101:=by have:=G.kids.len;have:=G.few;omega
       have s:(acc).length+1+Y.length<=101:=by omega
       have L:Value.ownBlock (.slice a ps.length cap)≠some w.heap.size:=λe=>by have:=O.lt _ e;omega
       have gc:∀o:Obj,zC (c.alloc o) w.heap.size 5 (.slice a ps.length cap):=λo=>(((aB.refl [] c).alloc o).cell (p:=(zB w.heap.size 5)) P (by simp)).trans c5
       have gf:∀o:Obj,(c.alloc o).frozen? (zB w.heap.size 5)=false:=λo=>(((aB.refl [] c).alloc o).frozen (p:=(zB w.heap.size 5)) P (by simp)).trans W
       clear d;go_wp2_with (first | (at_builtin;refine aaZ _ rfl _ _ rfl (w.heap.size+1) (.slice a ps.length cap) ps q c.heap.size rfl (O.alloc _) rfl (j6 _ _ _ _ rfl) (by omega) (by simp;omega) ?_;intro gg aU w5 N g J Z;have c6:=(g.cell_far (zB w.heap.size 5) (by simp;omega) (Ne.symm L)).trans (gc _);have z6:=(g.frozen_far (zB w.heap.size 5) (by simp;omega) (Ne.symm L)).trans (gf _);have G5:=G.step hb hz X3 u B3 F3 B.1 s N g J;clear N g J Z))
       go_roundg i;exact⟨_,_,_,_,_,G5,λe=>by simp at e,by omega,by omega,h.symm⟩;omega
def ahv:∀K,alA K/\alB K/\(∀k,k+1=K->afl K):=by
 intro K
 induction K using Nat.strongRecOn with
 | _ K c =>
   have e:∀k,k<K->afl k:=by
    intro k a;cases k with
    | zero=>intro base b nest t l vs S w _ _ _ _ _ _ f;omega
    | succ k=>exact Oy (c k (by omega)).1
   have d:alB K:=Tn (λk a=>Tm (e k a));refine⟨Yy (λk a=>(c k a).2.1),d,?_⟩;rintro k rfl;exact Oy (c k (by omega)).1
def PlC(x:RX):Prop:=∀(A:Nat->Prop) (w:World) (p:Nat),XR A w p x->uO x->jX x<=100 ->
 zF 140 #[zP p] w λe w'=>e=zR (zI (dI x))/\w=w'
theorem XB.c0(h:XB w eb s):zC w eb 0 (zI 0):=by unfold XB at h;simp[World.cell?,h]
theorem XN.c0(h:XN w eb k v):zC w eb 0 (zI k):=by unfold XN at h;simp[World.cell?,h]
theorem XW.c0{lo:Int}(h:XW w eb q lo hi):zC w eb 0 (zI 3):=by unfold XW at h;simp[World.cell?,h]
def XW.c6{lo:Int}(h:XW w eb q lo hi):zC w eb 6 (zP q):=by unfold XW at h;simp[World.cell?,h]
theorem XW.c7{lo:Int}(h:XW w eb q lo hi):zC w eb 7 (zI lo):=by unfold XW at h;simp[World.cell?,h]
theorem XW.c8{lo:Int}(h:XW w eb q lo hi):zC w eb 8 (zI hi):=by unfold XW at h;simp[World.cell?,h]
def mD.get {A:Nat->Prop}:∀{ps:LN} {l:List RX},mD A w ps l->∀(j:Nat) (a:j<l.length),∃p,ps[j]?=some p/\XR A w p l[j]
 | [],[],_,j,a=>by simp at a
 | p::ps,x::l,h,j,a=>by
   simp only[mD]at h;cases j with
   | zero=>exact⟨p,rfl,h.1⟩
   | succ j=>obtain⟨q,c,b⟩:=mD.get h.2 j (by simpa using a);exact⟨q,by simpa using c,by simpa using b⟩
 | [],_::_,h,_,_=>by simp only[mD]at h
 | _::_,[],h,_,_=>by simp only[mD]at h
theorem XV.cell {A:Nat->Prop}(h:XV A w (zS g n cap) ps){p:Nat}(b:ps[j]?=some p):zC w g j (zP p):=by have a:=World.ownsRow.cells h.1 (g:=g) rfl j (zP p) (by simp[pv,b]);rw[add0]at a;exact a
def ahw(l:List RX)(j:Nat)(d:j<l.length):bV (l.take (j+1))=bV (l.take j)+dI l[j]:=by
 have app:∀(a b:List RX),bV (a++b)=bV a+bV b:=by
  intro a b
  induction a with
  | nil=>simp[bV]
  | cons x a c=>simp only[a0L,bV,c];omega
 rw[a0F d,app];simp[bV]
def JC:∀{l:List RX} {e:RX},mZ l->e∈l->uO e
 | x::r,e,h,he=>by
   rcases a0l.1 he with a|a
   .rw[a];exact h.1
   exact JC h.2 a
def aa2(l:List RX)(hd:mZ l)(ht:gu l<=100)(j:Nat):bV (l.take j)<=40000:=by
 have b:∀(l:List RX) (j:Nat),bV (l.take j)<=bV l:=by
  intro l
  induction l with
  | nil=>intro j;simp[bV]
  | cons x r a =>
    intro j;cases j with
    | zero=>simp[bV]
    | succ j=>have:=a j;simp only[a2J,bV];omega
 have d:=MJ hd;have c:=b l j;omega
def ahx(s:Nat):PlC (.one s):=by
 intro A w p h hd ht;simp only[XR]at h;have c0:=h.2.c0;delta zF;go_in
 go_wp2;go_ret;exact⟨rfl,rfl⟩
def Oz(A:Nat->Prop)(w:World)(p:Nat)(kd:Int)(v:Value)(ps:LN)(l:List RX)(o:kd=1\/kd=2)(i:XN w p kd v)(b:XV A w v ps)(s:mD A w ps l)(hd:mZ l)(ht:gu l<=100)(E:∀y∈l,PlC y) :
 zF 140 #[zP p] w λe w'=>e=zR (zI (bV l))/\w=w':=by
 obtain⟨a,cap,rfl⟩:=aW b.1;have c0:=i.c0;have c5:=i.c5;have x:=s.len;have G:=ht;have k0:(kd==0)=false:=a0j.2 (by omega);have L:(kd==3)=false:=a0j.2 (by omega);have u:∀j,bV (l.take j)<=40000:=λj=>aa2 l hd ht j
 have I:ps.length<=1048576:=by have:=b.2.2;omega
 clear ht i o;delta zF;go_in
 go_wp2_with fail
 go_loopg [3,21] ps.length (λk B C wr=>∃(j:Nat),j+k=ps.length/\C=zI j/\B=zI (bV (l.take j))/\wr=w)
 exact⟨0,by omega,rfl,rfl,rfl⟩
 .obtain⟨j,M,rfl,rfl,F⟩:=hrel;subst F
  by_cases O:j<ps.length
  .have f:j<l.length:=by have:=x;omega
   obtain⟨q,hq,r⟩:=s.get j f;obtain⟨g,rfl⟩:∃g,a=some (zA g):=by
    rcases b.1.2 with⟨e,h⟩|⟨g,c,cur,e,_⟩
    .simp at e;omega
    simp at e;exact⟨g,e.1⟩
   have N:=b.cell hq;have d:=a0u f;have t:=ahw l j f;have J:=u j;have D:=u (j+1);rw[t]at D;have z:jX l[j]<=100:=by have:=(Bu d).2;have:=G;omega
   have PR:=E _ d _ _ _ r (JC hd d) z;generalize dI l[j]=m at *;generalize bV (l.take j)=n at *;clear r d z hq;go_wp2_with fail
   refine PR.mono ?_;rintro e H ⟨rfl,rfl⟩;go_wp2;go_roundg (gk-1);exact⟨j+1,by omega,by go_num,by rw[t];go_num,rfl⟩;omega
  have ht:l.take j=l:=a0C (by have:=x;omega);rw[ht];go_wp2;go_ret;exact⟨rfl,rfl⟩
def ahy(x:RX)(lo:Nat)(hi:Option Nat)(i:PlC x):PlC (.rep x lo hi):=by
 intro A w p h hd ht;simp only[XR]at h;obtain⟨v,q,b,j⟩:=h;have c0:=b.c0;have c6:=b.c6;have c7:=b.c7;have c8:=b.c8;have l:=vU lo hi;simp only[jX]at ht;have PR:=i A w q j hd.1 (by omega);have s:=ZN hd.1;have u:=hd.2.1;have k:=hd.2.2;have c:dI (.rep x lo hi)=if 40<dI x then dI x else dI x*times lo hi:=rfl;clear b j hd i;have t:zF 156 #[zP p] w λe w'=>e=zR (zI (dI (.rep x lo hi)))/\w=w':=by
  generalize dI x=n at *
  by_cases g:40<n
  .have a:dI (.rep x lo hi)=n:=by rw[c,a0m g]
   delta zF;go_in
   go_wp2_with fail
   refine PR.mono ?_;rintro e d ⟨rfl,rfl⟩;go_wp2;go_ret;rw[a];exact⟨rfl,rfl⟩
  cases hi with
  | none =>
    have a:dI (.rep x lo none)=n*(lo+1):=by rw[c,a0n g];rfl
    have r:n*(lo+1)<=40*10:=a0D (by omega) (by omega);delta zF;go_in
    go_wp2_with fail
    refine PR.mono ?_;rintro e d ⟨rfl,rfl⟩;simp only[Yt]at c8;have f:(n:Int)*((lo:Int)+1)=((n*(lo+1):Nat):Int):=by simp
    generalize n*(lo+1)=z at *;go_wp2;go_ret;rw[a];exact⟨by first | rfl|(rw[<-f];rfl),rfl⟩
  | some m =>
    have o:=k m rfl;have a:dI (.rep x lo (some m))=n*m:=by rw[c,a0n g];rfl
    have r:n*m<=40*9:=a0D (by omega) (by omega);have y:((m:Int) == -1)=false:=a0j.2 (by omega);delta zF;go_in
    go_wp2_with fail
    refine PR.mono ?_;rintro e d ⟨rfl,rfl⟩;simp only[Yt]at c8;have f:(n:Int)*(m:Int)=((n*m:Nat):Int):=by simp
    generalize n*m=z at *;go_wp2;go_ret;rw[a];exact⟨by first | rfl|(rw[<-f];rfl),rfl⟩
 clear c;delta zF;go_in
 go_wp2_with fail
 refine t.mono ?_;rintro e d ⟨rfl,rfl⟩;go_wp2;go_ret;exact⟨rfl,rfl⟩
def ahz(l:List RX)(a:∀y∈l,PlC y):PlC (.seq l):=by intro A w p h hd ht;simp only[XR]at h;obtain⟨e,v,ps,d,c,b⟩:=h;exact Oz A w p 1 v ps l (.inl rfl) d c b hd ht a
def ahA(l:List RX)(a:∀y∈l,PlC y):PlC (.alt l):=by intro A w p h hd ht;simp only[XR]at h;obtain⟨e,v,ps,d,c,b⟩:=h;simp only[jX]at ht;exact Oz A w p 2 v ps l (.inr rfl) d c b hd (by omega) a
mutual
theorem Lb:∀(x:RX),PlC x
 | .one s=>ahx s
 | .seq l=>ahz l (Iz l)
 | .alt l=>ahA l (Iz l)
 | .rep x lo hi=>ahy x lo hi (Lb x)
theorem Iz:∀(l:List RX),∀y∈l,PlC y
 | [],y,a=>by simp at a
 | x::r,y,a=>by
   rcases a0l.1 a with h|h
   .rw[h];exact Lb x
   exact Iz r y h
end
def WP(base b:Nat)(t:LB)(w:World)(p:Option RX)(e:Ending)(w':World):Prop :=
 match p with
 | some x=>∃(eb:Nat) (iN:Value),e=zR (zP eb)/\XR (λk=>w.heap.size<=k/\k<w'.heap.size) w' eb x/\PA w' b t [] iN/\BL base w' iN (dB x)/\FP base b w w'
 | none=>e=zR (.pointer none)/\FP base b w w'
def aj6(base b:Nat)(t:LB)(w:World)(h:PA w b t t zN)(hb:b<base)(hz:base<=w.heap.size)(ht:t.length<=100) :
 zF 139 #[zP b] w λe w'=>WP base b t w (fF t) e w':=by
 have C:=((ahv (4*t.length+4)).1 base b 0 t t zN [] w h (BL.nil _ _) hb hz (by simp;exact ht) (by omega) (a0b _));have a:fF t=match iQ (4*t.length+4) 0 [] t with | some (x,[])=>some x|_=>none:=rfl;have q:=bL t;clear h;delta zF;go_in
 go_wp2_with fail
 refine C.mono ?_;intro e m f;cases o:iQ (4*t.length+4) 0 [] t with
 | none =>
   rw[o]at f a;obtain⟨rfl,⟨l',iN,i,d,s⟩,F⟩:=f;have c0:=d.c0;have c1:=d.c1;have hi:=d.2.1;clear d
   by_cases g:i<t.length
   .have k:decide ((i:Int)<(t.length:Int))=true:=a0g (by omega)
    go_wp2_with fail
    go_quiet (fail)
    go_wp2;go_ret;rw[a];exact⟨rfl,F.drewN _⟩
   have k:decide ((i:Int)<(t.length:Int))=false:=a0f (by omega);go_wp2_with fail
   go_quiet (fail)
   go_wp2;go_ret;rw[a];exact⟨rfl,F.drewN _⟩
 | some p =>
   obtain⟨x,r⟩:=p;rw[o]at f a;obtain⟨eb,iN,rfl,X,⟨i,P,D⟩,B,F⟩:=f;have c0:=P.c0;have c1:=P.c1;have hi:=P.2.1
   by_cases g:i<t.length
   .have k:decide ((i:Int)<(t.length:Int))=true:=a0g (by omega)
    obtain⟨_,c⟩:=(drop_cons D).1 g;have l:fF t=none:=by rw[a,c]
    clear c;go_wp2_with fail
    go_quiet (fail)
    go_wp2;go_ret;rw[l];exact⟨rfl,F.drewN _⟩
   have k:decide ((i:Int)<(t.length:Int))=false:=a0f (by omega);have c:=(drop_cons D).2 g;have l:fF t=some x:=by rw[a,c]
   clear c;go_wp2_with fail
   go_quiet (fail)
   go_wp2;go_ret;rw[l];refine⟨eb,iN,rfl,?_,⟨i,P.drewN _,?_⟩,?_,F.drewN _⟩
   .exact(X.aY (pO.aC ((aB.refl [] m).drewN _) (λn j=>⟨j.2,by simp⟩))).mono (λn j=>j)
   .exact(drop_cons D).2 g ▸ D
   have b2:BL base m iN (dB x):=by simpa using B
   exact b2
def afn(w0 w1 w2 w3:Nat)(q r:Nat)(w:World)(hq:q<4)(hr:r<64)(h0:w0<18446744073709551616)(h1:w1<18446744073709551616)(h2:w2<18446744073709551616)(h3:w3<18446744073709551616) :
 zF 192 #[.agg #[.int .u64 w0,.int .u64 w1,.int .u64 w2,.int .u64 w3],.int .u8 (64*q+r:Nat)] w λe w'=>e=zR (.bool ((if q=0 then w0 else if q=1 then w1 else if q=2 then w2 else w3).testBit r))/\w'=w.alloc (.cells #[.int .u64 w0,.int .u64 w1,.int .u64 w2,.int .u64 w3] 261):=by
 have hd:((64*q+r:Nat):Int).tdiv 64=q:=by rw[a2z (by omega)];omega
 have hm:((64*q+r:Nat):Int).tmod 64=r:=by rw[a2f (by omega)];omega
 have aL:64*q+r<256:=by omega
 generalize 64*q+r=c at *;rcases(by omega:q=0\/q=1\/q=2\/q=3) with rfl|rfl|rfl|rfl
 ·delta zF;go_in
  go_wp2;go_ret;exact⟨by rw[<-zZ _ _ h0];rfl,rfl⟩
 ·delta zF;go_in
  go_wp2;go_ret;exact⟨by rw[<-zZ _ _ h1];rfl,rfl⟩
 ·delta zF;go_in
  go_wp2;go_ret;exact⟨by rw[<-zZ _ _ h2];rfl,rfl⟩
 delta zF;go_in
 go_wp2;go_ret;exact⟨by rw[<-zZ _ _ h3];rfl,rfl⟩
def aso(s:Nat)(c:Nat)(w:World)(a:c<256) :
 zF 192 #[.agg #[.int .u64 (wd s 0),.int .u64 (wd s 1),.int .u64 (wd s 2),.int .u64 (wd s 3)],.int .u8 c] w λe w'=>e=zR (.bool (s.testBit c))/\w'=w.alloc (.cells #[.int .u64 (wd s 0),.int .u64 (wd s 1),.int .u64 (wd s 2),.int .u64 (wd s 3)] 261):=by
 have h:=afn (wd s 0) (wd s 1) (wd s 2) (wd s 3) (c / 64) (c % 64) w (by omega) (a3i _ (by decide)) (jv _ _) (jv _ _) (jv _ _) (jv _ _);rw[show 64*(c / 64)+c % 64=c by omega]at h;have e:(if c / 64=0 then wd s 0 else if c / 64=1 then wd s 1 else if c / 64=2 then wd s 2 else wd s 3).testBit (c % 64)=s.testBit c:=by
  have b:c / 64<4:=by omega
  have key:(wd s (c / 64)).testBit (c % 64)=s.testBit c:=by rw[zk _ _ _ (a3i _ (by decide)),show 64*(c / 64)+c % 64=c by omega]
  rw[<-key];rcases(by omega:c / 64=0\/c / 64=1\/c / 64=2\/c / 64=3) with h|h|h|h<;>simp[h]
 rw[e]at h;exact h
def apart(S:LN)(a b:Nat):Bool:=S.any λs=>s.testBit a != s.testBit b
theorem BL.cell {base:Nat}(h:BL base w (zS g n cap) S)(d:S[j]?=some s)(k:Nat)(b:k<4):w.cell? (zB g (j*4+k))=(Ea s)[k]?:=by have c:=flat_get Ea 4 (λa=>rfl) S j k s d b;have e:=World.ownsRow.cells h (g:=g) rfl (j*4+k);have f:k<(Ea s).length:=b;rw[a0a f]at c |-;have:=e _ c;rw[add0]at this;exact this
def aa3(base:Nat)(vs:Value)(S:LN)(a b:Nat)(w:World)(q:BL base w vs S)(J:a<256)(hb:b<256)(L:S.length<=1000) :
 zF 182 #[vs,.int .u8 a,.int .u8 b] w λe w'=>e=zR (.bool (apart S a b))/\aB [] w w':=by
 obtain⟨r,cap,rfl⟩:=aW q;delta zF;go_in
 go_wp2_with fail
 go_loopg [11] S.length (λk v wr=>∃(j:Nat),j+k=S.length/\v=zI j/\apart (S.drop j) a b=apart S a b/\aB [] w wr)
 exact⟨0,by omega,rfl,rfl,zK⟩
 .obtain⟨j,I,rfl,p,F⟩:=hrel
  by_cases t:j<S.length
  .have o:BL base wr (.slice r S.length cap) S:=q.aC F (by simp)
   obtain⟨g,rfl⟩:∃g,r=some (zA g):=by
    rcases o.2 with⟨e,h⟩|⟨g,c,cur,e,_⟩
    .omega
    simp at e;exact⟨g,e.1⟩
   have i:S[j]?=some S[j]:=a0a t;have f:=λk x=>o.cell i k x
   have u:S.drop j=S[j]::S.drop (j+1):=a0k t;generalize S[j]=s at *;have H:zC wr g (j*4) (.int .u64 (wd s 0)):=f 0 (by omega);have G:zC wr g (j*4+1) (.int .u64 (wd s 1)):=f 1 (by omega);have E:zC wr g (j*4+2) (.int .u64 (wd s 2)):=f 2 (by omega);have D:zC wr g (j*4+3) (.int .u64 (wd s 3)):=f 3 (by omega);have n:apart S a b=((s.testBit a != s.testBit b)||apart (S.drop (j+1)) a b):=by rw[<-p,u];rfl
   have z:=(λ(c:Nat) (f:c<256) (w:World)=>aso s c w f);generalize s.testBit=fb at *;clear f o i p u;generalize wd s 0=C at *;generalize wd s 1=s1 at *;generalize wd s 2=s2 at *;generalize wd s 3=B at *;go_wp2_with fail
   go_region_with (go_at_call 192;refine(z _ (by assumption) _).mono ?_;rintro e A ⟨rfl,rfl⟩)
   all_goals
    cases m:fb a
    .cases l:fb b
     .have d:apart (S.drop (j+1)) a b=apart S a b:=by rw[n,m,l];rfl
      go_wp2;go_roundg (gk-1);exact⟨j+1,by omega,by go_num,d,((((F.alloc _).alloc _).alloc _).drew)⟩;omega
     have d:apart S a b=true:=by rw[n,m,l];rfl
     go_wp2;go_ret;rw[d];exact⟨rfl,((((F.alloc _).alloc _).alloc _).drew)⟩
    cases l:fb b
    .have d:apart S a b=true:=by rw[n,m,l];rfl
     go_wp2;go_ret;rw[d];exact⟨rfl,((((F.alloc _).alloc _).alloc _).drew)⟩
    have d:apart (S.drop (j+1)) a b=apart S a b:=by rw[n,m,l];rfl
    go_wp2;go_roundg (gk-1);exact⟨j+1,by omega,by go_num,d,((((F.alloc _).alloc _).alloc _).drew)⟩;omega
  have y:apart S a b=false:=by rw[<-p,a0i (by omega)];rfl
  go_wp2;go_ret;rw[y];exact⟨rfl,F⟩
def NL(k:IntKind)(w:World)(v:Value)(L:LN):Prop :=
 ∃a cap,v=.slice a L.length cap/\∀(j:Nat) (h:j<L.length),∃g off,a=some (zB g off)/\g<w.heap.size/\w.cell? (zB g (off+j))=some (.int k L[j])
theorem NL.aC {k:IntKind}(h:NL k w v L)(f:aB S w w')(e:∀a n c,v=.slice (some a) n c->a.block∉S):NL k w' v L:=by obtain⟨a,cap,rfl,l⟩:=h;refine⟨a,cap,rfl,?_⟩;intro j d;obtain⟨g,off,rfl,b,i⟩:=l j d;exact⟨g,off,rfl,a0t b f.size,(f.cell (p:=(zB g (off+j))) b (e (zB g off) _ _ rfl)).trans i⟩
def aj7(v:Value)(L:LN)(n:Nat)(w:World)(l:NL .i64 w v L)(s:L.length<=1048576) :
 zF 161 #[v,zI n] w λe w'=>e=zR (zI (L.findIdx (·==n)))/\w=w':=by
 obtain⟨a,cap,rfl,p⟩:=l;delta zF;go_in
 go_wp2_with fail
 go_loopg [9] L.length (λk h wr=>∃(j:Nat),j+k=L.length/\h=zI j/\wr=w/\j+(L.drop j).findIdx (·==n)=L.findIdx (·==n))
 exact⟨0,by omega,rfl,rfl,by simp⟩
 .obtain⟨j,q,rfl,i,c⟩:=hrel;subst i
  by_cases f:j<L.length
  .obtain⟨g,off,rfl,_,r⟩:=p j f
   have hd:L.drop j=L[j]::L.drop (j+1):=a0k f;rw[hd,List.findIdx_cons]at c;generalize L[j]=m at *;cases b:(m==n)
   .have hb:((m:Int)==(n:Int))=false:=by rw[a0j];intro e;simp at b;omega
    rw[b]at c;have d:Z_ ((j+1)+(L.drop (j+1)).findIdx (·==n)=L.findIdx (·==n)):=by show _=_;simp at c;omega
    clear c hd;go_wp2;go_roundg (gk-1);exact⟨j+1,by omega,by go_num,rfl,d⟩;omega
   have hb:((m:Int)==(n:Int))=true:=by rw[a0W];simp at b;omega
   rw[b]at c;have d:Z_ (L.findIdx (·==n)=j):=by show _=_;simp at c;omega
   clear c hd;go_wp2;go_ret;rw[d.o];exact⟨rfl,rfl⟩
  have d:Z_ (L.findIdx (·==n)=L.length):=by show _=_;rw[<-c,a0i (by omega)];simp;omega
  clear c;go_wp2;go_ret;rw[d.o];exact⟨rfl,rfl⟩
def kU(S F:LN)(c:Nat):Nat:=F.findIdx λf=>!(apart S f c)
def afo(base:Nat)(vs v:Value)(S F:LN)(c:Nat)(w:World)(s:BL base w vs S)(z:NL .u8 w v F)(C:S.length<=1000)(hF:F.length<=1000)(y:∀f∈F,f<256)(B:c<256) :
 zF 171 #[vs,v,.int .u8 c] w λe w'=>e=zR (zI (kU S F c))/\aB [] w w':=by
 obtain⟨a,cap,rfl,D⟩:=z;obtain⟨o,q,rfl⟩:=aW s;delta zF;go_in
 go_wp2_with fail
 go_loopg [11] F.length (λk x wr=>∃(j:Nat),j+k=F.length/\x=zI j/\aB [] w wr/\j+kU S (F.drop j) c=kU S F c)
 exact⟨0,by omega,rfl,zK,by simp⟩
 .obtain⟨j,G,rfl,i,b⟩:=hrel
  by_cases r:j<F.length
  .obtain⟨g,off,rfl,A,t⟩:=D j r
   have E:=(i.cell (p:=(zB g (off+j))) A (by simp)).trans t;have n:=y _ (a0u r);have hd:F.drop j=F[j]::F.drop (j+1):=a0k r;rw[hd]at b;unfold kU at b;rw[List.findIdx_cons]at b;generalize F[j]=m at *;have T:=aa3 base (.slice o S.length q) S m c wr (s.aC i (by simp)) n B C;clear t hd;cases l:apart S m c
   .rw[l]at b
    have h:kU S F c=j:=by unfold kU;simp at b;omega
    clear b;rw[l]at T;go_wp2_with fail
    refine T.mono ?_;rintro e u ⟨rfl,d⟩;have F2:=i.trans d;clear d;go_wp2;go_ret;rw[h];exact⟨rfl,F2⟩
   rw[l]at b;have h:(j+1)+kU S (F.drop (j+1)) c=kU S F c:=by unfold kU;simp at b;omega
   clear b;rw[l]at T;go_wp2_with fail
   refine T.mono ?_;rintro e u ⟨rfl,d⟩;have F2:=i.trans d;clear d;go_wp2;go_roundg (gk-1);exact⟨j+1,by omega,by go_num,F2,h⟩;omega
  have h:kU S F c=F.length:=by rw[<-b,a0i (by omega)];unfold kU;simp;omega
  clear b;go_wp2;go_ret;rw[h];exact⟨rfl,i⟩
def UL(base:Nat)(w:World)(v:Value)(L:LN):Prop:=w.ownsRow base 5 1 v L.length (nv .u8 L)
def IL(base:Nat)(w:World)(v:Value)(L:LN):Prop:=w.ownsRow base 3 1 v L.length (nv .i64 L)
def xV {k:IntKind} {base:Nat}(h:w.ownsRow base e 1 v L.length (nv k L)):NL k w v L:=by
 obtain⟨a,cap,rfl⟩:=aW h;refine⟨a,cap,rfl,?_⟩;intro j i;rcases h.2 with⟨b,m⟩|⟨g,c,cur,b,l,f,_⟩
 .omega
 simp at b;obtain⟨rfl,rfl⟩:=b;have d:=World.ownsRow.cells h (g:=g) rfl j (.int k L[j]) (by simp[nv,i]);rw[add0]at d;exact⟨g,0,rfl,(a0c.1 f).1,by simpa using d⟩
def apQ {o:Oper} {Q:Exit->Act->World->Prop}(w:World)(d:o.guard=none)(s x:Operand)
 (ho:o.op=.call { callee:=.builtin .append,args:=#[s,x],argTypes:=#[91,91] })
 (base:Nat) (v:Value) (L:LN) (n b1:Nat) (f:a.eval s=v) (k:UL base w v L) (b:a.eval x=zS b1 1 1)
 (l:zC w b1 0 (.int .u8 n)) (hlen:L.length<=1048576) (c:base<=w.heap.size)
 (h:∀g cap w',UL base w' (zS g (L.length+1) cap) (L++[n])->w.grownBy w' v.ownBlock->(v.ownBlock=some g\/g=w.heap.size)->g<w'.heap.size->wpList Tryz.prog ops Q rest (a.put o.dst (zS g (L.length+1) cap)) w') :
 wpList Tryz.prog ops Q (o::rest) a w:=by
 obtain⟨e,hi,gT,j,i⟩:=info_parts ak6;refine wpList_append_lies w d s x 91 ho base 5 e (.int .u8 0) 1 1 Tryz.underlying91 hi gT j i rfl (by decide) v L.length (nv .u8 L) f k (zA b1) 1 1 [.int .u8 n] b rfl ?_ (λx b=>by simp at b;subst b;rfl) (by decide) (by unfold maxLen;omega) (by omega) c w.heap.size rfl ?_
 .grind [add0]
 grind [UL,nv]
def vG {o:Oper} {Q:Exit->Act->World->Prop}(w:World)(d:o.guard=none)(s x:Operand)
 (ho:o.op=.call { callee:=.builtin .append,args:=#[s,x],argTypes:=#[100,100] })
 (base:Nat) (v:Value) (L:LN) (n b1:Nat) (f:a.eval s=v) (k:IL base w v L) (b:a.eval x=zS b1 1 1)
 (l:zC w b1 0 (zI n)) (hlen:L.length<=10000000000000) (c:base<=w.heap.size)
 (h:∀g cap w',IL base w' (zS g (L.length+1) cap) (L++[n])->w.grownBy w' v.ownBlock->(v.ownBlock=some g\/g=w.heap.size)->g<w'.heap.size->wpList Tryz.prog ops Q rest (a.put o.dst (zS g (L.length+1) cap)) w') :
 wpList Tryz.prog ops Q (o::rest) a w:=by
 obtain⟨e,hi,gT,j,i⟩:=info_parts ZB;refine wpList_append_lies w d s x 100 ho base 3 e (zI 0) 1 8 Tryz.underlying100 hi gT j i rfl (by decide) v L.length (nv .i64 L) f k (zA b1) 1 1 [zI n] b rfl ?_ (λx b=>by simp at b;subst b;rfl) (by decide) (by unfold maxLen;omega) (by omega) c w.heap.size rfl ?_
 .grind [add0]
 grind [IL,nv]
def gP(S:LN):Nat->LN
 | 0=>[]
 | c+1=>if kU S (gP S c) c==(gP S c).length then gP S c++[c] else gP S c
def Xa(S:LN)(c:Nat):LN:=(List.range c).map λi=>kU S (gP S i) i
def xW(S:LN):∀c,(gP S c).length<=c/\∀f∈gP S c,f<c
 | 0=>by simp[gP]
 | c+1=>by
   have h:=xW S c;simp only[gP]
   split
   .grind
   grind
def adD(S F:LN)(c:Nat):kU S F c<=F.length:=a2U
def tu(S:LN)(c:Nat):LB:=S.map λs=>if s.testBit c then 49 else 48
def alD:∀(S:LN) (a b:Nat),(tu S a==tu S b)=!(apart S a b)
 | [],a,b=>rfl
 | s::S,a,b=>by
   have c:=alD S a b;have e:(tu (s::S) a==tu (s::S) b)=(((if s.testBit a then (49:UInt8) else 48)==(if s.testBit b then 49 else 48))&&(tu S a==tu S b)):=by simp[tu,List.cons_beq_cons]
   rw[e,c];simp only[apart,a3m];cases s.testBit a<;>cases s.testBit b<;>simp<;>decide
def anf(S F:LN)(c:Nat):(oI (F.map (tu S)) (tu S c)<0/\(kU S F c==F.length)=true)\/(0<=oI (F.map (tu S)) (tu S c)/\(kU S F c==F.length)=false):=by
 unfold oI kU;have h:∀f,(tu S f==tu S c)=!(apart S f c):=λf=>alD S f c
 rw[List.findIdx?_map];cases a:List.findIdx? ((λx=>x==tu S c) ∘ tu S) F with
 | none =>
   left
   refine⟨by simp,?_⟩;rw[a2C]at a;have:F.findIdx (λf=>!(apart S f c))=F.length:=by rw[List.findIdx_eq_length];intro x d;have:=a x d;simp only[Function.comp]at this;rw[<-h x];exact this
   rw[this];simp
 | some i =>
   right
   refine⟨by simp,?_⟩;rw[a2e]at a;obtain⟨hi,b,_⟩:=a;have e:F.findIdx (λf=>!(apart S f c))<F.length:=by rw[List.findIdx_lt_length];refine⟨F[i],a0u hi,?_⟩;simp only[Function.comp]at b;rw[<-h];exact b
   simp only[a0j];omega
def OV.other{b:TypeId} {base:Nat}{c:Value}{UK:List Value}(i:OV b base w c UK)(h:OV e2 base w v2 xs2)(j:b≠e2)(f:w.grownBy w' c.ownBlock):OV e2 base w' v2 xs2:=by
 refine jJ h (aB.fo f) ?_;intro k a
 right
 rcases i.2 with⟨e,l⟩|⟨g,cap,cur,e,hb,d,rest⟩
 .rw[e]at a;simp[Value.ownBlock]at a
 rw[e]at a;simp[Value.ownBlock]at a;subst a;exact⟨cur,b,_,d,j⟩
def OV.sl {base:Nat} {L:List LB}(h:OV 9 base w v (sv L)):SL base w v L:=by unfold OV at h;rw[arJ]at h;exact h
def ang(S:LN)(c i s:Nat)(h:S[i]?=some s):(tu S c).take (i+1)=(tu S c).take i++[if s.testBit c then 49 else 48]:=by
 rw[a1c]
 congr 1
 simp[tu,h]
def afp(w:World)(p:Nat)(t:TR)(h:RN w p t)(hl:(kP t).length<=1000) :
 zF 102 #[zP p] w λe w'=>∃v,e=zR v/\OV 3 w.heap.size w' v (nv .i64 (gP (kP t) 256))/\aB [] w w':=by
 have A:=(yO t w w p zN [] h zK (OV.nil _ _ _) (by simp;omega));clear h;obtain⟨S,HS⟩:∃S,kP t=S:=⟨_,rfl⟩;rw[HS]at hl |-;delta zF;go_in
 go_wp2_with fail
 refine A.mono ?_;rintro e w1 ⟨v1,qs,rfl,D,F1,W⟩;rw[HS]at W;obtain⟨al,E,cl,rfl,l⟩:=D.open;have Kv:qs.length=S.length:=W.len;have U:E=S.length:=by rw[l];simp;exact Kv
 clear l A;subst U;simp only[a0V]at D;go_wp2_with fail
 go_loopg [4,5,6] 256 (λk v4 v5 v6 wr=>∃(c:Nat) (F:LN),c+k=256/\v6=zI c/\F=gP S c/\OV 9 w.heap.size wr v4 (sv (F.map (tu S)))/\OV 3 w.heap.size wr v5 (nv .i64 F)/\OV 128 w.heap.size wr (.slice al S.length cl) (qs.map aM)/\aB [] w wr)
 exact⟨0,[],rfl,rfl,rfl,OV.nil _ _ _,OV.nil _ _ _,D,F1⟩
 .clear D F1;obtain⟨c,F,hck,rfl,HF,d,C,X,Fr⟩:=hrel;have gT:=Fr.size;have r:F.length<=c/\∀f∈F,f<c:=by rw[HF];exact xW S c
  obtain⟨V,m,c4,rfl,n⟩:=d.open;obtain⟨a5,G,c5,rfl,NV⟩:=C.open;have Hn4:Z_ (m=F.length):=by show _=_;rw[n];simp[sv]
  have Y9:Z_ (G=F.length):=by show _=_;rw[NV];simp[nv]
  have ax5:=r.1;have ax6:=Kv;clear n NV r;obtain⟨b,Vg⟩:∃b,b=wr:=⟨_,rfl⟩;subst Vg;obtain⟨go,iD⟩:∃go,go=gk:=⟨_,rfl⟩;subst iD
  by_cases aL:c<256
  .go_wp2_with fail
   go_loopg [7,8] S.length (λk v7 v8 wr=>∃(i:Nat),i+k=S.length/\v8=zI i/\v7=zT ((tu S c).take i)/\b=wr)
   exact⟨0,by omega,rfl,rfl,rfl⟩
   .obtain⟨i,Ku,rfl,rfl,rfl⟩:=hrel;have l:(tu S c).length=S.length:=by simp[tu]
    have Bh:((tu S c).take i).length=i:=by rw[a1k,l];omega
    have eG:=bL ((tu S c).take i);rw[Bh]at eG
    by_cases hi:i<S.length
    .obtain⟨s,J⟩:∃s,S[i]?=some s:=⟨S[i],a0a hi⟩
     obtain⟨q,hq,uT⟩:=W.get i s J;obtain⟨g3,rfl,_,_,JK⟩:=X.cell (j:=i) (u:=aM q) (by rw[a0Q,hq];rfl);unfold aM at JK;have z:RN b q (.one s):=RN.aY (dX.of Fr) uT;have kG:=RK.cin z c (s.testBit c) (Ib s c aL);have Z:=ang S c i s J;have Y:=mf ((tu S c).take i);have x:bs [49]=⟨#[49]⟩:=rfl;have y:bs [48]=⟨#[48]⟩:=rfl;have T:=Y [49];have R:=Y [48];rw[x]at T;rw[y]at R;clear uT z hq J Y x y;cases Rw:s.testBit c
     all_goals
      rw[Rw]at kG Z;simp only[a0A,a0I,a0G]at Z;go_wp2;go_roundg (gk-1);exact⟨i+1,by omega,by go_num,by rw[Z],rfl⟩;omega
    have M:i=S.length:=by omega
    subst M;have I:(tu S c).take S.length=tu S c:=a0C (by rw[l];exact a0b _);rw[I]at eG |-;clear Bh;have RSn:RS 0 b (.slice V m c4) (F.map (tu S)):=(d.sl.rs (by rw[a0y];omega)).base (a1G _);have NF:=wh (.slice V m c4) (F.map (tu S)) (tu S c) b RSn;clear RSn;go_wp2_with fail
    refine NF.mono ?_;rintro e w2 ⟨rfl,rfl⟩;have g:Z_ (gP S (c+1)=if kU S F c==F.length then F++[c] else F):=by show _=_;rw[HF];rfl
    rcases anf S F c with⟨O,N⟩|⟨O,N⟩
    .rw[N]at g
     simp only[a0G]at g;generalize oI (F.map (tu S)) (tu S c)=fi at O |-;go_wp2_with (first | (at_builtin;refine DL _ rfl _ _ 44 9 _ 16 uY Tryz.underlying44 rfl rfl w.heap.size (.slice V m c4) (sv (F.map (tu S))) (m+1) b.heap.size (zT (tu S c)) (by rw[Hn4.o];simp[sv]) rfl (d.aC zG (by simp)) rfl (mi _ _ _ _ rfl) rfl (by simp[sv];omega) (by simp[sv];omega) (by simp;omega) ?_;intro g7 atm w7 O7 a P H;have B:=OV.other (d.aC zG (by simp)) (C.aC zG (by simp)) (by decide) a;have P3:=OV.other (d.aC zG (by simp)) (X.aC zG (by simp)) (by decide) a;have F7:=(Fr.alloc _).grown a (λk L=>.inr (d.base k L));have z7:=a.size;clear a P H)|(at_builtin;refine DL _ rfl _ _ 100 3 _ 8 ZB Tryz.underlying100 rfl rfl w.heap.size (.slice a5 G c5) (nv .i64 F) (G+1) w7.heap.size (zI c) (by rw[Y9.o];simp[nv]) rfl (B.aC zG (by simp)) rfl (mi _ _ _ _ rfl) rfl (by simp[nv];omega) (by simp[nv];omega) (by simp at z7 |-;omega) ?_;intro g8 ax7 w8 O8 a P H;have Q4:=OV.other (B.aC zG (by simp)) (O7.aC zG (by simp)) (by decide) a;have Q3:=OV.other (B.aC zG (by simp)) (P3.aC zG (by simp)) (by decide) a;have F8:=(F7.alloc _).grown a (λk L=>.inr (B.base k L));clear a P H))
     go_roundg (go-1)
     .refine⟨c+1,F++[c],by omega,by go_num,g.o.symm,?_,?_,Q3,F8⟩
      .have:=Q4
       simpa[sv] using this
      have:=O8;simpa[nv] using this
     omega
    rw[N]at g;simp only[a0A,a0I]at g;generalize oI (F.map (tu S)) (tu S c)=fi at O |-;go_wp2;go_roundg (go-1);exact⟨c+1,F,by omega,by go_num,g.o.symm,d,C,X,Fr⟩;omega
  have YT:c=256:=by omega
  subst YT;go_wp2;go_ret;refine⟨_,rfl,?_,Fr⟩;rw[<-HF];exact C
def OZ(e:TypeId)(z:Value)(base:Nat)(w:World)(v:Value)(xs:List Value):Prop:=∃g m,v=zS g xs.length (xs.length+m)/\base<=g/\xs.length+m<=maxLen /\
 w.heap[g]?=some (.cells (xs++List.replicate m z).toArray e (0,0))
def OZ.ov {z:Value} {base:Nat}(h:OZ e z base w v xs):OV e base w v xs:=by obtain⟨g,m,rfl,hb,a,b⟩:=h;refine⟨by simp,.inr ⟨g,xs.length+m,_,by simp,hb,b,by simp,a,by simp,?_⟩⟩;simp
theorem OZ.aC {z:Value} {base:Nat}(h:OZ e z base w v xs)(f:aB S w w')(d:∀k,k∈S->k<base):OZ e z base w' v xs:=by obtain⟨g,m,rfl,hb,b,a⟩:=h;exact⟨g,m,rfl,hb,b,(f.block g (a0c.1 a).1 (λc=>by have:=d g c;omega)).trans a⟩
def OZ.other {z:Value} {base:Nat}(h:OZ e z base w v xs)(j:OV e2 base w v2 xs2)(k:e2≠e)(i:w.grownBy w' v2.ownBlock):OZ e z base w' v xs:=by
 obtain⟨g,m,rfl,hb,f,b⟩:=h;refine⟨g,m,rfl,hb,f,(i.block g (a0c.1 b).1 ?_).trans b⟩;intro a;rcases j.2 with⟨d,l⟩|⟨n,cap,cur,d,hb,c,rest⟩
 .rw[d]at a;simp[Value.ownBlock]at a
 rw[d]at a;simp[Value.ownBlock]at a;subst a;rw[b]at c;simp at c;exact k c.2.symm
def OZ.lit {z:Value} {base:Nat}(w:World)(u:Value)(hb:base<=w.heap.size):OZ e z base (w.alloc (.cells #[u] e)) (zS w.heap.size 1 1) [u] :=
 ⟨w.heap.size,0,by simp,hb,by unfold maxLen;simp,heap_alloc_new w _⟩
theorem aj8(z:Value)(hz:z.cells=#[z])(k:Nat):Builtin.zeroCells z.cells k=(List.replicate k z).toArray:=by
 rw[hz];apply Array.ext
 .simp[Builtin.zeroCells]
 intro i b a;simp[Builtin.zeroCells,Nat.mod_one]
theorem KT.row {z:Value}{m:Nat} {u:Value}(he:e≠214)(hz:∀q,z≠.pointer (some q))(c:w.heap[g]?=some (.cells (xs++List.replicate (m+1) z).toArray e (0,0))) :
 KT w (w.setRow g (xs++[u]++List.replicate m z).toArray):=by
 refine⟨λk cur fz b=>setRow_other w g k _ ?_,λk j q b=>?_⟩
 .grind
 by_cases a:k=g
 .subst a
  rw[cell_setRow_same w k j _ _ _ _ c];rw[cell_of_row w k j _ _ _ c]at b;simp only[List.getElem?_toArray]at b |-
  by_cases d:j<xs.length
  .grind
  grind
 have:=setRow_other w g k (xs++[u]++List.replicate m z).toArray a;unfold World.cell? at b |-;simp only[this];exact b
def afq {o:Oper} {Q:Exit->Act->World->Prop}(w:World)(L:o.guard=none)(s x:Operand)(t e:TypeId)(z:Value)(E:Nat)
 (V:(Tryz.prog.info? e).map (λi=>(i.zero,i.size,i.bytes))=some (some z,1,E)) (ht:Tryz.prog.underlying t=some (.slice e)) (U:z.cells=#[z]) (he:e≠214) (p:∀q,z≠.pointer (some q)) (I:E<=1000)
 (ho:o.op=.call { callee:=.builtin .append,args:=#[s,x],argTypes:=#[t,t] })
 (base:Nat) (v:Value) (xs:List Value) (N b1:Nat) (u:Value) (R:N=xs.length+1) (G:a.eval s=v) (T:OZ e z base w v xs) (F:a.eval x=zS b1 1 1)
 (Y:zC w b1 0 u) (M:u.oneCell'=true) (hlen:xs.length<=1000) (J:base<=w.heap.size)
 (h:∀g cap w',OZ e z base w' (zS g N cap) (xs++[u])->w.grownBy w' v.ownBlock->KT w w'->wpList Tryz.prog ops Q rest (a.put o.dst (zS g N cap)) w') :
 wpList Tryz.prog ops Q (o::rest) a w:=by
 subst R;obtain⟨f,hi,gT,n,S⟩:=info_parts V;obtain⟨g,m,rfl,hb,X,l⟩:=T;have d:∀j y,[u][j]?=some y->w.cell? (((zA b1):Addr).add j)=some y:=by grind [add0]
 have W:(xs.length+1)*E<=1001*1000:=a0D (by omega) I;refine wpList_plain L λ_ H=>?_
 by_cases D:m=0
 .subst D
  have c:=run_append_grow (P:=Tryz.prog) w t o.type e f z ht hi gT (zA g) xs.length (xs.length+0) xs (by simp[n]) (by intro j y O;rw[show((zA g):Addr).add j=(zB g j) by rw[Addr.add_mid];simp,cell_of_row w g j _ _ _ l];simpa using O) (zA b1) 1 1 [u] (by simp[n]) d (by omega) (by omega) (by rw[S];exact growslice_fits (by omega) (by omega))
  have A:=grownCap_ge w (xs.length+1) (xs.length+0) e;have C:grownCap w (xs.length+1) (xs.length+0) e<=maxLen:=grownCap_le_maxLen w (xs.length+1) _ _ (by unfold maxLen;omega);rw[aj8 z U]at c;generalize grownCap w (xs.length+1) (xs.length+0) e=gc at c A C;have he:xs.toArray++[u].toArray++(List.replicate (gc-(xs.length+1)) z).toArray=(xs++[u]++List.replicate (gc-(xs.length+1)) z).toArray:=by simp
  rw[he]at c;unfold Oper.wp execOp;simp only[ho,resolve,invoke,builtin,Sem.run_bind,Sem.run_pure,Result.andThen_ok,List.map_toArray,a0E,a1V,G,F,c];refine H _ _ (h _ _ _ ?_ ?_ ?_)
  .refine⟨w.heap.size,gc-(xs.length+1),?_,J,?_,?_⟩
   .simp;omega
   .simp;omega
   exact heap_alloc_new w.drew _
  .exact⟨rfl,rfl,rfl,by simp,λk r _=>heap_alloc_old w.drew _ r⟩
  exact KT.aC (((aB.refl [] w).drew).alloc _)
 obtain⟨b,rfl⟩:∃b,m=b+1:=⟨m-1,by omega⟩;have c:=run_append_room (P:=Tryz.prog) w t o.type e f ht hi g xs.length (xs.length+(b+1)) _ l (zA b1) 1 1 [u] (by simp[n]) d (by simpa using M) (by omega) (by simp[n]);have B:((xs++List.replicate (b+1) z).toArray.toList.take (xs.length*f.size)++[u]++(xs++List.replicate (b+1) z).toArray.toList.drop (xs.length*f.size + [u].length)).toArray=(xs++[u]++List.replicate b z).toArray:=by simp_all
 rw[B]at c;unfold Oper.wp execOp;simp only[ho,resolve,invoke,builtin,Sem.run_bind,Sem.run_pure,Result.andThen_ok,List.map_toArray,a0E,a1V,G,F,c];refine H _ _ (h _ _ _ ?_ ?_ ?_)
 .refine⟨g,b,?_,hb,?_,setRow_heap w g _ _ _ _ l⟩
  .simp;omega
  simp;omega
 .exact⟨rfl,rfl,rfl,by simp,λk _ r=>setRow_other w g k _ (λe=>r (by simp[Value.ownBlock,e]))⟩
 exact KT.row he p l
end
section
variable {B L S Z:LN} {w w' w1 x:World} {e:Ending} {a ak b cap fb g i j k n s t vb xb:Nat} {v va vp:Value} {xs:List Value} {D R U:List NF} {d y:NF}
def anh {base:Nat} {e:TypeId}{size:Nat}(h:w.ownsRow base e size v n xs)(f:aB S w w')(c:∀k,v.ownBlock=some k->k∉S):w'.ownsRow base e size v n xs:=by
 refine⟨h.1,?_⟩;rcases h.2 with b|⟨g,cap,cur,rfl,hb,a,rest⟩
 .exact .inl b
 refine .inr ⟨g,cap,cur,rfl,hb,?_,rest⟩;rw[f.block g (a0c.1 a).1 (c g rfl)];exact a
def Xb(S:LN)(c:Nat):LN:=Xa S c++List.replicate (256-c) 0
def aj9(S:LN)(c:Nat)(b:c<256):(Xb S c).set c (kU S (gP S c) c)=Xb S (c+1):=by
 unfold Xb Xa;rw[a1v _ _ (by simp)];simp only[a0y,List.length_range,a2v];rw[List.range_succ,a0P,a0M]
 congr 1
 obtain⟨k,a⟩:∃k,256-c=k+1:=⟨255-c,by omega⟩;rw[a,show 256-(c+1)=k by omega,List.replicate_succ]
 rfl
def aa6(base b:Nat)(vs:Value)(S F1 CL:LN)(va x:Value)(w:World)(y:gP S 256=F1)(h:Xa S 256=CL)(V:BL base w vs S)(H:AB w b 0 (List.replicate 256 0) va x)(hS:S.length<=1000)(Y:vs.ownBlock≠some b) :
 zF 157 #[zP b,vs] w λe w'=>∃v,e=zR v/\UL w.heap.size w' v F1/\AB w' b F1.length CL va x/\aB [b] w w':=by
 obtain⟨i,j,rfl⟩:=aW V;have N:Value.ownBlock (.slice i S.length j)≠some b:=Y;clear Y;have aL:=H.lt;delta zF;go_in
 go_wp2_with fail
 go_loopg [5,6] 256 (λk Z vc wr=>∃(c:Nat),c+k=256/\vc=zI c/\UL w.heap.size wr Z (gP S c)/\AB wr b 0 (Xb S c) va x/\aB [b] w wr)
 case atStart=>refine⟨0,by omega,rfl,World.ownsRow_lit _ #[] 0 (a0b _) (by unfold maxLen;omega) (by simp),?_,zJ⟩;exact H.aC zG (by simp)
 case round =>
  clear H;obtain⟨c,hc,rfl,U,A,F⟩:=hrel;obtain⟨s,g,rfl⟩:=aW U;have d:=xW S c;have z:=F.size
  by_cases D:c<256
  .clear y h
   have T:BL base wr (.slice i S.length j) S:=anh V F (λk E=>by simp;rintro rfl;exact N E);have C:=(afo base (.slice i S.length j) (.slice s (gP S c).length g) S (gP S c) c wr T (xV U) hS (by omega) (λf hf=>by have:=d.2 f hf;omega) D);have r:gP S (c+1)=if kU S (gP S c) c==(gP S c).length then gP S c++[c] else gP S c:=rfl;have l:=aj9 S c D;have Ez:=adD S (gP S c) c;have qR:=d.1;generalize kU S (gP S c) c=m at *;generalize gP S c=F0 at *;clear T d;have t:c<256:=D;go_wp2_with fail
   refine C.mono ?_;rintro e P ⟨rfl,n⟩;have F2:=F.trans (n.mono (by simp));have u:=fG U n (by simp);have q:=A.aC n (by simp);have z2:=n.size;clear n
   by_cases X:m=F0.length
   .subst X
    have B:gP S (c+1)=F0++[c]:=by rw[r];simp
    have J:(Xb S c).set c F0.length=Xb S (c+1):=l;have G:Value.ownBlock (.slice s F0.length g)≠some b:=λe=>by have:=u.lt _ e;omega
    have A3:=(λo=>q.aC (S:=[]) (w':=P.alloc o) zJ (by simp));have Gb:=q.lt;clear r l C;go_wp2_with (first | (at_builtin;refine apQ _ rfl _ _ rfl w.heap.size (.slice s F0.length g) F0 c P.heap.size rfl (u.alloc _) rfl (j6 _ _ _ _ rfl) (by omega) (by simp;omega) ?_;intro gg aU w5 U6 L bq iE;have F5:=aB.fo L;have O:=(A3 _).aC F5 (by simpa[a0H] using λe=>G e);have q1:=O.cell c t;have R:=O.fz (1+c);have F6:=(F2.alloc _).grown L (λk E=>Or.inr (u.lt _ E).1);clear L bq iE F5))
    go_roundg (gk-1)
    .refine⟨c+1,by omega,by go_num,?_,?_,F6.setCell (.inl (by simp)) _⟩
     .rw[B]
      have:=ownsRow_setCell_below U6 (a:=(zB b (1+c))) (by simp;omega) (.int .u8 F0.length);exact this
     rw[<-J];exact O.set c F0.length t
    omega
   have hb:((m:Int)==(F0.length:Int))=false:=a0j.2 (by omega);have B:gP S (c+1)=F0:=by rw[r,a0n];simpa using X
   have q1:=q.cell c t;have R:=q.fz (1+c);clear r C;go_wp2;go_roundg (gk-1)
   .refine⟨c+1,by omega,by go_num,?_,?_,F2.setCell (.inl (by simp)) _⟩
    .rw[B]
     exact ownsRow_setCell_below u (a:=(zB b (1+c))) (by simp;omega) (.int .u8 m)
    rw[<-l];exact q.set c m t
   omega
  have M:c=256:=by omega
  have q0:=A.c0;have R:=A.fz 0;have W:Xb S c=CL:=by rw[M,<-h];unfold Xb;rw[a2v,List.replicate_zero,a0R]
  have I:gP S c=F1:=by rw[M];exact y
  rw[W]at A;rw[I]at U d;rw[I];clear W I y h M;have G1:=F.setCell (p:=(zA b)) (.inl (by simp)) (zI F1.length);have G2:=(ownsRow_setCell_below U (a:=(zA b)) (by simp;omega) (zI F1.length));have G3:=A.set0 F1.length;go_wp2;go_ret;exact⟨.slice s F1.length g,rfl,G2,G3,G1⟩
def Xc(h x:Int):Int:=IntKind.u32.wrap (Go.bits BinOp.xor IntKind.u32 h x*16777619)
def aka(h x:Int)(w:World) :
 zF 207 #[.int .u32 h,.int .u32 x] w λe w'=>e=zR (.int .u32 (Xc h x))/\w=w':=by
 have a:Xc h x=IntKind.u32.wrap (Go.bits BinOp.xor IntKind.u32 h x*16777619):=rfl;delta zF;go_in
 go_wp2;go_ret;rw[a];exact⟨rfl,rfl⟩
def acu(v u:Value)(L M:LN)(w:World)(E:NL .i64 w v L)(F:NL .i64 w u M)(R:L.length<=10000000000000)(P:M.length<=10000000000000) :
 zF 208 #[v,u] w λe w'=>e=zR (.bool (decide (L=M)))/\∃n,w'=w.drewN n:=by
 obtain⟨a,cap,rfl,z⟩:=E;obtain⟨b,S,rfl,t⟩:=F;have I:=aj z;have H:=aj t;clear z t
 by_cases p:L.length=M.length
 .have hb:((L.length:Int) != (M.length:Int))=false:=by rw[a1X];omega
  have h:=aj p;clear p;delta zF;go_in
  go_wp2_with fail
  go_loopg [13] L.length (λk C wr=>∃(j n:Nat),j+k=L.length/\C=zI j/\wr=w.drewN n/\decide (L.drop j=M.drop j)=decide (L=M))
  case atStart=>exact⟨0,0,by omega,rfl,rfl,rfl⟩
  case round =>
   obtain⟨j,n,O,rfl,c,hd⟩:=hrel;have m:=aj hd;clear hd
   by_cases A:j<L.length
   .have f:j<M.length:=by have:=h.o;omega
    obtain⟨g,off,rfl,_,s⟩:=I.o j A;obtain⟨G,q,rfl,_,r⟩:=H.o j f;have N:zC wr g (off+j) (zI L[j]):=by rw[c];exact s
    have J:zC wr G (q+j) (zI M[j]):=by rw[c];exact r
    have d:Z_ (decide (L=M)=(decide (L[j]=M[j])&&decide (L.drop (j+1)=M.drop (j+1)))):=by
     show _=_;rw[<-m.o,a0k A,a0k f];rw[a0T];simp only[a0U,a0O,List.cons.injEq]
    have l:=aj c;clear s r c m;generalize L[j]=x at *;generalize M[j]=y at *
    by_cases B:x=y
    .have D:((x:Int) != (y:Int))=false:=by rw[a1X];omega
     have i:Z_ (decide (L.drop (j+1)=M.drop (j+1))=decide (L=M)):=by show _=_;rw[d.o];simp[B]
     clear d;go_wp2_with fail
     go_quiet (fail)
     go_wp2;go_roundg (gk-1)
     case measure=>omega
     case rel=>exact⟨j+1,n+_,by omega,by go_num,by rw[l.o,yD],i⟩
    have D:((x:Int) != (y:Int))=true:=by rw[a1M];omega
    have i:Z_ (decide (L=M)=false):=by show _=_;rw[d.o];simp[B]
    clear d;go_wp2_with fail
    go_quiet (fail)
    go_wp2;go_ret;rw[i.o,l.o];exact⟨rfl,_,yD _ _ _⟩
   have i:Z_ (decide (L=M)=true):=by
    show _=_;rw[<-m.o,a0i (by omega),a0i (by have:=h.o;omega)];rfl
   have l:=aj c;clear c m;go_wp2;go_ret;rw[i.o];exact⟨rfl,_,l⟩
 have hb:((L.length:Int) != (M.length:Int))=true:=by rw[a1M];omega
 have d:Z_ (decide (L=M)=false):=by show _=_;rw[a0f];intro e;exact p (by rw[e])
 delta zF;go_in
 go_wp2;go_ret;rw[d.o];exact⟨rfl,0,rfl⟩
structure FV where
 kd:Nat
 s:Nat
 fi:Nat
 se:Nat
 vp:Value
 te:Bool
 lk:Nat
 ak:Nat
 lf:Nat
def FV.cells(f:FV):Array Value:=#[zI f.kd,.int .u64 (wd f.s 0),.int .u64 (wd f.s 1),.int .u64 (wd f.s 2),.int .u64 (wd f.s 3),zI f.fi,zI f.se,f.vp,.bool f.te,zI f.lk,zI f.ak,zI f.lf]
def auS(h:Int)(x:Nat):Int:=Xc (Xc h ((x:Int) % 4294967296)) ((x:Int) / 4294967296)
def Qu(h:Int)(L:LN):Int:=L.foldl (λ(h:Int) (n:Nat)=>Xc h ((n:Int) % 4294967296)) h
def aa8(kd fi se:Nat)(W:LN):Int:=W.foldl auS (Xc (Xc ((kd:Int) % 4294967296) ((fi:Int) % 4294967296)) ((se:Int) % 4294967296))
def ws(s:Nat):LN:=[wd s 0,wd s 1,wd s 2,wd s 3]
def Qv(kd s fi se:Nat)(L:LN):Int:=Qu (aa8 kd fi se (ws s)) L
def awt(a b c d:Int)(w:World):(Instr.index 261 (.agg #[.int .u64 a,.int .u64 b,.int .u64 c,.int .u64 d]) (zI 0)).run Tryz.prog w=.ok (.int .u64 a) w:=by simp[Instr.index,go_sem,Tryz.underlying261]
def awu(a b c d:Int)(w:World):(Instr.index 261 (.agg #[.int .u64 a,.int .u64 b,.int .u64 c,.int .u64 d]) (zI 1)).run Tryz.prog w=.ok (.int .u64 b) w:=by simp[Instr.index,go_sem,Tryz.underlying261]
def awv(a b c d:Int)(w:World):(Instr.index 261 (.agg #[.int .u64 a,.int .u64 b,.int .u64 c,.int .u64 d]) (zI 2)).run Tryz.prog w=.ok (.int .u64 c) w:=by simp[Instr.index,go_sem,Tryz.underlying261]
def aww(a b c d:Int)(w:World):(Instr.index 261 (.agg #[.int .u64 a,.int .u64 b,.int .u64 c,.int .u64 d]) (zI 3)).run Tryz.prog w=.ok (.int .u64 d) w:=by simp[Instr.index,go_sem,Tryz.underlying261]
theorem ani(f:FV)(L:LN)(w:World)(A:NL .i64 w f.vp L)(S:L.length<=10000000000000) :
 Calls Tryz.prog 193 #[.agg f.cells] w λe w'=>e=.returned (.int .u32 (Go.bits BinOp.xor IntKind.u32 (Qv f.kd f.s f.fi f.se L) (Qv f.kd f.s f.fi f.se L / 2 ^ 16)))/\aB [] w w':=by
 obtain⟨kd,s,fi,se,vp,te,lk,ak,lf⟩:=f;simp only at A |-;obtain⟨a,cap,rfl,C⟩:=A;have E:FV.cells ⟨kd,s,fi,se,.slice a L.length cap,te,lk,ak,lf⟩=#[.int .i64 kd,.int .u64 (wd s 0),.int .u64 (wd s 1),.int .u64 (wd s 2),.int .u64 (wd s 3),.int .i64 fi,.int .i64 se,.slice a L.length cap,.bool te,.int .i64 lk,.int .i64 ak,.int .i64 lf]:=rfl;rw[E];clear E;have M:=aj C;have l:=aj aka;have F:Z_ (Qv kd s fi se L=Qu (aa8 kd fi se [wd s 0,wd s 1,wd s 2,wd s 3]) L):=rfl;have U:=jv s 0;have b1:=jv s 1;have b2:=jv s 2;have T:=jv s 3;clear C;generalize wd s 0=d at *;generalize wd s 1=w1 at *;generalize wd s 2=c at *;generalize wd s 3=b at *;go_in
 go_wp2_with (go_at_call 207;refine(l.o _ _ _).mono ?_;rintro e w' ⟨rfl,rfl⟩)
 go_loopg [3,22] 4 (λk t r wr=>∃i:Nat,i+k=4/\r=.int .i64 i/\t=.int .u32 (aa8 kd fi se ([d,w1,c,b].take i))/\wr=w.alloc (.cells #[.int .i64 kd,.int .u64 d,.int .u64 w1,.int .u64 c,.int .u64 b,.int .i64 fi,.int .i64 se,.slice a L.length cap,.bool te,.int .i64 lk,.int .i64 ak,.int .i64 lf] 272))
 case atStart=>exact⟨0,by omega,rfl,rfl,rfl⟩
 case round =>
  obtain⟨i,R,rfl,rfl,n⟩:=hrel;have N:wr.cell? ⟨w.heap.size,7,none⟩=some (.slice a L.length cap):=by rw[n];have:=bD w (.cells #[.int .i64 kd,.int .u64 d,.int .u64 w1,.int .u64 c,.int .u64 b,.int .i64 fi,.int .i64 se,.slice a L.length cap,.bool te,.int .i64 lk,.int .i64 ak,.int .i64 lf] 272);simp only[World.cell?,this];rfl
  have G:Z_ (aB [] w wr):=by show aB [] w wr;rw[n];exact(aB.refl _ _).alloc _
  have q:=aj n;clear n;rcases(by omega:i=0\/i=1\/i=2\/i=3\/i=4) with rfl|rfl|rfl|rfl|rfl
  .have h:=awt (d:Int) w1 c b
   go_wp2_with (go_at_call 207;refine(l.o _ _ _).mono ?_;rintro e w' ⟨rfl,rfl⟩)
   go_roundg 3
   case measure=>omega
   case rel=>exact⟨1,by omega,by go_num,rfl,q⟩
  .have h:=awu (d:Int) w1 c b
   go_wp2_with (go_at_call 207;refine(l.o _ _ _).mono ?_;rintro e w' ⟨rfl,rfl⟩)
   go_roundg 2
   case measure=>omega
   case rel=>exact⟨2,by omega,by go_num,rfl,q⟩
  .have h:=awv (d:Int) w1 c b
   go_wp2_with (go_at_call 207;refine(l.o _ _ _).mono ?_;rintro e w' ⟨rfl,rfl⟩)
   go_roundg 1
   case measure=>omega
   case rel=>exact⟨3,by omega,by go_num,rfl,q⟩
  .have h:=aww (d:Int) w1 c b
   go_wp2_with (go_at_call 207;refine(l.o _ _ _).mono ?_;rintro e w' ⟨rfl,rfl⟩)
   go_roundg 0
   case measure=>omega
   case rel=>exact⟨4,by omega,by go_num,rfl,q⟩
  have I:Z_ (Qv kd s fi se L=Qu (aa8 kd fi se (List.take 4 [d,w1,c,b])) L):=F.o;generalize aa8 kd fi se (List.take 4 [d,w1,c,b])=v at *;clear F;go_wp2_with fail
  go_loopg [3,38] L.length (λk t r H=>∃(j:Nat) (x:Int),j+k=L.length/\r=.int .i64 j/\t=.int .u32 x/\Qu x (L.drop j)=Qu v L/\H=wr)
  case atStart=>exact⟨0,v,by omega,rfl,rfl,rfl,rfl⟩
  case round =>
   obtain⟨j,x,P,rfl,rfl,h,u⟩:=hrel;subst u;have z:=aj h;clear h
   by_cases D:j<L.length
   .obtain⟨g,off,rfl,J,B⟩:=M.o j D
    have O:=(G.o.cell (p:=⟨g,off+j,none⟩) J (by simp)).trans B;have y:Z_ (Qu (Xc x ((L[j]:Int) % 4294967296)) (L.drop (j+1))=Qu v L):=by
     show _=_;rw[<-z.o,a0k D];rfl
    clear B z;generalize L[j]=m at *;go_wp2_with (go_at_call 207;refine(l.o _ _ _).mono ?_;rintro e w' ⟨rfl,rfl⟩)
    go_roundg (gk-1)
    case measure=>omega
    case rel=>exact⟨j+1,_,by omega,by go_num,rfl,y,rfl⟩
   have y:Z_ (Qv kd s fi se L=x):=by
    show _=_;rw[I.o,<-z.o,a0i (by omega)];rfl
   go_wp2;go_ret;rw[y.o];exact⟨rfl,G⟩
def asq(b:s<2 ^ 256)(ht:t<2 ^ 256)(g:wd s 0=wd t 0)(f:wd s 1=wd t 1)(d:wd s 2=wd t 2)(c:wd s 3=wd t 3):s=t:=by
 apply a1D;intro i
 by_cases j:i<256
 .have e:∀x,x.testBit i=(wd x (i / 64)).testBit (i % 64):=λx=>by rw[zk _ _ _ (a3i _ (by decide)),show 64*(i / 64)+i % 64=i by omega]
  rw[e s,e t];rcases(by omega:i / 64=0\/i / 64=1\/i / 64=2\/i / 64=3) with h|h|h|h<;>rw[h]
  .rw[g]
  .rw[f]
  .rw[d]
  rw[c]
 have a:(2:Nat) ^ 256<=2 ^ i:=a1r (by omega) (by omega);rw[a1z (a0t b a),a1z (a0t ht a)]
theorem awx(a b c d x y z u:Int)(w:World):(Op.equalIn 10000 261 (.agg #[.int .u64 a,.int .u64 b,.int .u64 c,.int .u64 d]) (.agg #[.int .u64 x,.int .u64 y,.int .u64 z,.int .u64 u])).run Tryz.prog w=.ok (a==x&&(b==y&&(c==z&&d==u))) w:=by
 have u3:=Tryz.underlying253;have j:=Tryz.isAgg253;have i:=Tryz.sizeOf253;rw[show(10000:Nat)=9999+1 from rfl,Op.equalIn];simp only[Sem.run_bind,run_underlying Tryz.underlying261,Result.andThen_ok];simp only[Std.Legacy.Range.forIn_eq_forIn_range',Std.Legacy.Range.size,Nat.sub_zero,Nat.add_sub_cancel,Nat.div_one,List.range'_succ,List.range'_zero,List.forIn_cons,List.forIn_nil];go_simp
 by_cases h:a=x<;>by_cases g:b=y<;>by_cases f:c=z<;>by_cases e:d=u<;>simp[h,g,f,e]
def apS(a:s<2 ^ 256)(ht:t<2 ^ 256)(w:World):(Op.equalIn 10000 261 (.agg #[.int .u64 (wd s 0),.int .u64 (wd s 1),.int .u64 (wd s 2),.int .u64 (wd s 3)]) (.agg #[.int .u64 (wd t 0),.int .u64 (wd t 1),.int .u64 (wd t 2),.int .u64 (wd t 3)])).run Tryz.prog w=.ok (decide (s=t)) w:=by
 rw[awx]
 congr 1
 rw[a0T];simp only[a0O,a0W,a0U,a2N]
 constructor
 .rintro⟨e,d,c,b⟩
  exact asq a ht (by omega) (by omega) (by omega) (by omega)
 rintro rfl;exact⟨rfl,rfl,rfl,rfl⟩
def anj(f g:FV)(L M:LN)(w:World)(y:NL .i64 w f.vp L)(z:NL .i64 w g.vp M)(I:L.length<=10000000000000)(H:M.length<=10000000000000)(A:f.s<2 ^ 256)(ht:g.s<2 ^ 256) :
 zF 194 #[.agg f.cells,.agg g.cells] w λe w'=>e=zR (.bool (decide (f.kd=g.kd/\f.fi=g.fi/\f.se=g.se/\f.s=g.s/\L=M)))/\aB [] w w':=by
 obtain⟨kd,s,fi,se,vp,te,lk,ak,lf⟩:=f;obtain⟨d,s2,h,c,D,j,k,p,l⟩:=g;simp only at y z A ht |-;obtain⟨a,cap,rfl,C⟩:=y;obtain⟨b,q,rfl,B⟩:=z;have SL:=(λ(o E:Obj)=>acu (.slice a L.length cap) (.slice b M.length q) L M ((w.alloc o).alloc E) (NL.aC (S:=[]) ⟨a,cap,rfl,C⟩ (zJ.alloc _) (by simp)) (NL.aC (S:=[]) ⟨b,q,rfl,B⟩ (zJ.alloc _) (by simp)) I H);have u1:FV.cells ⟨kd,s,fi,se,.slice a L.length cap,te,lk,ak,lf⟩=#[zI kd,.int .u64 (wd s 0),.int .u64 (wd s 1),.int .u64 (wd s 2),.int .u64 (wd s 3),zI fi,zI se,.slice a L.length cap,.bool te,zI lk,zI ak,zI lf]:=rfl;have u2:FV.cells ⟨d,s2,h,c,.slice b M.length q,j,k,p,l⟩=#[zI d,.int .u64 (wd s2 0),.int .u64 (wd s2 1),.int .u64 (wd s2 2),.int .u64 (wd s2 3),zI h,zI c,.slice b M.length q,.bool j,zI k,zI p,zI l]:=rfl;rw[u1,u2];clear u1 u2 C B
 by_cases t:kd=d
 case neg =>
  have n1:((kd:Int) != (d:Int))=true:=by rw[a1M];omega
  have i:decide (kd=d/\fi=h/\se=c/\s=s2/\L=M)=false:=by simp[t]
  delta zF;go_in
  go_wp2;go_ret;rw[i];exact⟨rfl,zJ.alloc _⟩
 have n1:((kd:Int) != (d:Int))=false:=by rw[a1X];omega
 by_cases u:fi=h
 case neg =>
  have G:((fi:Int) != (h:Int))=true:=by rw[a1M];omega
  have i:decide (kd=d/\fi=h/\se=c/\s=s2/\L=M)=false:=by simp[u]
  delta zF;go_in
  go_wp2;go_ret;rw[i];exact⟨rfl,zJ.alloc _⟩
 have G:((fi:Int) != (h:Int))=false:=by rw[a1X];omega
 by_cases he:se=c
 case neg =>
  have F:((se:Int) != (c:Int))=true:=by rw[a1M];omega
  have i:decide (kd=d/\fi=h/\se=c/\s=s2/\L=M)=false:=by simp[he]
  delta zF;go_in
  go_wp2;go_ret;rw[i];exact⟨rfl,zJ.alloc _⟩
 have F:((se:Int) != (c:Int))=false:=by rw[a1X];omega
 have i:decide (kd=d/\fi=h/\se=c/\s=s2/\L=M)=decide (s=s2/\L=M):=by simp[t,u,he]
 clear t u he;have r:=apS A ht
 by_cases m:s=s2
 case neg =>
  have v:decide (s=s2/\L=M)=false:=by simp[m]
  have x:∀w,_:=λw=>(r w).trans (by rw[a0f m])
  clear r;delta zF;go_in
  go_wp2;go_ret;rw[i,v];exact⟨rfl,zJ.alloc _⟩
 have v:decide (s=s2/\L=M)=decide (L=M):=by simp[m]
 have x:∀w,_:=λw=>(r w).trans (by rw[a0g m])
 clear r m;delta zF;go_in
 go_wp2_with (go_at_call 208;refine(SL _ _).mono ?_;rintro e w' ⟨rfl,n,rfl⟩)
 go_ret;rw[i,v];exact⟨rfl,aB.drewN n (zJ.alloc _)⟩
def FT(w:World)(fb:Nat)(va:Value)(B:LN)(ak:Nat):Prop :=
 w.heap[fb]?=some (.cells (va::(nv .i64 B++[zI ak])).toArray 276 (0,0))/\B.length=1024
theorem FT.lt(h:FT w fb va B ak):fb<w.heap.size:=(a0c.1 h.1).1
theorem FT.fz(h:FT w fb va B ak)(o:Nat):w.frozen? (zB fb o)=false:=by simp[World.frozen?,h.1]
theorem FT.aC(h:FT w fb va B ak)(f:aB S w w')(a:fb∉S):FT w' fb va B ak:=⟨(f.block fb h.lt a).trans h.1,h.2⟩
theorem FT.c0(h:FT w fb va B ak):zC w fb 0 va:=by simp[World.cell?,h.1]
theorem FT.cell(h:FT w fb va B ak)(c:Nat)(a:c<1024):zC w fb (1+c) (zI (B.getD c 0)):=by
 have b:c<B.length:=by rw[h.2];exact a
 have e:(va::(nv .i64 B++[zI ak]))[1+c]?=some (zI (B.getD c 0)):=by grind [nv]
 simp[World.cell?,h.1];simpa using e
theorem FT.awy(h:FT w fb va B ak):w.cell? ⟨fb,1025,none⟩=some (.int .i64 ak):=by
 have e:(va::(nv .i64 B++[.int .i64 ak]))[1025]?=some (.int .i64 ak):=by rw[a1m,a0K (by simp[nv,h.2])];simp[nv,h.2]
 simp only[World.cell?,h.1];simpa using e
def FT.apT(h:FT w fb va B ak)(c m:Nat)(a:c<1024):FT (w.setCell (zB fb (1+c)) (zI m)) fb va (B.set c m) ak:=by
 refine⟨?_,by rw[a3p];exact h.2⟩;have d:c<B.length:=by rw[h.2];exact a
 have e:(va::(nv .i64 B++[zI ak])).set (1+c) (zI m)=va::(nv .i64 (B.set c m)++[zI ak]):=by grind [nv,Nat.add_comm,List.set_append_left,List.map_set]
 have b:=h.1;simp only[World.setCell,a0v,b,a0G,a1x];rw[<-e];simp
def FT.set0(h:FT w fb va B ak)(m:Value):FT (w.setCell (zA fb) m) fb m B ak:=by refine⟨?_,h.2⟩;have a:=h.1;simp only[World.setCell,a0v,a,a0G,a1x];simp
def FT.agr(h:FT w fb va B ak)(m:Nat):FT (w.setCell (zB fb 1025) (zI m)) fb va B m:=by
 refine⟨?_,h.2⟩;have e:(va::(nv .i64 B++[zI ak])).set 1025 (zI m)=va::(nv .i64 B++[zI m]):=by rw[a1S,a1v _ _ (by simp[nv,h.2])];simp[nv,h.2]
 have a:=h.1;simp only[World.setCell,a0v,a,a0G,a1x];rw[<-e];simp
def fv(L:List FV):List Value:=L.flatMap λf=>f.cells.toList
def adF:Value:=.agg #[zI 0,.int .u64 0,.int .u64 0,.int .u64 0,.int .u64 0,zI 0,zI 0,zN,.bool false,zI 0,zI 0,zI 0]
def adG:(Tryz.prog.info? 272).map (λi=>(i.zero,i.size,i.bytes))=some (some adF,12,112):=by kernel_rfl
def asr(L:List FV)(j k:Nat)(d:k<12)(f:FV)(a:L[j]?=some f):(fv L)[j*12+k]?=f.cells.toList[k]?:=by
 induction L generalizing j with
 | nil=>simp at a
 | cons g L b =>
   have c:g.cells.toList.length=12:=by simp[FV.cells]
   cases j with
   | zero=>simp at a;subst a;simp only[fv,a1i];rw[a0s (by omega)];simp
   | succ j=>simp only[fv,a1i];rw[a0K (by omega),show(j+1)*12+k-g.cells.toList.length=j*12+k by omega];exact b j (by simpa using a)
def FL(base:Nat)(w:World)(v:Value)(L:List FV):Prop:=w.ownsRow base 272 12 v L.length (fv L)
def ahC {ops:Array Oper} {rest:List Oper} {o:Oper} {a:Act} {Q:Exit->Act->World->Prop}(w:World)(d:o.guard=none)(s x:Operand)
 (ho:o.op=.call { callee:=.builtin .append,args:=#[s,x],argTypes:=#[273,273] })
 (base:Nat) (v:Value) (L:List FV) (f:FV) (b1:Nat) (l:a.eval s=v) (t:FL base w v L) (i:a.eval x=zS b1 1 1)
 (p:w.heap[b1]?=some (.cells f.cells 272 (0,0))) (k:f.vp.oneCell'=true) (hlen:L.length<=1000000000000) (c:base<=w.heap.size)
 (h:∀g cap w',FL base w' (zS g (L.length+1) cap) (L++[f])->w.grownBy w' v.ownBlock->(v.ownBlock=some g\/g=w.heap.size)->g<w'.heap.size->wpList Tryz.prog ops Q rest (a.put o.dst (zS g (L.length+1) cap)) w') :
 wpList Tryz.prog ops Q (o::rest) a w:=by
 obtain⟨e,n,gT,r,q⟩:=info_parts adG;refine wpList_append_lies w d s x 273 ho base 272 e adF 12 112 Tryz.underlying273 n gT r q rfl (by decide) v L.length (fv L) l t (zA b1) 1 1 f.cells.toList i (by simp[FV.cells]) ?_ ?_ (by decide) (by unfold maxLen;omega) (by omega) c w.heap.size rfl ?_
 .intro j u m
  rw[add0];simp only[World.cell?,p];simpa using m
 .intro u b
  simp only[FV.cells,a0l,a1U,a2V]at b;rcases b with rfl|rfl|rfl|rfl|rfl|rfl|rfl|rfl|rfl|rfl|rfl|rfl<;>first | exact k|rfl
 grind [FL,fv]
def alE(w:World)(a:Obj)(n:Nat)(h:n=w.heap.size):(w.alloc a).heap[n]?=some a:=by subst h;exact bD w a
theorem aa9:Tryz.zeroCells276=(Value.slice none 0 0::(nv .i64 (List.replicate 1024 0)++[zI 0])).toArray:=by kernel_rfl
def FT.new(w:World):FT (w.alloc (Obj.cells Tryz.zeroCells276 276)) w.heap.size zN (List.replicate 1024 0) 0:=by refine⟨?_,List.length_replicate⟩;rw[aa9];exact bD _ _
def fv0:FV:=⟨0,0,0,0,zN,false,0,0,0⟩
def fv1:FV:=⟨1,0,0,0,zN,true,0,0,0⟩
theorem awz:fv0.cells=#[zI 0,.int .u64 0,.int .u64 0,.int .u64 0,.int .u64 0,zI 0,zI 0,zN,.bool false,zI 0,zI 0,zI 0]:=by kernel_rfl
theorem awC:fv1.cells=#[zI 1,.int .u64 0,.int .u64 0,.int .u64 0,.int .u64 0,zI 0,zI 0,zN,.bool true,zI 0,zI 0,zI 0]:=by kernel_rfl
def sz2(w:World)(a b:Obj):w.heap.size+1<=((w.alloc a).alloc b).heap.size:=by
 have d:(w.alloc a).heap.size=w.heap.size+1:=by simp
 have c:((w.alloc a).alloc b).heap.size=(w.alloc a).heap.size+1:=by simp
 omega
def acv(w:World) :
 zF 158 #[] w λe w'=>∃va,e=zR (zP w.heap.size)/\FT w' w.heap.size va (List.replicate 1024 0) 0/\FL (w.heap.size+1) w' va [fv0,fv1]/\aB [] w w':=by
 have B:∀h,Tryz.zeroCells276[0]'h=zN:=by intro h;simp only[aa9];rfl
 have x:=FT.new w;have v:∀o,aB [] w (w.alloc o):=λo=>zJ
 delta zF;go_in
 go_wp2_with (first | (at_builtin;refine ahC _ rfl _ _ rfl (w.heap.size+1) zN [] fv0 (w.heap.size+1) rfl (World.ownsRow_nil _ _ _ _) rfl (by rw[awz];exact alE _ _ _ (by simp)) rfl (by simp) (sz2 _ _ _) ?_;intro j p D d b l I;have F5:=aB.fo b;have g:=(x.aC zG (by simp)).aC F5 (by simp[Value.ownBlock]);have r:=g.set0 (zS j 1 p);have H:=g.c0;have G:=g.fz 0;have m:=ownsRow_setCell_below d (a:=(zA w.heap.size)) (by simp) (zS j 1 p);have q:=((v _).alloc _).grown b (λk i=>by simp[Value.ownBlock]at i);have A:=a0h (sz2 _ _ _) b.size;clear d b l F5 g)|(at_builtin;refine ahC _ rfl _ _ rfl (w.heap.size+1) (.slice (some ⟨_,0,none⟩) 1 _) [fv0] fv1 _ rfl (m.alloc _) rfl (by rw[awC];exact alE _ _ _ (by simp)) rfl (by simp) (by first | (simp;done)|(simp;omega)) ?_;intro n c C d b l t;have s:w.heap.size+1<=j:=(m.lt _ rfl).1;have f:=(r.aC zG (by simp)).aC (aB.fo b) (by simp[Value.ownBlock];omega);have F:=f.c0;have E:=f.fz 0;have z:=f.set0 (zS n 2 c);have u:=ownsRow_setCell_below d (a:=(zA w.heap.size)) (a3j _) (zS n 2 c);have y:=(((q.setCell (.inr (a0b _)) _).alloc _).grown b (λk i=>Or.inr (by simp[Value.ownBlock]at i;omega)));clear d b l f m r q))
 go_ret;exact⟨_,rfl,z,u,y.setCell (.inr (a0b _)) _⟩
def mO {base:Nat} {e:TypeId}{size:Nat}(h:w.ownsRow base e size v n xs)(f:aB S w w')(c:∀k,v.ownBlock=some k->k∉S):w'.ownsRow base e size v n xs:=by
 refine⟨h.1,?_⟩;rcases h.2 with b|⟨g,cap,cur,rfl,hb,a,rest⟩
 .exact .inl b
 refine .inr ⟨g,cap,cur,rfl,hb,?_,rest⟩;rw[f.block g (a0c.1 a).1 (c g rfl)];exact a
def adH(k:KY):Int:=Go.bits BinOp.xor IntKind.u32 (Qv k.kd k.s k.fi k.se k.L) (Qv k.kd k.s k.fi k.se k.L / 2 ^ 16)
def mV(k:KY):Nat:=(adH k % 1024).toNat
theorem alF(k:KY):mV k<1024:=by unfold mV;omega
def ass(k:KY):adH k % 1024=(mV k:Int):=by unfold mV;omega
def kz(e:FV × LN):KY:=⟨e.1.kd,e.1.s,e.1.fi,e.1.se,e.2⟩
def PL(w:World)(v:Value)(L:LN):Prop :=
 NL .i64 w v L/\(∀a n c,v=.slice (some a) n c->∃cur fz,w.heap[a.block]?=some (.cells cur 3 fz))/\L.length<=10000000000000
def PL.cell1(h:PL w v L):v.oneCell'=true:=by obtain⟨a,cap,rfl,_⟩:=h.1;rfl
theorem PL.nil(w:World):PL w zN []:=⟨⟨none,0,rfl,λj h=>by simp at h⟩,λa n c e=>by simp at e,by simp⟩
def PL.alG {base:Nat}(h:IL base w v L)(d:L.length<=10000000000000):PL w v L:=by
 refine⟨xV h,?_,d⟩;intro a n c e;rcases h.2 with⟨b,_⟩|⟨g,cap,cur,b,_,f,_⟩
 .rw[b]at e;simp at e
 grind
def qV(w:World)(S:LN):Prop:=∀k∈S,∀cur fz,w.heap[k]?≠some (.cells cur 3 fz)
theorem PL.aC(h:PL w v L)(f:aB S w w')(i:qV w S):PL w' v L:=by
 have d:∀a n c,v=.slice (some a) n c->a.block∉S:=λa n c e g=>by obtain⟨cur,fz,b⟩:=h.2.1 a n c e;exact i _ g cur fz b
 refine⟨h.1.aC f d,?_,h.2.2⟩;intro a n c e;obtain⟨cur,fz,b⟩:=h.2.1 a n c e;exact⟨cur,fz,(f.block _ (a0c.1 b).1 (d a n c e)).trans b⟩
theorem qV.nil(w:World):qV w []:=λk a=>by simp at a
structure TE(base:Nat)(w:World)(fb vb:Nat)(E:List (FV × LN))(B:LN)(ak:Nat):Prop where
 row:∃cap,FT w fb (zS vb E.length cap) B ak/\FL base w (zS vb E.length cap) (E.map Prod.fst)
 pl:∀e∈E,PL w e.1.vp e.2
 st:∀e∈E,e.1.s<2 ^ 256
 fb:fb<base
 sz:base<=w.heap.size
def TE.vbs {base:Nat} {E:List (FV × LN)}(h:TE base w fb vb E B ak) :
 base<=vb/\vb<w.heap.size/\∃cur,w.heap[vb]?=some (.cells cur 272 (0,0)):=by
 obtain⟨cap,_,b⟩:=h.row;have a:=b.lt vb rfl;refine⟨a.1,a.2,?_⟩;rcases b.2 with⟨d,_⟩|⟨g,c,cur,d,_,e,_⟩
 .simp at d
 grind
def TE.wu {base:Nat} {E:List (FV × LN)}(h:TE base w fb vb E B ak):qV w [fb,vb]:=by
 obtain⟨cap,c,_⟩:=h.row;obtain⟨_,_,cur,b⟩:=h.vbs;intro k a d fz;simp only[a0l,a1U,a2V]at a;rcases a with rfl|rfl
 .rw[c.1];simp
 rw[b];simp
theorem TE.aC {base:Nat} {E:List (FV × LN)}(h:TE base w fb vb E B ak)(f:aB S w w')(g:fb∉S)(d:vb∉S)(c:qV w S):TE base w' fb vb E B ak:=by obtain⟨cap,ht,b⟩:=h.row;exact⟨⟨cap,ht.aC f g,mO b f (λk a=>by simp[Value.ownBlock]at a;subst a;exact d)⟩,λe he=>(h.pl e he).aC f c,h.st,h.fb,a0h h.sz f.size⟩
theorem TE.aY {base:Nat} {E:List (FV × LN)}(h:TE base w fb vb E B ak)(f:aB [] w w'):TE base w' fb vb E B ak :=
 h.aC f (by simp) (by simp) (qV.nil _)
theorem TE.cell {base:Nat} {E:List (FV × LN)}(h:TE base w fb vb E B ak) {e:FV × LN}(d:E[i]?=some e)(k:Nat)(c:k<12) :
 w.cell? (zB vb (i*12+k))=e.1.cells.toList[k]?:=by
 obtain⟨cap,_,b⟩:=h.row;have a:=asr (E.map Prod.fst) i k c e.1 (by simp[d]);have f:=World.ownsRow.cells b (g:=vb) rfl (i*12+k);have j:k<e.1.cells.toList.length:=by simp[FV.cells];omega
 rw[a0a j]at a |-;have:=f _ a;rw[add0]at this;exact this
structure TP(E:List (FV × LN))(B:LN)(D:List NF)(ak c:Nat):Prop where
 tb:Ru (E.map kz) D
 bu:∀b,b<1024->B.getD b 0=lastB mV (E.map kz) b E.length
 lk:∀(i:Nat) (e:FV × LN),2<=i->E[i]?=some e->e.1.lk=lastB mV (E.map kz) (mV (kz e)) i
 te:∀(i:Nat) (e:FV × LN) (d:NF),E[i]?=some e->D[i]?=some d->e.1.te=dK d
 al:∀e∈E,e.1.ak<=ak
 mm:1<=ak->∀(i:Nat) (e:FV × LN) (d:NF),E[i]?=some e->D[i]?=some d->e.1.ak=ak->D[e.1.lf]?=some (left c d)
theorem TP.len {E:List (FV × LN)}{c:Nat}(h:TP E B D ak c):E.length=D.length:=by have:=h.tb.len;simpa using this
def TP.two {E:List (FV × LN)}{c:Nat}(h:TP E B D ak c):2<=E.length:=by rw[h.len];exact h.tb.two
def TP.push {E:List (FV × LN)}{c:Nat}(h:TP E B D ak c)(w:B.length=1024) {f:FV}
 (q:Ky D D.length (kz (f,L)) d) (p:WC d) (hd:d∉D) (y:f.te=dK d) (t:f.lk=B.getD (mV (kz (f,L))) 0) (v:f.ak=0) :
 TP (E++[(f,L)]) (B.set (mV (kz (f,L))) E.length) (D++[d]) ak c:=by
 have u:=h.len;have x:=h.two;have j:(E.map kz).length=E.length:=by simp
 refine⟨?_,?_,?_,?_,?_,?_⟩
 .rw[a0P];exact h.tb.push q p hd
 .intro b hb
  rw[a0P,a0p];show _=lastB mV (E.map kz++[kz (f,L)]) b (E.length+1);have e:=ajs mV (E.map kz) (kz (f,L)) b (by omega);rw[j]at e;rw[e]
  by_cases n:mV (kz (f,L))=b
  .grind
  rw[a0n n,<-h.bu b hb];simp[List.getD,List.getElem?_set,n]
 .intro i e r he
  rw[a0P];show _=lastB mV (E.map kz++[kz (f,L)]) _ i;have o:=(a0d.1 he).1;simp at o;rw[Kg _ _ _ _ _ (by omega)]
  by_cases a:i<E.length
  .rw[a0s a]at he
   exact h.lk i e r he
  have:i=E.length:=by omega
  subst this;simp at he;subst he;rw[<-h.bu _ (alF _)];exact t
 .intro i e l he g
  by_cases a:i<E.length
  .rw[a0s a]at he
   rw[a0s (by omega)]at g;exact h.te i e l he g
  grind
 .intro e he
  rcases a0e.1 he with m|m
  .exact h.al e m
  grind
 intro s i e l he g k
 by_cases a:i<E.length
 .rw[a0s a]at he
  rw[a0s (by omega)]at g;have:=h.mm s i e l he g k;have hb:=(a0d.1 this).1;rw[a0s hb];exact this
 grind
def ZZ(w:World)(E:List (FV × LN))(Z:LN):Prop:=(∀k∈Z,k<w.heap.size)/\∀e∈E,∀x n c,e.1.vp=.slice (some x) n c->x.block∉Z
theorem ZZ.mono {E:List (FV × LN)}(h:ZZ w E Z)(a:w.heap.size<=w'.heap.size):ZZ w' E Z:=⟨λk b=>a0t (h.1 k b) a,h.2⟩
def ST(base:Nat)(w:World)(fb vb:Nat)(D:List NF)(ak c:Nat)(U:List NF)(Z:LN):Prop :=
 ∃E B,TE base w fb vb E B ak/\TP E B D ak c/\(∀x∈D,x∈U)/\U.length<=1000000000000/\ZZ w E Z
theorem ST.len {base:Nat}{c:Nat}(h:ST base w fb vb D ak c U Z):D.length<=1000000000000:=by obtain⟨E,B,_,d,b,a,_⟩:=h;exact a0h (qP d.tb.nd b) a
theorem ST.aY {base:Nat}{c:Nat}(h:ST base w fb vb D ak c U Z)(f:aB [] w w'):ST base w' fb vb D ak c U Z:=by obtain⟨E,B,g,e,d,b,a⟩:=h;exact⟨E,B,g.aY f,e,d,b,a.mono f.size⟩
theorem ST.aC {base:Nat}{c:Nat}(h:ST base w fb vb D ak c U Z)(f:aB S w w')(i:fb∉S)(g:vb∉S)(e:qV w S):ST base w' fb vb D ak c U Z:=by obtain⟨E,B,k1,k2,d,b,a⟩:=h;exact⟨E,B,k1.aC f i g e,k2,d,b,a.mono f.size⟩
structure FQ(fb vb jS:Nat)(w w':World):Prop where
 fr:aB [fb,vb] w w'
 mv:jS=vb\/w.heap.size<=jS
theorem FQ.refl(fb vb:Nat)(w:World):FQ fb vb vb w w:=⟨zK,.inl rfl⟩
theorem FQ.trans{c:Nat}{y z:World}(h:FQ fb a b x y)(k:FQ fb b c y z):FQ fb a c x z:=by
 refine⟨⟨k.fr.os.trans h.fr.os,k.fr.tape.trans h.fr.tape,k.fr.output.trans h.fr.output,a0h h.fr.size k.fr.size,λi g f=>?_⟩,?_⟩
 .refine(k.fr.block i (a0t g h.fr.size) ?_).trans (h.fr.block i g f)
  simp only[a0l,a1U,a2V,not_or]at f |-;refine⟨f.1,λe=>?_⟩;rcases h.mv with d|d
  .exact f.2 (e.trans d)
  omega
 have:=h.fr.size;rcases k.mv with e|e
 .rcases h.mv with d|d
  .exact .inl (e.trans d)
  exact .inr (by omega)
 exact .inr (by omega)
def FQ.aba{y z:World}(h:aB [] x y)(k:FQ fb a b y z):FQ fb a b x z :=
 FQ.trans ⟨h.nil,.inl rfl⟩ k
theorem FQ.keepR{y z:World}(h:FQ fb a b x y)(k:aB [] y z):FQ fb a b x z :=
 h.trans ⟨k.nil,.inl rfl⟩
theorem FQ.block{y:World}(h:FQ fb a b x y)(c:k<x.heap.size)(e:k≠fb)(d:k≠a):y.heap[k]?=x.heap[k]?:=h.fr.block k c (by simp[e,d])
def Vq(a b:Int):0<=Go.bits BinOp.xor IntKind.u32 a b:=by show 0<=IntKind.u32.wrap ((BitVec.ofInt 32 a ^^^ BitVec.ofInt 32 b).toNat:Int);simp[IntKind.wrap,IntKind.bits,IntKind.signed];omega
theorem Tt(k:KY):0<=adH k:=Vq _ _
def ank(k:KY):(adH k).tmod 1024=(mV k:Int):=by rw[a2f (Tt k)];exact ass k
def RQ(base:Nat)(w:World)(fb vb:Nat)(D:List NF)(ak c:Nat)(U:List NF)(Z:LN)(y:NF)(e:Ending)(w':World):Prop :=
 ∃a R r,e=zR (zI (r:Nat))/\ST base w' fb a (D++R) ak c U Z/\(D++R)[r]?=some y/\FQ fb vb a w w'
def TE.apT {base:Nat} {E:List (FV × LN)}(h:TE base w fb vb E B ak)(b n:Nat)(hb:b<1024) :
 TE base (w.setCell (zB fb (1+b)) (zI n)) fb vb E (B.set b n) ak:=by
 obtain⟨cap,ht,c⟩:=h.row;have F:aB [fb] w (w.setCell (zB fb (1+b)) (zI n)):=zK.setCell (.inl (by simp)) _;have f:=h.vbs;have d:=h.fb;refine⟨⟨cap,ht.apT b n hb,mO c F λk a=>by simp[Value.ownBlock]at a;subst a;simp;omega⟩,λe he=>(h.pl e he).aC F ?_,h.st,h.fb,?_⟩
 .intro k a;exact h.wu k (by simp at a;simp[a])
 exact a0h h.sz F.size
def TE.agr {base:Nat} {E:List (FV × LN)}(h:TE base w fb vb E B ak)(n:Nat) :
 TE base (w.setCell (zB fb 1025) (zI n)) fb vb E B n:=by
 obtain⟨cap,ht,b⟩:=h.row;have F:aB [fb] w (w.setCell (zB fb 1025) (zI n)):=zK.setCell (.inl (by simp)) _;have d:=h.vbs;have c:=h.fb;refine⟨⟨cap,ht.agr n,mO b F λk a=>by simp[Value.ownBlock]at a;subst a;simp;omega⟩,λe he=>(h.pl e he).aC F ?_,h.st,h.fb,?_⟩
 .intro k a;exact h.wu k (by simp at a;simp[a])
 exact a0h h.sz F.size
def TE.grow {base:Nat} {E:List (FV × LN)} {f:FV}(h:TE base w fb vb E B ak)(d:PL w f.vp L)(n:f.s<2 ^ 256)
 (i:w.grownBy w' (some vb)) (l:w'.ownsRow base 272 12 (zS g (E.length+1) cap) (E.length+1) (fv (E.map Prod.fst)++f.cells.toList)) :
 TE base (w'.setCell (zA fb) (zS g (E.length+1) cap)) fb g (E++[(f,L)]) B ak:=by
 obtain⟨p,ht,o⟩:=h.row;have m:=h.vbs;have c:=h.fb;have F:aB [vb] w w':=aB.fo i;have F2:aB [fb] w' (w'.setCell (zA fb) (zS g (E.length+1) cap)):=zK.setCell (.inl (by simp)) _;have F3:aB [fb,vb] w (w'.setCell (zA fb) (zS g (E.length+1) cap)):=(F.mono (by intro k _ b;simp at b;simp[b])).trans (F2.mono (by intro k _ b;simp at b;simp[b]));have j:=(ht.aC F (by simp;omega)).set0 (zS g (E.length+1) cap);refine⟨⟨cap,by simpa using j,?_⟩,?_,?_,h.fb,a0h h.sz F3.size⟩
 .have:=ownsRow_setCell_below l (a:=(zA fb)) c (zS g (E.length+1) cap)
  unfold FL;simpa[fv] using this
 .intro e he
  rcases a0e.1 he with he|he
  .exact(h.pl e he).aC F3 h.wu
  simp at he;subst he;exact d.aC F3 h.wu
 intro e he;rcases a0e.1 he with he|he
 .exact h.st e he
 grind
def Vr {base:Nat} {E:List (FV × LN)}(h:TE base w fb vb E B ak) {f:FV}(a:E[i]?=some (f,L)) :
 zC w vb (i*12) (zI f.kd)/\zC w vb (i*12+1) (.int .u64 (wd f.s 0))/\zC w vb (i*12+2) (.int .u64 (wd f.s 1))/\zC w vb (i*12+3) (.int .u64 (wd f.s 2))/\zC w vb (i*12+4) (.int .u64 (wd f.s 3)) /\
 zC w vb (i*12+5) (zI f.fi)/\zC w vb (i*12+6) (zI f.se)/\zC w vb (i*12+7) f.vp/\zC w vb (i*12+8) (.bool f.te)/\zC w vb (i*12+9) (zI f.lk)/\zC w vb (i*12+10) (zI f.ak)/\zC w vb (i*12+11) (zI f.lf) :=
 ⟨h.cell a 0 (by decide),h.cell a 1 (by decide),h.cell a 2 (by decide),h.cell a 3 (by decide),h.cell a 4 (by decide),h.cell a 5 (by decide),h.cell a 6 (by decide),h.cell a 7 (by decide),h.cell a 8 (by decide),h.cell a 9 (by decide),h.cell a 10 (by decide),h.cell a 11 (by decide)⟩
def FX(w:World)(xb:Nat)(f:FV):Prop:=w.heap[xb]?=some (.cells f.cells 272 (0,0))
theorem FX.lt {f:FV}(h:FX w xb f):xb<w.heap.size:=(a0c.1 h).1
theorem FX.aC {f:FV}(h:FX w xb f)(F:aB S w w')(a:xb∉S):FX w' xb f:=(F.block xb h.lt a).trans h
theorem FX.fz {f:FV}(h:FX w xb f)(o:Nat):w.frozen? (zB xb o)=false:=by unfold FX at h;simp[World.frozen?,h]
theorem FX.get {f:FV}(h:FX w xb f) :
 w.cell? ⟨xb,0,none⟩=some (.int .i64 f.kd)/\w.cell? ⟨xb,1,none⟩=some (.int .u64 (wd f.s 0))/\w.cell? ⟨xb,2,none⟩=some (.int .u64 (wd f.s 1))/\w.cell? ⟨xb,3,none⟩=some (.int .u64 (wd f.s 2))/\w.cell? ⟨xb,4,none⟩=some (.int .u64 (wd f.s 3)) /\
 w.cell? ⟨xb,5,none⟩=some (.int .i64 f.fi)/\w.cell? ⟨xb,6,none⟩=some (.int .i64 f.se)/\w.cell? ⟨xb,7,none⟩=some f.vp/\w.cell? ⟨xb,8,none⟩=some (.bool f.te)/\w.cell? ⟨xb,9,none⟩=some (.int .i64 f.lk)/\w.cell? ⟨xb,10,none⟩=some (.int .i64 f.ak)/\w.cell? ⟨xb,11,none⟩=some (.int .i64 f.lf):=by
 unfold FX at h;simp only[World.cell?,h];exact⟨rfl,rfl,rfl,rfl,rfl,rfl,rfl,rfl,rfl,rfl,rfl,rfl⟩
def FX.auT {f:FV}(h:FX w xb f)(n:Nat):FX (w.setCell (zB xb 9) (zI n)) xb { f with lk:=n }:=by
 unfold FX at h |-;simp only[World.setCell,a0v,h,a0G,a1x]
 rfl
theorem FV.one(f:FV)(b:f.vp.oneCell'=true):∀u∈f.cells.toList,u.oneCell'=true:=by intro u a;simp only[FV.cells,a0l,a1U,a2V]at a;rcases a with rfl|rfl|rfl|rfl|rfl|rfl|rfl|rfl|rfl|rfl|rfl|rfl<;>first | exact b|rfl
def Tu(K:List KY)(k:KY)(i:Nat):Prop :=
 (i=0\/(2<=i/\i<K.length/\K[i]?.map mV=some (mV k)))/\∀j,i<j->2<=j->K[j]?≠some k
def Tu.start(K:List KY)(k:KY):Tu K k (lastB mV K (mV k) K.length):=by
 constructor
 .exact zD mV K (mV k) K.length
 intro j d c a;have b:=(a0d.1 a).1;have:=Py mV K (mV k) K.length j b c (by rw[a];rfl);omega
def Tu.next {K:List KY} {k q:KY}(h:Tu K k i)(o:0<i)(hq:K[i]?=some q)(l:q≠k):mV q=mV k/\lastB mV K (mV q) i<i/\Tu K k (lastB mV K (mV q) i):=by
 have hb:mV q=mV k:=by
  rcases h.1 with e|⟨_,_,e⟩
  .omega
  rw[hq]at e;simpa using e
 have m:lastB mV K (mV q) i<i:=by rcases zD mV K (mV q) i with e|⟨_,e,_⟩<;>omega
 refine⟨hb,m,?_,?_⟩
 .rcases zD mV K (mV q) i with e|⟨g,p,f⟩
  .exact .inl e
  rcases h.1 with e|⟨_,e,_⟩
  .omega
  exact .inr ⟨g,by omega,by rw[f,hb]⟩
 intro j n c a
 by_cases b:i<j
 .exact h.2 j b c a
 by_cases d:j=i
 .subst d;rw[hq]at a;simp at a;exact l a
 have:=Py mV K (mV q) i j (by omega) c (by rw[a,hb];rfl);omega
def RE(base:Nat)(w:World)(fb vb:Nat)(E:List (FV × LN))(D:List NF)(ak c:Nat)(U:List NF)(Z:LN)(y:NF)(vp:Value)(L:LN)(e:Ending)(w':World):Prop :=
 ∃b R r a d,e=zR (zI (r:Nat))/\TE base w' fb b a d ak/\TP a d (D++R) ak c/\(∀x∈D++R,x∈U)/\U.length<=1000000000000/\(D++R)[r]?=some y/\FQ fb vb b w w'/\(∀e∈a,e∈E\/(e.1.vp=vp/\e.2=L))/\ZZ w' a Z
def RE.rq {base:Nat} {E:List (FV × LN)}{c:Nat}(h:RE base w fb vb E D ak c U Z y vp L e w'):RQ base w fb vb D ak c U Z y e w':=by obtain⟨a,R,r,m,n,l,k,j,i,g,f,d,_,b⟩:=h;exact⟨a,R,r,l,⟨m,n,k,j,i,g,b⟩,f,d⟩
def adI(base:Nat)(w:World)(fb vb:Nat)(E:List (FV × LN))(B:LN)(D:List NF)(ak c:Nat)(U:List NF)(Z:LN)(f:FV)(L:LN)(d:NF)
 (hE:TE base w fb vb E B ak) (hP:TP E B D ak c) (hU:∀x∈D,x∈U) (Gd:U.length<=1000000000000) (W:PL w f.vp L) (hs:f.s<2 ^ 256) (m:Ky D D.length (kz (f,L)) d) (hw:WC d) (hd:d∈U) (Gc:f.te=dK d) (ha:f.ak=0) (Gf:ZZ w E Z) (Sv:∀x n cc,f.vp=.slice (some x) n cc->x.block∉Z) :
 zF 183 #[zP fb,.agg f.cells] w (RE base w fb vb E D ak c U Z d f.vp L):=by
 have HZZ:=aj Gf;have HFZ:=aj Sv;clear Gf Sv;have hlen:D.length<=1000000000000:=a0h (qP hP.tb.nd hU) Gd;have hEl:E.length=D.length:=hP.len;have HH:Z_ (∀w',aB [] w w'->zF 193 #[.agg f.cells] w' λe v=>e=zR (.int .u32 (adH (kz (f,L))))/\aB [] w' v) :=
  λw' F=>ani f L w' (W.1.aC F (by simp)) W.2.2
 have SM:Z_ (∀(w':World) (g:FV) (M:LN),aB [] w w'->(g,M)∈E->zF 194 #[.agg g.cells,.agg f.cells] w' λe v=>(∃b:Bool,e=zR (.bool b)/\(b=true->kz (g,M)=kz (f,L))/\(b=false->kz (g,M)≠kz (f,L)))/\aB [] w' v):=by
  intro w' g M F hm;refine(anj g f M L w' ((hE.pl _ hm).1.aC F (by simp)) (W.1.aC F (by simp)) (hE.pl _ hm).2.2 W.2.2 (hE.st _ hm) hs).mono ?_;rintro e v ⟨rfl,hf⟩;refine⟨⟨_,rfl,?_,?_⟩,hf⟩
  .intro hb
   rw[a0U]at hb;simp only[kz,KY.mk.injEq];exact⟨hb.1,hb.2.2.2.1,hb.2.1,hb.2.2.1,hb.2.2.2.2⟩
  intro hb e;rw[a1g]at hb;simp only[kz,KY.mk.injEq]at e;exact hb ⟨e.1,e.2.2.1,e.2.2.2.1,e.2.1,e.2.2.2.2⟩
 have q:=alF (kz (f,L));have ax9:=ank (kz (f,L));have IX:=Tt (kz (f,L));obtain⟨cap,hT,hF⟩:=hE.row;have hB:B.getD (mV (kz (f,L))) 0=lastB mV (E.map kz) (mV (kz (f,L))) E.length:=hP.bu _ q;have ST0:Z_ (Tu (E.map kz) (kz (f,L)) (B.getD (mV (kz (f,L))) 0)):=by
  show Tu _ _ _;rw[hB];have:=Tu.start (E.map kz) (kz (f,L));simpa using this
 have C:=aj hE;have HP:=aj hP;have HPL:=aj W;have HT:=aj hT;have XB0:Z_ (FX (w.alloc (.cells f.cells 272)) w.heap.size f):=bD w _;have HEL:=aj hEl;have HTE:=aj Gc;have HAK:=aj ha;have A:=aj m;have hlE:E.length<=1000000000000:=by omega
 clear hP hE W hT hF hB hEl Gc ha m;have HKK:Z_ (mV (kz (f,L))<1024):=q;generalize hKK:mV (kz (f,L))=b at *;generalize adH (kz (f,L))=H at *;have HK:=aj hKK;generalize Av:B.getD b 0=a at *;have uh:=aj Av;clear hKK Av;have Be:=C.o.vbs;have hfb:=C.o.fb;have eG:=C.o.sz;have XI:f.cells=#[zI f.kd,.int .u64 (wd f.s 0),.int .u64 (wd f.s 1),.int .u64 (wd f.s 2),.int .u64 (wd f.s 3),zI f.fi,zI f.se,f.vp,.bool f.te,zI f.lk,zI f.ak,zI f.lf]:=rfl;rw[XI]at HH SM |-;have HUN:=aj XI;clear XI;delta zF;go_in
 go_wp2_with (go_at_call 193;refine(HH.o _ ((aB.refl _ _).alloc _)).mono ?_;rintro e v ⟨rfl,aR⟩;have F2:=aj (((aB.refl [] w).alloc _).trans aR);have X2:=aj (FX.aC XB0.o aR (by simp));have T2:=HT.o.aC F2.o (by simp);have q1:zC v fb (1+b) (zI a):=(by have:=T2.cell b q;rw[uh.o]at this;exact this);clear aR T2)
 go_loopg [6] a (λk vi wr=>vi=zI (k:Nat)/\Z_ (Tu (E.map kz) (kz (f,L)) k)/\FX wr w.heap.size f/\aB [] w wr)
 case atStart=>exact⟨rfl,ST0,X2,F2⟩
 case round =>
  clear X2 F2 q1;obtain⟨rfl,y,r,bH⟩:=hrel;have X:=aj r;have F3:=aj bH;have z3:=bH.size;have x3:=r.lt;clear r bH;have T3:=aj (C.o.aY F3);have r0:=(HT.o.aC F3.o (by simp)).c0
  by_cases h0:gk=0
  .subst h0
   have hnD:Z_ (d∉D):=by
    intro hm;obtain⟨i,hi⟩:=a1T hm;have:=HP.o.tb.found A.o hi;exact y.o.2 i (by omega) this.1 this.2
   have z:=HT.o.aC F3.o (by simp);have q1:zC wr fb (1+b) (zI a):=by have:=z.cell b q;rw[uh.o]at this;exact this
   have q2:=z.fz (1+b);have q3:=X.o.fz 9;obtain⟨V,T,R,h,P,O,N,J,I,G,l,j⟩:=X.o.get;clear V T R h P O N J I l j;have X4:=aj (X.o.auT a);have F4:Z_ (aB [] w (wr.setCell (zB w.heap.size 9) (zI a))):=F3.o.setCell (.inr (a0b _)) _;have T4:=aj (C.o.aY F4);have Y:=aj (T4.o.apT b E.length q);have F5:Z_ (aB [fb] w ((wr.setCell (zB w.heap.size 9) (zI a)).setCell (zB fb (1+b)) (zI E.length))):=aB.setCell F4.o.nil (.inl (by simp)) _;have X5:Z_ (FX ((wr.setCell (zB w.heap.size 9) (zI a)).setCell (zB fb (1+b)) (zI E.length)) w.heap.size { f with lk:=a }):=X4.o.aC (S:=[fb]) ((aB.refl _ _).setCell (.inl (by simp)) _) (by simp;omega);clear z X T3;go_wp2_with fail
   generalize ((wr.setCell (zB w.heap.size 9) (zI a)).setCell (zB fb (1+b)) (zI E.length))=wc at Y F5 X5 |-;clear q1 q2 q3 G r0 X4 F4 T4;obtain⟨atp,u,T5l⟩:=Y.o.row;have r0:=u.c0;have r1:=u.fz 0;have TT:=aj u;have TL:Z_ (wc.ownsRow base 272 12 (zS vb E.length atp) E.length (fv (E.map Prod.fst))):=by
    have:=T5l;unfold FL at this;rw[a0y]at this;exact this
   clear u T5l;obtain⟨V,T,R,h,P,O,N,J,I,G,l,j⟩:=X5.o.get;simp only at V T R h P O N J I G l j;have z5:=F5.o.size;have awD:=TT.o.lt;have bJ:fb≠vb:=by omega
   have hvp:f.vp.oneCell'=true:=HPL.o.cell1;obtain⟨i9,hi,Qa,Yk,Il⟩:=info_parts adG;have g2:∀o:Obj,(wc.alloc o).drew.frozen? (zA fb)=false:=λo=>((((aB.refl [] wc).alloc o).drew).frozen awD (by simp)).trans r1
   go_region_law ((refine step_append_lies _ (by rfl) _ _ _ (by rfl) base 272 i9 _ 12 112 Tryz.underlying273 hi Qa Yk Il rfl (by omega) (zS vb E.length atp) E.length (fv (E.map Prod.fst)) (by rfl) (by exact TL.o.alloc _) (zA wc.heap.size) 1 1 (FV.cells ⟨f.kd,f.s,f.fi,f.se,f.vp,f.te,a,f.ak,f.lf⟩).toList (by rfl) (by rfl) (World.news_of_block (cs:=FV.cells ⟨f.kd,f.s,f.fi,f.se,f.vp,f.te,a,f.ak,f.lf⟩) (t:=272) (fr:=(0,0)) (by exact bD _ _)) (FV.one _ (by exact hvp)) (by omega) (by unfold maxLen;omega) (by omega) (by simp;omega) (wc.heap.size+1) (by simp) ?_;intro gg aU w4 bT aH bq AO;have c4:=(aH.cell_far (zA fb) (by simp;omega) (by simp[Value.ownBlock];omega));have f4:=(aH.frozen_far (zA fb) (by simp;omega) (by simp[Value.ownBlock];omega));have f5:=f4.trans (g2 _)))
   all_goals
    have T6:=Y.o.aY (((aB.refl [] wc).alloc (Obj.cells (FV.cells ⟨f.kd,f.s,f.fi,f.se,f.vp,f.te,a,f.ak,f.lf⟩) 272)).drew);have P5:PL wc f.vp L:=HPL.o.aC F5.o (λk m=>C.o.wu k (by simp at m;simp[m]));have P6:=P5.aC (((aB.refl [] wc).alloc (Obj.cells (FV.cells ⟨f.kd,f.s,f.fi,f.se,f.vp,f.te,a,f.ak,f.lf⟩) 272)).drew) (qV.nil _);have T7:=aj (TE.grow (f:=⟨f.kd,f.s,f.fi,f.se,f.vp,f.te,a,f.ak,f.lf⟩) (L:=L) T6 P6 hs aH bT);have Q7:Z_ (TP (E++[(⟨f.kd,f.s,f.fi,f.se,f.vp,f.te,a,f.ak,f.lf⟩,L)]) (B.set b E.length) (D++[d]) ak c):=by
     have:=HP.o.push HT.o.2 (f:=⟨f.kd,f.s,f.fi,f.se,f.vp,f.te,a,f.ak,f.lf⟩) (L:=L) A.o hw hnD.o HTE.o (by show a=B.getD (mV (kz (f,L))) 0;rw[HK.o];exact uh.o.symm) HAK;rw[show mV (kz ((⟨f.kd,f.s,f.fi,f.se,f.vp,f.te,a,f.ak,f.lf⟩:FV),L))=b from HK.o]at this;exact this
    have F7:Z_ (aB [fb,vb] w w4):=aB.grown ((F5.o.mono (by intro k _ m;simp at m;simp[m])).alloc _).drew aH (λk m=>by simp[Value.ownBlock]at m;subst m;exact .inl (by simp));have M7:Z_ (gg=vb\/w.heap.size<=gg):=by
     rcases bq with e|e
     .simp[Value.ownBlock]at e;exact .inl e.symm
     exact .inr (by omega)
    clear aH bT bq T6 P5 P6 V T R h P O N J I G l j;go_wp2;go_ret;refine⟨gg,[d],E.length,_,_,rfl,T7,Q7,?_,Gd,?_,⟨aB.setCell F7.o (.inl (by simp)) _,M7⟩,λe he=>?_,?_⟩
    .intro x r
     rcases a0e.1 r with r|r
     .exact hU x r
     simp at r;subst r;exact hd
    .rw[HEL.o];simp
    .rcases a0e.1 he with he|he
     .exact .inl he
     simp at he;subst he;exact .inr ⟨rfl,rfl⟩
    have hz:=HZZ.o.mono (w':=w4.setCell (zA fb) (zS gg (E.length+1) aU)) (by have:=F7.o.size;simpa using this);refine⟨hz.1,λe he=>?_⟩;rcases a0e.1 he with he|he
    .exact hz.2 e he
    simp at he;subst he;exact HFZ
  have aL:2<=gk/\gk<E.length:=by
   rcases y.o.1 with e|⟨e1,e2,_⟩
   .exact absurd e h0
   exact⟨e1,by simpa using e2⟩
  obtain⟨⟨g,M⟩,p⟩:∃e,E[gk]?=some e:=⟨E[gk]'aL.2,a0a aL.2⟩;have nJ:(g,M)∈E:=a0B p;have hkE:Z_ ((E.map kz)[gk]?=some (kz (g,M))):=by show _=_;simp[p]
  have HGM:=aj p;obtain⟨c0,c1,c2,c3,c4,c5,c6,c7,c8,c9,c10,c11⟩:=Vr T3.o p;obtain⟨V,T,R,h,P,O,N,J,I,G,l,j⟩:=X.o.get;have SM2:Z_ (zF 194 #[.agg #[zI g.kd,.int .u64 (wd g.s 0),.int .u64 (wd g.s 1),.int .u64 (wd g.s 2),.int .u64 (wd g.s 3),zI g.fi,zI g.se,g.vp,.bool g.te,zI g.lk,zI g.ak,zI g.lf],.agg #[zI f.kd,.int .u64 (wd f.s 0),.int .u64 (wd f.s 1),.int .u64 (wd f.s 2),.int .u64 (wd f.s 3),zI f.fi,zI f.se,f.vp,.bool f.te,zI f.lk,zI f.ak,zI f.lf]] wr.drew λe v=>(∃b:Bool,e=zR (.bool b)/\(b=true->kz (g,M)=kz (f,L))/\(b=false->kz (g,M)≠kz (f,L)))/\aB [] wr.drew v):=SM.o wr.drew g M F3.o.drew nJ;clear p;have aag:=aL.1;have ng:=aL.2;go_wp2_with fail
  go_region_with (go_at_call 194;refine SM2.o.mono ?_;rintro e w4 ⟨⟨bb,rfl,kv,jR⟩,nL⟩;have HB1:=aj kv;have HB2:=aj jR;have F4:=aj nL;clear kv jR nL)
  all_goals
   have F5:=aj (F3.o.drew.trans F4);have Y:=aj (C.o.aY F5);have r5:=(HT.o.aC F5.o (by simp)).c0;have c5':=(Vr Y.o HGM).2.2.2.2.2.2.2.2.2.1;have X5:=aj ((show FX wr.drew w.heap.size f from X.o).aC F4.o (by simp));clear c0 c1 c2 c3 c4 c5 c6 c7 c8 c9 c10 c11 V T R h P O N J I G l j r0 SM2;cases bb with
   | true =>
     have hD:Z_ (D[gk]?=some d):=HP.o.tb.sameKey A.o aag (by rw[<-HB1.o rfl];exact hkE);go_wp2;go_ret;exact⟨vb,[],gk,E,B,rfl,Y,by simpa using HP.o,by simpa using hU,Gd,by simpa using hD.o,FQ.keepR (FQ.refl _ _ _) F5,λe he=>.inl he,HZZ.o.mono F5.o.size⟩
   | false =>
     have hN:=y.o.next (by omega) hkE.o (HB2.o rfl);have hl:g.lk=lastB mV (E.map kz) (mV (kz (g,M))) gk:=HP.o.lk gk _ aag HGM;rw[<-hl]at hN;have HN:=aj hN;clear hN hl;go_wp2;go_roundg g.lk
     case measure=>exact HN.o.2.1
     case rel=>exact⟨rfl,HN.o.2.2,X5,F5⟩
def Lc(base:Nat)(w:World)(fb vb:Nat)(D:List NF)(ak c:Nat)(U:List NF)(Z:LN)(f:FV)(L:LN)(d:NF)
 (h:ST base w fb vb D ak c U Z) (i:PL w f.vp L) (b:f.s<2 ^ 256) (j:Ky D D.length (kz (f,L)) d) (a:WC d) (hd:d∈U) (r:f.te=dK d) (k:f.ak=0) (o:∀x n cc,f.vp=.slice (some x) n cc->x.block∉Z) :
 zF 183 #[zP fb,.agg f.cells] w (RQ base w fb vb D ak c U Z d):=by
 obtain⟨E,B,hE,m,l,q,p⟩:=h;exact(adI base w fb vb E B D ak c U Z f L d hE m l q i b j a hd r k p o).mono λe w' g=>g.rq
def qW:NF->Nat
 | .zero=>0
 | .one=>1
 | .set _=>2
 | .pair _ _=>3
 | .sum _=>4
 | .star _=>5
structure LK(w:World)(fb vb:Nat)(D:List NF)(ak c i:Nat)(d:NF)(f:FV)(L:LN)(cap:Nat):Prop where
 tab:w.cell? (zA fb)=some (zS vb D.length cap)
 lt:i<D.length
 get:w.cell? (zB vb (i*12))=some (zI f.kd)/\w.cell? (zB vb (i*12+1))=some (.int .u64 (wd f.s 0))/\w.cell? (zB vb (i*12+2))=some (.int .u64 (wd f.s 1))/\w.cell? (zB vb (i*12+3))=some (.int .u64 (wd f.s 2))/\w.cell? (zB vb (i*12+4))=some (.int .u64 (wd f.s 3)) /\
  w.cell? (zB vb (i*12+5))=some (zI f.fi)/\w.cell? (zB vb (i*12+6))=some (zI f.se)/\w.cell? (zB vb (i*12+7))=some f.vp/\w.cell? (zB vb (i*12+8))=some (.bool f.te)/\w.cell? (zB vb (i*12+9))=some (zI f.lk)/\w.cell? (zB vb (i*12+10))=some (zI f.ak)/\w.cell? (zB vb (i*12+11))=some (zI f.lf)
 kd:f.kd=qW d
 te:f.te=dK d
 st:f.s<2 ^ 256
 pl:PL w f.vp L
 pair:∀a b,d=.pair a b->D[f.fi]?=some a/\D[f.se]?=some b
 star:∀a,d=.star a->D[f.fi]?=some a
 set:∀s,d=.set s->f.s=s
 sum:∀l,d=.sum l->(∀j∈L,j<D.length)/\l=gU (L.map λj=>D.getD j .zero)/\L.Pairwise (·<·)
 ale:f.ak<=ak
 mem:1<=ak->f.ak=ak->D[f.lf]?=some (left c d)
def ST.look {base:Nat}{c:Nat}(h:ST base w fb vb D ak c U Z)(r:D[i]?=some d):∃f L cap,LK w fb vb D ak c i d f L cap:=by
 obtain⟨E,B,hE,m,_,_,_⟩:=h;have G:=(a0d.1 r).1;have F:=m.len;obtain⟨⟨f,L⟩,he⟩:∃e,E[i]?=some e:=⟨E[i]'(by omega),a0a (by omega)⟩;have C:=a0B he;obtain⟨cap,I,_⟩:=hE.row;have p:(E.map kz)[i]?=some (kz (f,L)):=by simp[he]
 have two:i=0\/i=1\/2<=i:=by omega
 refine⟨f,L,cap,by rw[<-F];exact I.c0,G,Vr hE he,?_,m.te i _ d he r,hE.st _ C,hE.pl _ C,?_,?_,?_,?_,m.al _ C,λJ z=>m.mm J i _ d he r z⟩
 .rcases two with rfl|rfl|z
  .have:=m.tb.k0;rw[p]at this;simp[kz]at this
   have e:=m.tb.d0;rw[r]at e;simp at e;rw[e];exact this.1
  .have:=m.tb.k1;rw[p]at this;simp[kz]at this
   have e:=m.tb.d1;rw[r]at e;simp at e;rw[e];exact this.1
  rcases m.tb.ky i _ d z p r with g|⟨o,v,u,t,q,x,y,n,k,A⟩|⟨o,v,u,t,q,n,k⟩|⟨o,v,u,t,q,x,n,k⟩
  .rw[g.2.2.2.2];exact g.1
  .rw[A];exact o
  .rw[k];exact o
  rw[k];exact o
 .rintro a b rfl
  have z:=m.tb.ge r (by simp) (by simp);rcases m.tb.ky i _ _ z p r with g|⟨o,v,u,t,q,x,y,n,k,A⟩|⟨o,v,u,t,q,n,k⟩|⟨o,v,u,t,q,x,n,k⟩
  .grind
  .simp at A;obtain⟨rfl,rfl⟩:=A;exact⟨n,k⟩
  .simp at k
  simp at k
 .rintro a rfl
  have z:=m.tb.ge r (by simp) (by simp);rcases m.tb.ky i _ _ z p r with g|⟨o,v,u,t,q,x,y,n,k,A⟩|⟨o,v,u,t,q,n,k⟩|⟨o,v,u,t,q,x,n,k⟩
  .grind
  .simp at A
  .simp at k
  simp at k;subst k;exact n
 .rintro s rfl
  have z:=m.tb.ge r (by simp) (by simp);rcases m.tb.ky i _ _ z p r with g|⟨o,v,u,t,q,x,y,n,k,A⟩|⟨o,v,u,t,q,n,k⟩|⟨o,v,u,t,q,x,n,k⟩
  .have:=g.2.2.2.2;simp at this;exact this.symm
  .simp at A
  .simp at k
  simp at k
 rintro l rfl;have z:=m.tb.ge r (by simp) (by simp);rcases m.tb.ky i _ _ z p r with g|⟨o,v,u,t,q,x,y,n,k,A⟩|⟨o,v,u,t,q,n,k⟩|⟨o,v,u,t,q,x,n,k⟩
 .grind
 .simp at A
 .simp at k;exact⟨λj H=>by have:=n j H;omega,k,q⟩
 simp at k
def ST.pP {base:Nat}{c:Nat}(h:ST base w fb vb D ak c U Z):D[0]?=some .zero/\D[1]?=some .one/\D.Nodup/\(∀d∈D,WC d)/\(∀x∈D,x∈U)/\fb<base/\base<=w.heap.size/\base<=vb/\vb<w.heap.size/\qV w [fb,vb]:=by obtain⟨E,B,hE,a,e,_,_⟩:=h;have b:=hE.vbs;exact⟨a.tb.d0,a.tb.d1,a.tb.nd,a.tb.wc,e,hE.fb,hE.sz,b.1,b.2.1,hE.wu⟩
def ST.zs {base:Nat}{c:Nat}(h:ST base w fb vb D ak c U Z):∀k∈Z,k<w.heap.size:=by obtain⟨E,B,_,_,_,_,a⟩:=h;exact a.1
theorem ST.num {base:Nat}{c:Nat}(h:ST base w fb vb D ak c U Z){x:NF}(b:D[i]?=some x)(a:D[j]?=some y):i=j↔x=y:=by
 constructor
 .grind
 rintro rfl;exact yI h.pP.2.2.1 b a
def RQ.here {base:Nat}{c:Nat} {r:Nat}(h:ST base w fb vb D ak c U Z)(f:aB [] w w')(a:D[r]?=some y):RQ base w fb vb D ak c U Z y (zR (zI (r:Nat))) w' :=
 ⟨vb,[],r,rfl,by simpa using h.aY f,by simpa using a,FQ.keepR (FQ.refl _ _ _) f⟩
def RQ.later {base:Nat}{a:Nat}{c:Nat}(f:FQ fb vb a w w1)(h:RQ base w1 fb a (D++R) ak c U Z y e w'):RQ base w fb vb D ak c U Z y e w':=by obtain⟨b,k,r,j,i,g,d⟩:=h;exact⟨b,R++k,r,j,by simpa using i,by simpa using g,f.trans d⟩
theorem RQ.keepR {base:Nat}{c:Nat}(h:RQ base w fb vb D ak c U Z y e w1)(f:aB [] w1 w'):RQ base w fb vb D ak c U Z y e w':=by obtain⟨a,j,r,i,g,d,b⟩:=h;exact⟨a,j,r,i,g.aY f,d,FQ.keepR b f⟩
def rU {x:NF}(h:D[i]?=some x):(D++R)[i]?=some x:=by grind
theorem IL.cell {base:Nat}(h:IL base w (zS g n cap) L)(j:Nat)(b:j<L.length):zC w g j (zI (L[j]:Nat)):=by have a:=World.ownsRow.cells h (g:=g) rfl j (zI (L[j]:Nat)) (by simp[nv,b]);rw[add0]at a;exact a
theorem IL.fz {base:Nat}(h:IL base w (zS g n cap) L)(j:Nat):w.frozen? (zB g j)=false:=by obtain⟨a,c,e⟩:=aW h;simp at e;obtain⟨_,rfl,_⟩:=e;exact World.ownsRow.frozenAt h j
theorem IL.set {base:Nat}(h:IL base w (zS g n cap) L)(j m:Nat):IL base (w.setCell (zB g j) (zI m)) (zS g n cap) (L.set j m):=by obtain⟨a,c,e⟩:=aW h;simp at e;obtain⟨_,rfl,_⟩:=e;have:=(World.ownsRow.stored h j (zI m)).1;unfold IL;simpa[nv,a2d] using this
def BH {base b2:Nat} {e:TypeId} {size:Nat}(h:w.ownsRow base e size v n xs)(hb:b2<=base):w.ownsRow b2 e size v n xs:=by
 refine⟨h.1,?_⟩;rcases h.2 with b|⟨g,cap,cur,a,c,rest⟩
 .exact .inl b
 exact .inr ⟨g,cap,cur,a,a0h hb c,rest⟩
def akb(A:LN)(k y:Nat)(a:k<A.length):(A.take (k+1)++y::A.drop (k+1)).set (k+1) (A[k])=A.take k++A[k]::A.drop k:=by
 have b:A.take (k+1)=A.take k++[A[k]]:=by rw[a1c,a0a a];rfl
 rw[a0k a,b,a0M];rw[a1v _ _ (by simp;omega)];simp only[a1k,a2n (a3t a)];rw[show k+1-k=1 by omega]
 rfl
theorem ahD(A:LN)(k y m:Nat)(a:k<=A.length):(A.take k++y::A.drop k).set k m=A.take k++m::A.drop k:=by
 rw[a1v _ _ (by simp;omega)];simp only[a1k,a2n a,a2v]
 rfl
theorem apU(A:LN)(k y:Nat)(a:k<A.length)(h:k<(A.take (k+1)++y::A.drop (k+1)).length):(A.take (k+1)++y::A.drop (k+1))[k]=A[k]:=by rw[List.getElem_append_left (by simp;omega)];simp
theorem Cy(A:LN)(k y:Nat)(a:k<=A.length):(A.take k++y::A.drop k).length=A.length+1:=by simp;omega
def Vs(A T:LN):Prop:=A.Pairwise (·<=·)/\∀x,x∈A↔x∈T
theorem Vs.put{A:LN}(h:Vs A (L.take j))(b:j<L.length)(a:k<=A.length)(d:∀x∈A.drop k,L[j]<x)(c:0<k->A.getD (k-1) 0<=L[j]):Vs (A.take k++L[j]::A.drop k) (L.take (j+1)):=by
 refine⟨arQ h.1 a d c,λx=>?_⟩;have e:L.take (j+1)=L.take j++[L[j]]:=by rw[a1c,a0a b];rfl
 rw[amw,h.2 x,e];simp only[a0e,a0w]
def afr(v:Value)(L:LN)(w:World)(hv:NL .i64 w v L)(hL:L.length<=9500000000000) :
 zF 209 #[v] w λe w'=>∃v' R,e=zR v'/\IL w.heap.size w' v' R/\RO R L/\aB [] w w':=by
 obtain⟨a,cap,rfl,V⟩:=hv;delta zF;go_in
 go_wp2_with fail
 go_loopg [3,13] L.length (λk vr D wr=>∃(j:Nat) (A:LN),j+k=L.length/\D=zI j/\IL w.heap.size wr vr A/\j<=A.length/\A.length<=j/\Vs A (L.take j)/\aB [] w wr)
 case atStart=>refine⟨0,[],by omega,rfl,World.ownsRow_lit _ #[] 0 (a0b _) (by unfold maxLen;omega) (by simp),by simp,by simp,⟨by simp,by simp⟩,zJ⟩
 case round =>
  obtain⟨j,A,hj,rfl,U,S9,Nt,RI,F⟩:=hrel;obtain⟨af,aa7,rfl⟩:=aW U;have z:=F.size;obtain⟨i,Vg⟩:∃i,i=wr:=⟨_,rfl⟩;subst Vg;obtain⟨go,iD⟩:∃go,go=gk:=⟨_,rfl⟩;subst iD
  by_cases aL:j<L.length
  .obtain⟨g,off,rfl,hg,H⟩:=V j aL
   have Y:zC i g (off+j) (zI (L[j]:Nat)):=(F.cell (p:=(zB g (off+j))) hg (by simp)).trans H;have P:∀k,k<=A.length->(∀x∈A.drop k,L[j]<x)->(0<k->A.getD (k-1) 0<=L[j])->Vs (A.take k++L[j]::A.drop k) (L.take (j+1)):=λk V h2 h3=>RI.put aL V h2 h3
   clear H;generalize L[j]=m at *;go_wp2_with (first | (at_builtin;refine vG _ rfl _ _ rfl w.heap.size (.slice af A.length aa7) A m i.heap.size rfl (U.alloc _) rfl (j6 _ _ _ _ rfl) (by omega) (by simp;omega) ?_;intro c u w5 B l I iE;have F5:=(F.alloc _).grown l (λk t=>Or.inr (U.lt _ t).1);clear l I))
   go_loopg [6] A.length (λk D wr=>D=zI (k:Nat)/\k<=A.length/\(∃y,IL w.heap.size wr (zS c (A.length+1) u) (A.take k++y::A.drop k))/\(∀x∈A.drop k,m<x)/\aB [] w wr)
   exact⟨by go_num,by omega,⟨m,by simpa using B⟩,by intro x S;simp at S,F5⟩
   .clear B F5 U F Y;obtain⟨rfl,t,⟨y,d⟩,dZ,X⟩:=hrel;have z6:=X.size;cases gk with
    | zero =>
      have q:=d.fz 0;obtain⟨C,qc⟩:∃C,zC wr c 0 C:=⟨_,d.cell 0 (by rw[Cy A 0 y (by omega)];omega)⟩;have P6:=P 0 (by omega) dZ (by omega);have V6:IL w.heap.size (wr.setCell (zA c) (zI m)) (zS c (A.length+1) u) (A.take 0++m::A.drop 0):=by have:=d.set 0 m;rw[ahD A 0 y m (by omega)]at this;exact this
      have h:=(d.lt _ rfl).1;go_wp2;go_roundg (go-1)
      .refine⟨j+1,_,by omega,by go_num,V6,?_,?_,P6,X.setCell (.inr h) _⟩
       .rw[Cy A 0 m (by omega)];omega
       rw[Cy A 0 m (by omega)];omega
      omega
    | succ k =>
      have f:k<A.length:=by omega
      have h:=(d.lt _ rfl).1;have q:=d.fz (k+1);obtain⟨C,qc⟩:∃C,zC wr c (k+1) C:=⟨_,d.cell (k+1) (by rw[Cy A (k+1) y (by omega)];omega)⟩;have qk:zC wr c k (zI (A[k]:Nat)):=by have:=d.cell k (by rw[Cy A (k+1) y (by omega)];omega);rw[apU A k y f]at this;exact this
      have SH:=akb A k y f;have DR:A.drop k=A[k]::A.drop (k+1):=a0k f;have W:A.getD k 0=A[k]:=by simp[List.getD,f]
      generalize A[k]=p at *
      by_cases T:m<p
      .have V6:IL w.heap.size (wr.setCell (zB c (k+1)) (zI p)) (zS c (A.length+1) u) (A.take k++p::A.drop k):=by have:=d.set (k+1) p;rw[SH]at this;exact this
       have awE:∀x∈A.drop k,m<x:=by
        intro x S;rw[DR]at S;rcases a0l.1 S with e|e
        .omega
        exact dZ x e
       go_wp2;go_roundg k;exact⟨by go_num,by omega,⟨p,V6⟩,awE,X.setCell (.inr h) _⟩;omega
      have P6:=(P (k+1) (by omega) dZ (by intro _;show A.getD k 0<=m;rw[W];omega));have V6:IL w.heap.size (wr.setCell (zB c (k+1)) (zI m)) (zS c (A.length+1) u) (A.take (k+1)++m::A.drop (k+1)):=by have:=d.set (k+1) m;rw[ahD A (k+1) y m (by omega)]at this;exact this
      go_wp2;go_roundg (go-1)
      .refine⟨j+1,_,by omega,by go_num,V6,?_,?_,P6,X.setCell (.inr h) _⟩
       .rw[Cy A (k+1) m (by omega)];omega
       rw[Cy A (k+1) m (by omega)];omega
      omega
  have E:j=L.length:=by omega
  have N:Vs A L:=by have:=RI;rw[E,a2h]at this;exact this
  obtain⟨a',c',e',HN⟩:=xV U;simp only[Value.slice.injEq,a1W]at e';obtain⟨rfl,rfl⟩:=e';clear RI E V;go_wp2_with fail
  go_loopg [7,53] A.length (λk vo D wr=>∃(b:Nat) (O:LN),b+k=A.length/\D=zI b/\IL i.heap.size wr vo O/\O.length<=b/\RO O (A.take b)/\aB [] i wr)
  case atStart=>refine⟨0,[],by omega,rfl,World.ownsRow_lit _ #[] 0 (a0b _) (by unfold maxLen;omega) (by simp),by simp,⟨by simp,by simp⟩,zJ⟩
  case round =>
   obtain⟨b,O,hj2,rfl,n,hO,o,r⟩:=hrel;obtain⟨ao,J,rfl⟩:=aW n;have zo:=r.size;obtain⟨s,Z⟩:∃s,s=wr:=⟨_,rfl⟩;subst Z
   by_cases ng:b<A.length
   .obtain⟨g,off,rfl,hg,H⟩:=HN b ng
    have Y:zC s g (off+b) (zI (A[b]:Nat)):=(r.cell (p:=(zB g (off+b))) hg (by simp)).trans H;have ST:=aoF N.1 ng o;clear H;cases b with
    | zero =>
      have M:=ST.1 (.inl rfl);rw[a1Q]at Y;generalize A[0]=m at *;go_wp2_with (first | (at_builtin;refine vG _ rfl _ _ rfl i.heap.size (.slice ao O.length J) O m s.heap.size rfl (n.alloc _) rfl (j6 _ _ _ _ rfl) (by omega) (by simp;omega) ?_;intro c u w5 B l I iE;have F5:=(r.alloc _).grown l (λk t=>Or.inr (n.lt _ t).1);clear l I))
      go_roundg (gk-1);exact⟨1,O++[m],by omega,by go_num,by simpa using B,by simp only[a0p,a0r,a1e];omega,M,F5⟩;omega
    | succ k =>
      obtain⟨g2,ato,e2,iM,G⟩:=HN k (by omega);simp only[Option.some.injEq,Addr.mk.injEq,a2u]at e2;obtain⟨rfl,rfl⟩:=e2;have JK:zC s g (off+k) (zI (A[k]'(by omega):Nat)):=(r.cell (p:=(zB g (off+k))) iM (by simp)).trans G;have W:A.getD k 0=A[k]'(by omega):=by simp[List.getD,show k<A.length by omega]
      clear G;generalize A[k]'(by omega)=p at *;generalize A[k+1]=m at *
      by_cases T:p=m
      .have M:=(ST.2 (λe=>e.elim (λe=>by omega) (λe=>e (by show A.getD k 0=m;rw[W,T]))))
       subst T;clear ST;go_wp2;go_roundg (gk-1);exact⟨k+1+1,O,by omega,by go_num,n,by omega,M,r⟩;omega
      have M:=(ST.1 (.inr (by show A.getD k 0≠m;rw[W];exact T)));have hb:((p:Int) != (m:Int))=true:=by rw[a1M];omega
      clear ST;go_wp2_with (first | (at_builtin;refine vG _ rfl _ _ rfl i.heap.size (.slice ao O.length J) O m s.heap.size rfl (n.alloc _) rfl (j6 _ _ _ _ rfl) (by omega) (by simp;omega) ?_;intro c u w5 B l I iE;have F5:=(r.alloc _).grown l (λk t=>Or.inr (n.lt _ t).1);clear l I))
      go_roundg (gk-1);exact⟨k+1+1,O++[m],by omega,by go_num,by simpa using B,by simp only[a0p,a0r,a1e];omega,M,F5⟩;omega
   have E:b=A.length:=by omega
   have RO2:RO O L:=by have:=o;rw[E,a2h]at this;exact⟨this.1,λx=>(this.2 x).trans (N.2 x)⟩
   clear o E;go_wp2;go_ret;exact⟨_,O,rfl,BH n z,RO2,F.trans r⟩
def RQ.first {base:Nat}{c:Nat}(f:aB [] w w1)(h:RQ base w1 fb vb D ak c U Z y e w'):RQ base w fb vb D ak c U Z y e w' :=
 RQ.later (R:=[]) (FQ.keepR (FQ.refl _ _ _) f) (by simpa using h)
def awF(h:a=b):((a:Int)==(b:Int))=true:=by subst h;simp
def atr(h:a≠b):((a:Int)==(b:Int))=false:=by rw[a0j];omega
def abb(h:a≠0):((a:Int)==0)=false:=by rw[a0j];omega
def afs(h:a≠1):((a:Int)==1)=false:=by rw[a0j];omega
def aft(Z:LN):∀x n c,(Value.slice none 0 0)=.slice (some x) n c->x.block∉Z:=by intro x n c e;simp at e
def Ke(s:Nat):NF:=if s=0 then .zero else .set s
def apV(a:s<2 ^ 256)(w:World):(Op.equalIn 10000 261 (.agg #[.int .u64 (wd s 0),.int .u64 (wd s 1),.int .u64 (wd s 2),.int .u64 (wd s 3)]) (.agg #[.int .u64 0,.int .u64 0,.int .u64 0,.int .u64 0])).run Tryz.prog w=.ok (decide (s=0)) w:=by have:=apS a (t:=0) (by decide) w;simpa[wd] using this
theorem afu(kd fi se:Nat)(vp:Value)(te:Bool)(c b a:Int)(f:(kd:Int)=c)(e:(fi:Int)=b)(d:(se:Int)=a):FV.cells ⟨kd,0,fi,se,vp,te,0,0,0⟩=#[zI c,.int .u64 0,.int .u64 0,.int .u64 0,.int .u64 0,zI b,zI a,vp,.bool te,zI 0,zI 0,zI 0]:=by subst f e d;simp[FV.cells,wd]
theorem asu(s:Nat):FV.cells ⟨2,s,0,0,zN,false,0,0,0⟩=#[zI 2,.int .u64 (wd s 0),.int .u64 (wd s 1),.int .u64 (wd s 2),.int .u64 (wd s 3),zI 0,zI 0,zN,.bool false,zI 0,zI 0,zI 0]:=by simp[FV.cells]
theorem bv0:bv 0=.agg #[.int .u64 0,.int .u64 0,.int .u64 0,.int .u64 0]:=by simp[bv,wd]
def asv(w:World):(Op.equalIn 10000 261 (.agg #[.int .u64 0,.int .u64 0,.int .u64 0,.int .u64 0]) (.agg #[.int .u64 0,.int .u64 0,.int .u64 0,.int .u64 0])).run Tryz.prog w=.ok true w:=by have:=apV (s:=0) (by decide) w;simpa[wd] using this
def RE.first {base:Nat} {E:List (FV × LN)}{c:Nat}(f:aB [] w w1)(h:RE base w1 fb vb E D ak c U Z y vp L e w'):RE base w fb vb E D ak c U Z y vp L e w':=by obtain⟨a,R,r,n,o,m,l,k,j,i,g,d,b⟩:=h;exact⟨a,R,r,n,o,m,l,k,j,i,g,FQ.aba f d,b⟩
def apW(base:Nat)(w:World)(fb vb:Nat)(E:List (FV × LN))(B:LN)(D:List NF)(ak c:Nat)(U:List NF)(Z:LN)(s:Nat)(hE:TE base w fb vb E B ak)(g:TP E B D ak c)(a:∀x∈D,x∈U)(j:U.length<=1000000000000)(f:s<2 ^ 256)(l:s≠0->.set s∈U)(i:ZZ w E Z) :
 zF 172 #[zP fb,bv s] w (RE base w fb vb E D ak c U Z (Ke s) zN []):=by
 have m:=g.tb.d0
 by_cases b:s=0
 .subst b
  rw[bv0];have p:=asv;delta zF;go_in
  go_wp2;go_ret;exact⟨vb,[],0,E,B,rfl,hE.aY zJ,by simpa using g,by simpa using a,j,by simpa[Ke] using m,FQ.keepR (FQ.refl _ _ _) zJ,λe he=>.inl he,i.mono (by simp)⟩
 have o:∀w',aB [] w w'->zF 183 #[zP fb,.agg #[zI 2,.int .u64 (wd s 0),.int .u64 (wd s 1),.int .u64 (wd s 2),.int .u64 (wd s 3),zI 0,zI 0,zN,.bool false,zI 0,zI 0,zI 0]] w' (RE base w' fb vb E D ak c U Z (.set s) zN []):=by intro w' F;have:=adI base w' fb vb E B D ak c U Z ⟨2,s,0,0,zN,false,0,0,0⟩ [] (.set s) (hE.aY F) g a j (PL.nil _) f (.inl ⟨rfl,rfl,rfl,rfl,rfl⟩) ⟨⟨a2P b,f⟩,trivial⟩ (l b) rfl rfl (i.mono F.size) (aft Z);rw[asu]at this;exact this
 have p:=apV f;have d:Ke s=.set s:=by simp[Ke,b]
 have k:decide (s=0)=false:=by simp[b]
 rw[d];unfold bv;delta zF;go_in
 go_wp2_with (go_at_call 183;refine(o _ zJ).mono ?_;rintro e q h;have n:=RE.first zJ h;obtain⟨_,_,r,_,_,rfl,_⟩:=h)
 go_ret;exact n
def apX(base:Nat)(w:World)(fb vb:Nat)(D:List NF)(ak c:Nat)(U:List NF)(Z:LN)(s:Nat)(h:ST base w fb vb D ak c U Z)(b:s<2 ^ 256)(f:s≠0->.set s∈U) :
 zF 172 #[zP fb,bv s] w (RQ base w fb vb D ak c U Z (Ke s)):=by
 obtain⟨E,B,hE,g,a,j,i⟩:=h;exact(apW base w fb vb E B D ak c U Z s hE g a j b f i).mono λe w' d=>d.rq
def anl(base:Nat)(w:World)(fb vb:Nat)(D:List NF)(ak c:Nat)(U:List NF)(Z:LN)(a:NF)(i:Nat)(h:ST base w fb vb D ak c U Z)(b:D[i]?=some a)(t:iH a∈U) :
 zF 185 #[zP fb,zI i] w (RQ base w fb vb D ak c U Z (iH a)):=by
 obtain⟨f,L,cap,K⟩:=h.look b;have A:=K.lt;have hlen:=h.len;have t0:=K.tab;have k0:=K.get.1;have H:=h.pP.1;have k:=h.pP.2.1;have d:=h.num b h.pP.1;have n1:=h.num b h.pP.2.1;have kd:=K.kd;rw[kd]at k0;clear kd K
 by_cases m:i=0
 .have:=d.1 m;subst this;subst m
  clear d n1;delta zF;go_in
  go_wp2;go_ret;exact RQ.here (r:=1) h zK k
 by_cases l:i=1
 .have:=n1.1 l;subst this;subst l
  clear d n1;delta zF;go_in
  go_wp2;go_ret;exact RQ.here (r:=1) h zK k
 have G:=abb m;have b1:=afs l;have q:a≠.zero:=λe=>m (d.2 e)
 have p:a≠.one:=λe=>l (n1.2 e)
 clear d n1;have o:∀w',aB [] w w'->(∀x,a≠.star x)->zF 183 #[zP fb,.agg #[zI 5,.int .u64 0,.int .u64 0,.int .u64 0,.int .u64 0,zI i,zI 0,zN,.bool true,zI 0,zI 0,zI 0]] w' (RQ base w' fb vb D ak c U Z (iH a)):=by
  intro w' F n;have j:iH a=.star a:=by cases a<;>first | rfl|exact absurd rfl q|exact absurd rfl p|exact absurd rfl (n _)
  have z:=h.pP.2.2.2.1 a (a0B b);rw[j]at t |-;have g:=WC.star z;rw[j]at g;have:=Lc base w' fb vb D ak c U Z ⟨5,0,i,0,zN,true,0,0,0⟩ [] (.star a) (h.aY F) (PL.nil _) (a2S 256) (.inr (.inr (.inr ⟨rfl,rfl,rfl,rfl,A,a,b,rfl⟩))) g t rfl rfl (aft Z);rw[afu 5 i 0 _ _ 5 i 0 rfl rfl rfl]at this;exact this
 have E:(i:Int)<D.length:=by omega
 cases a with
 | star x =>
   clear o;delta zF;go_in
   simp only[qW]at k0;go_wp2;go_ret;exact RQ.here (r:=i) h zK b
 | zero=>exact absurd rfl q
 | one=>exact absurd rfl p
 | _ =>
   have C:=(o w zK (by intro x e;simp at e));clear o;simp only[qW]at k0;delta zF;go_in
   go_wp2_with (go_at_call 183;refine C.mono ?_;rintro e v ⟨y,R,r,rfl,u,s,hq⟩;have B:=(show RQ base w fb vb D ak c U Z _ (zR (zI (r:Nat))) v from ⟨y,R,r,rfl,u,s,hq⟩);clear u s hq)
   go_ret;exact B
end
end Go.Proofs.YtedmellodofajaaGreatDoor
