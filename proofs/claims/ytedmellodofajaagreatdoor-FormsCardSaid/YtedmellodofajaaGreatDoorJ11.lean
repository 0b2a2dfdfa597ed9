import Derived.Test.YtedmellodofajaaGreatDoorJ10
import Derived.Test.YtedmellodofajaaGreatDoorJ7
import Derived.Test.YtedmellodofajaaGreatDoorJ4
import Derived.Deep.RegionLaw
import Derived.Deep.DeepCutAuto
import Derived.Test.YtedmellodofajaaGreatDoorJ1
set_option linter.unusedVariables false
set_option linter.unusedSimpArgs false
set_option linter.unnecessarySimpa false
set_option linter.defProp false
set_option maxRecDepth 100000
set_option maxHeartbeats 8000000
namespace Go.Proofs.YtedmellodofajaaGreatDoor
open Go.RowKit
section
variable {x y:Value} {w w':World} {b cap g n rb:Nat} {S:LN} {W xs:List LB}
def Lj(l:LB)(c:UInt8)(q:Bool)(w:World)(hl:l.length<=100000) :
 zF 38 #[zT l,.int .u8 c.toNat,.bool q] w λe w'=>∃v,e=zR v/\SL w.heap.size w' v (dU q c l)/\aB [] w w':=by
 have eG:=bL;have NU:=mf;have hx:=tF l;delta zF;go_in
 go_wp2;go_loopg [7,8,9,10] (l.length+1) (λk W Y vt X wr=>∃(j:Nat) (u:Bool) (t:LB) (out:List LB),j<=l.length/\l.length+1<=j+k/\X=zI j/\Y=.bool u/\vt=zT t/\t.length<=j/\out.length<=j/\SL w.heap.size wr W out/\jy q c k (l.drop j) u t out=dU q c l/\aB [] w wr)
 case atStart=>exact⟨0,false,[],[],by omega,by omega,rfl,rfl,rfl,by simp,by simp,SL.nil _ _,rfl,zK⟩
 case round =>
  obtain⟨j,u,t,out,mK,D,rfl,rfl,rfl,Bh,hol,f,M,o⟩:=hrel;obtain⟨a,cap,Z⟩:=f.shape;subst Z;have hz:=o.size;obtain⟨m,rfl⟩:∃m,gk=m+1:=⟨gk-1,by omega⟩
  by_cases V:j<l.length
  .have zt:(bs l)[j]'(by rw[eG];omega)=l[j]:=rfl
   have T:l.drop j=l[j]::l.drop (j+1):=a0k V;have C:List.drop j (List.take (j+1) l)=[l[j]]:=by rw[a0F V,a1N (by simp;omega),a0i (by simp;omega)];rfl
   have G:j+1<l.length->List.drop j (List.take (j+2) l)=[l[j]]++(l.drop (j+1)).take 1:=by
    intro h2;rw[List.drop_take,show j+2-j=2 by omega,T]
    rfl
   generalize l[j]=x at *;have i:=my x c;have y:((x.toNat:Int)==34)=(x==34):=my x 34;have H:((x.toNat:Int)==92)=(x==92):=my x 92;have p:dU q c l=(let s:=if q&&x==34 then !u else u
    if s&&x==92&&!((l.drop (j+1)).isEmpty) then jy q c m ((l.drop (j+1)).drop 1) s (t++([x]++(l.drop (j+1)).take 1)) out
    else if x==c&&!s then jy q c m (l.drop (j+1)) s [] (out++[t])
    else jy q c m (l.drop (j+1)) s (t++[x]) out):=by
    rw[<-M,T];rfl
   obtain⟨s,r⟩:∃s,s=(if q&&x==34 then !u else u):=⟨_,rfl⟩;rw[<-r]at p;clear M T;have R:(q=false/\u=false)\/(q=false/\u=true)\/(q=true/\(x==34)=false/\u=false)\/(q=true/\(x==34)=false/\u=true)\/(q=true/\(x==34)=true/\u=false)\/(q=true/\(x==34)=true/\u=true):=by cases q<;>cases u<;>cases (x==34)<;>simp
   rcases R with⟨hq,z⟩|⟨hq,z⟩|⟨hq,B,z⟩|⟨hq,B,z⟩|⟨hq,B,z⟩|⟨hq,B,z⟩
   ·
    subst hq z;have g:s=false:=by rw[r];simp
    cases b:(x==c)
    .rw[b]at i
     have d:jy false c m (l.drop (j+1)) false (t++[x]) out=dU false c l:=by rw[p,g];simp[b]
     have he:=C;go_wp2;go_roundg m
     case measure=>omega
     case rel=>exact⟨j+1,false,t++[x],out,by omega,by omega,by go_num,rfl,by simp,by simp;omega,by omega,f,d,o⟩
    rw[b]at i;have d:jy false c m (l.drop (j+1)) false [] (out++[t])=dU false c l:=by rw[p,g];simp[b]
    go_wp2_with (first | (at_builtin;refine rA _ rfl _ _ rfl w.heap.size (.slice a out.length cap) out t wr.heap.size rfl (f.aC zG (by simp)) rfl (by simp) (by omega) (by simp;omega) ?_;intro P S N E F O))
    go_roundg m
    case measure=>omega
    case rel=>exact⟨j+1,false,[],out++[t],by omega,by omega,by go_num,rfl,rfl,by simp,by simp;omega,by simpa using E,d,(o.alloc _).grown F (λk D=>Or.inr (f.lt k D).1)⟩
   ·
    subst hq z;have g:s=true:=by rw[r];simp
    cases n:(x==92)
    .rw[n]at H
     cases b:(x==c)
     rw[b]at i
     rotate_left
     rw[b]at i
     all_goals
      have d:jy false c m (l.drop (j+1)) true (t++[x]) out=dU false c l:=by rw[p,g];simp[n]
      have he:=C;go_wp2;go_roundg m
      case measure=>omega
      case rel=>exact⟨j+1,true,t++[x],out,by omega,by omega,by go_num,rfl,by simp,by simp;omega,by omega,f,d,o⟩
    rw[n]at H
    by_cases L:j+1<l.length
    .have J:decide ((j:Int)+1<(l.length:Int))=true:=a0g (by omega)
     have A:(l.drop (j+1)).isEmpty=false:=by rw[a3s];intro h;have:=congrArg List.length h;simp at this;omega
     have d:jy false c m (l.drop (j+2)) true (t++([x]++(l.drop (j+1)).take 1)) out=dU false c l:=by rw[p,g];simp[n,A]
     have he:=G L;have U:((l.drop (j+1)).take 1).length=1:=by simp;omega
     generalize (l.drop (j+1)).take 1=I at *;go_wp2;go_roundg m
     case measure=>omega
     case rel=>exact⟨j+2,true,t++([x]++I),out,by omega,by omega,by go_num,rfl,by simp,by simp;omega,by omega,f,d,o⟩
    have J:decide ((j:Int)+1<(l.length:Int))=false:=a0f (by omega);have A:(l.drop (j+1)).isEmpty=true:=by rw[List.isEmpty_iff];exact a0i (by omega)
    cases b:(x==c)
    rw[b]at i
    rotate_left
    rw[b]at i
    all_goals
     have d:jy false c m (l.drop (j+1)) true (t++[x]) out=dU false c l:=by rw[p,g];simp[n,A]
     have he:=C;go_wp2;go_roundg m
     case measure=>omega
     case rel=>exact⟨j+1,true,t++[x],out,by omega,by omega,by go_num,rfl,by simp,by simp;omega,by omega,f,d,o⟩
   ·
    subst hq z;rw[B]at y;have g:s=false:=by rw[r];simp[B]
    cases b:(x==c)
    .rw[b]at i
     have d:jy true c m (l.drop (j+1)) false (t++[x]) out=dU true c l:=by rw[p,g];simp[b]
     have he:=C;go_wp2;go_roundg m
     case measure=>omega
     case rel=>exact⟨j+1,false,t++[x],out,by omega,by omega,by go_num,rfl,by simp,by simp;omega,by omega,f,d,o⟩
    rw[b]at i;have d:jy true c m (l.drop (j+1)) false [] (out++[t])=dU true c l:=by rw[p,g];simp[b]
    go_wp2_with (first | (at_builtin;refine rA _ rfl _ _ rfl w.heap.size (.slice a out.length cap) out t wr.heap.size rfl (f.aC zG (by simp)) rfl (by simp) (by omega) (by simp;omega) ?_;intro P S N E F O))
    go_roundg m
    case measure=>omega
    case rel=>exact⟨j+1,false,[],out++[t],by omega,by omega,by go_num,rfl,rfl,by simp,by simp;omega,by simpa using E,d,(o.alloc _).grown F (λk D=>Or.inr (f.lt k D).1)⟩
   ·
    subst hq z;rw[B]at y;have g:s=true:=by rw[r];simp[B]
    cases n:(x==92)
    .rw[n]at H
     cases b:(x==c)
     rw[b]at i
     rotate_left
     rw[b]at i
     all_goals
      have d:jy true c m (l.drop (j+1)) true (t++[x]) out=dU true c l:=by rw[p,g];simp[n]
      have he:=C;go_wp2;go_roundg m
      case measure=>omega
      case rel=>exact⟨j+1,true,t++[x],out,by omega,by omega,by go_num,rfl,by simp,by simp;omega,by omega,f,d,o⟩
    rw[n]at H
    by_cases L:j+1<l.length
    .have J:decide ((j:Int)+1<(l.length:Int))=true:=a0g (by omega)
     have A:(l.drop (j+1)).isEmpty=false:=by rw[a3s];intro h;have:=congrArg List.length h;simp at this;omega
     have d:jy true c m (l.drop (j+2)) true (t++([x]++(l.drop (j+1)).take 1)) out=dU true c l:=by rw[p,g];simp[n,A]
     have he:=G L;have U:((l.drop (j+1)).take 1).length=1:=by simp;omega
     generalize (l.drop (j+1)).take 1=I at *;go_wp2;go_roundg m
     case measure=>omega
     case rel=>exact⟨j+2,true,t++([x]++I),out,by omega,by omega,by go_num,rfl,by simp,by simp;omega,by omega,f,d,o⟩
    have J:decide ((j:Int)+1<(l.length:Int))=false:=a0f (by omega);have A:(l.drop (j+1)).isEmpty=true:=by rw[List.isEmpty_iff];exact a0i (by omega)
    cases b:(x==c)
    rw[b]at i
    rotate_left
    rw[b]at i
    all_goals
     have d:jy true c m (l.drop (j+1)) true (t++[x]) out=dU true c l:=by rw[p,g];simp[n,A]
     have he:=C;go_wp2;go_roundg m
     case measure=>omega
     case rel=>exact⟨j+1,true,t++[x],out,by omega,by omega,by go_num,rfl,by simp,by simp;omega,by omega,f,d,o⟩
   ·
    subst hq z;rw[B]at y;have g:s=true:=by rw[r];simp[B]
    cases n:(x==92)
    .rw[n]at H
     cases b:(x==c)
     rw[b]at i
     rotate_left
     rw[b]at i
     all_goals
      have d:jy true c m (l.drop (j+1)) true (t++[x]) out=dU true c l:=by rw[p,g];simp[n]
      have he:=C;go_wp2;go_roundg m
      case measure=>omega
      case rel=>exact⟨j+1,true,t++[x],out,by omega,by omega,by go_num,rfl,by simp,by simp;omega,by omega,f,d,o⟩
    rw[n]at H
    by_cases L:j+1<l.length
    .have J:decide ((j:Int)+1<(l.length:Int))=true:=a0g (by omega)
     have A:(l.drop (j+1)).isEmpty=false:=by rw[a3s];intro h;have:=congrArg List.length h;simp at this;omega
     have d:jy true c m (l.drop (j+2)) true (t++([x]++(l.drop (j+1)).take 1)) out=dU true c l:=by rw[p,g];simp[n,A]
     have he:=G L;have U:((l.drop (j+1)).take 1).length=1:=by simp;omega
     generalize (l.drop (j+1)).take 1=I at *;go_wp2;go_roundg m
     case measure=>omega
     case rel=>exact⟨j+2,true,t++([x]++I),out,by omega,by omega,by go_num,rfl,by simp,by simp;omega,by omega,f,d,o⟩
    have J:decide ((j:Int)+1<(l.length:Int))=false:=a0f (by omega);have A:(l.drop (j+1)).isEmpty=true:=by rw[List.isEmpty_iff];exact a0i (by omega)
    cases b:(x==c)
    rw[b]at i
    rotate_left
    rw[b]at i
    all_goals
     have d:jy true c m (l.drop (j+1)) true (t++[x]) out=dU true c l:=by rw[p,g];simp[n,A]
     have he:=C;go_wp2;go_roundg m
     case measure=>omega
     case rel=>exact⟨j+1,true,t++[x],out,by omega,by omega,by go_num,rfl,by simp,by simp;omega,by omega,f,d,o⟩
   -- q true x34 true in true
   subst hq z;rw[B]at y;have g:s=false:=by rw[r];simp[B]
   cases b:(x==c)
   .rw[b]at i
    have d:jy true c m (l.drop (j+1)) false (t++[x]) out=dU true c l:=by rw[p,g];simp[b]
    have he:=C;go_wp2;go_roundg m
    case measure=>omega
    case rel=>exact⟨j+1,false,t++[x],out,by omega,by omega,by go_num,rfl,by simp,by simp;omega,by omega,f,d,o⟩
   rw[b]at i;have d:jy true c m (l.drop (j+1)) false [] (out++[t])=dU true c l:=by rw[p,g];simp[b]
   go_wp2_with (first | (at_builtin;refine rA _ rfl _ _ rfl w.heap.size (.slice a out.length cap) out t wr.heap.size rfl (f.aC zG (by simp)) rfl (by simp) (by omega) (by simp;omega) ?_;intro P S N E F O))
   go_roundg m
   case measure=>omega
   case rel=>exact⟨j+1,false,[],out++[t],by omega,by omega,by go_num,rfl,rfl,by simp,by simp;omega,by simpa using E,d,(o.alloc _).grown F (λk D=>Or.inr (f.lt k D).1)⟩
  have Hx:dU q c l=out++[t]:=by rw[<-M,a0i (by omega)];rfl
  clear M;go_wp2_with (first | (at_builtin;refine rA _ rfl _ _ rfl w.heap.size (.slice a out.length cap) out t wr.heap.size rfl (f.aC zG (by simp)) rfl (by simp) (by omega) (by simp;omega) ?_;intro P S N E F O))
  go_ret;rw[Hx];exact⟨_,rfl,E,(o.alloc _).grown F (λk D=>Or.inr (f.lt k D).1)⟩
def dR:Nat->LB->LB->Option LB
 | 0,_,_=>none
 | _+1,[],v=>some v
 | k+1,c::r,v =>
   if c==34||!(mR c.toNat) then none
   else if c==92 then
    (match r with
     | []=>none
     | d::a =>
       if d==120 then
        (match a with
         | h::o::b=>if decide (lL h<0)||decide (lL o<0) then none else dR k b (v++[UInt8.ofNat (16*lL h+lL o).toNat])
         | _=>none)
       else if !(d==34)&&!(d==92) then none else dR k a (v++[d]))
   else dR k r (v++[c])
def gV(l:LB):LB × Bool :=
 if decide (l.length<2)||!(hd l==34)||!(l.getLast?==some 34) then ([],false)
 else match dR l.length ((l.take (l.length-1)).drop 1) [] with
  | none=>([],false)
  | some v=>(v,decide (v.length<=40))
def auX {x y:LB} {p q:Bool}(h:x=y)(a:p=q):Ending.returned (.tuple #[zT x,.bool p])=zQ #[zT y,.bool q]:=by rw[h,a]
def vI(l:LB)(w:World)(hl:l.length<=100000) :
 zF 122 #[zT l] w λe w'=>e=zQ #[.string (bs (gV l).1),.bool (gV l).2]/\aB [] w w':=by
 have eG:=bL;have NU:=mf
 by_cases h2:l.length<2
 .have f:Z_ (gV l=([],false)):=by show _=_;unfold gV;simp[h2]
  have ll:decide ((l.length:Int)<2)=true:=a0g (by omega);delta zF;go_in
  go_wp2;go_ret2;rw[f.o];exact⟨rfl,aB.refl _ _⟩
 have ll:decide ((l.length:Int)<2)=false:=a0f (by omega);have kM:(bs l)[0]'(by rw[eG];omega)=l[0]:=rfl;have O:(bs l)[l.length-1]'(by rw[eG];omega)=l[l.length-1]:=rfl;have Hh:Z_ (hd l=(l[0].toNat:Int)):=EP l 0 (by omega);have W:Z_ (l.getLast?=some l[l.length-1]):=by
  show _=_;rw[List.getLast?_eq_getElem?,a0a]
 have A:Z_ (∀j (h:j<l.length),(bs l)[j]'(by rw[eG];exact h)=l[j]):=λj h=>rfl
 generalize Vz:l[0]=c0 at kM Hh;generalize KH:l[l.length-1]=cn at O W;clear Vz KH;have P:((c0.toNat:Int)==34)=(c0==34):=my c0 34;have en:((cn.toNat:Int)==34)=(cn==34):=my cn 34;have axS:((l.length:Int)-1)=((l.length-1:Nat):Int):=by omega
 have Hu:Z_ (gV l=if !(c0==34)||!(cn==34) then ([],false) else match dR l.length ((l.take (l.length-1)).drop 1) [] with
  | none=>([],false)
  | some v=>(v,decide (v.length<=40))):=by
  show _=_;unfold gV;rw[Hh.o,P,W.o];have:(some cn==some (34:UInt8))=(cn==34):=rfl;rw[this,a0f (by omega)];simp only[a3l];all_goals rfl
 cases Z:(c0==34)
 .rw[Z]at P
  have e0':((c0.toNat:Int) != 34)=true:=by unfold bne;rw[P];rfl
  have f:Z_ (gV l=([],false)):=by show _=_;rw[Hu.o,Z];rfl
  delta zF;go_in
  go_wp2;go_ret2;rw[f.o];exact⟨rfl,aB.refl _ _⟩
 rw[Z]at P;have e0':((c0.toNat:Int) != 34)=false:=by unfold bne;rw[P];rfl
 cases Y:(cn==34)
 .rw[Y]at en
  have en':((cn.toNat:Int) != 34)=true:=by unfold bne;rw[en];rfl
  have f:Z_ (gV l=([],false)):=by show _=_;rw[Hu.o,Y];simp
  delta zF;go_in
  go_wp2;go_ret2;rw[f.o];exact⟨rfl,aB.refl _ _⟩
 rw[Y]at en;have en':((cn.toNat:Int) != 34)=false:=by unfold bne;rw[en];rfl
 have V:Z_ (gV l=match dR l.length ((l.take (l.length-1)).drop 1) [] with
  | none=>([],false)
  | some v=>(v,decide (v.length<=40))):=by show _=_;rw[Hu.o,Z,Y];rfl
 have D:Z_ (dR l.length ((l.take (l.length-1)).drop 1) []=none->gV l=([],false)):=λh=>by rw[V.o,h]
 clear Hu;delta zF;go_in
 go_wp2;go_loopg [5,6] l.length (λk vv vi wr=>∃(j:Nat) (v:LB),1<=j/\j+1<=l.length/\l.length<=j+k/\vi=zI j/\vv=zT v/\v.length<=j/\dR k ((l.take (l.length-1)).drop j) v=dR l.length ((l.take (l.length-1)).drop 1) []/\aB [] w wr)
 case atStart=>exact⟨1,[],by omega,by omega,by omega,rfl,rfl,by simp,rfl,aB.refl _ _⟩
 case round =>
  obtain⟨j,v,hj1,mK,hk,rfl,rfl,Af,iD,bH⟩:=hrel;have u:=aj iD;have p:=aj bH;clear iD bH kM O;obtain⟨m,rfl⟩:∃m,gk=m+1:=⟨gk-1,by omega⟩;have S:∀i (h:i<l.length-1),(l.take (l.length-1)).drop i=l[i]::(l.take (l.length-1)).drop (i+1):=by
   intro i h;rw[a0k (by simp;omega)];simp
  have DC:=aj S;clear S
  by_cases aL:j<l.length-1
  .have zt:=A.o j (by omega)
   have y:=aj (DC.o j aL);generalize l[j]=c at *;have hu:=u8i c;have B:((c.toNat:Int)==34)=(c==34):=my c 34;have Jm:((c.toNat:Int)==92)=(c==92):=my c 92;have s:=Jz wr c;cases q:(c==34)
   case true =>
    rw[q]at B;have f:Z_ (gV l=([],false)):=D.o (by rw[<-u.o,y.o];unfold dR;rw[q];rfl);go_wp2;go_ret2;rw[f.o];exact⟨rfl,p⟩
   case false =>
   rw[q]at B
   by_cases jU:(c.toNat:Int)<32
   .have g:mR c.toNat=false:=by unfold mR;simp;omega
    have f:Z_ (gV l=([],false)):=D.o (by rw[<-u.o,y.o];unfold dR;rw[q,g];rfl);go_wp2;go_ret2;rw[f.o];exact⟨rfl,p⟩
   by_cases yn:126<(c.toNat:Int)
   .have g:mR c.toNat=false:=by unfold mR;simp;omega
    have f:Z_ (gV l=([],false)):=D.o (by rw[<-u.o,y.o];unfold dR;rw[q,g];rfl);go_wp2;go_ret2;rw[f.o];exact⟨rfl,p⟩
   have g:mR c.toNat=true:=by unfold mR;simp;omega
   cases z:(c==92)
   case false =>
    rw[z]at Jm;have E:Z_ (dR m ((l.take (l.length-1)).drop (j+1)) (v++[c])=dR l.length ((l.take (l.length-1)).drop 1) []):=by
     show _=_;rw[<-u.o,y.o];conv=>rhs;unfold dR
     rw[q,g,z];rfl
    clear g;go_wp2;go_roundg m
    case measure=>omega
    case rel=>exact⟨j+1,v++[c],by omega,by omega,by omega,by go_num,rfl,by simp;omega,E,p.o.alloc _⟩
   case true =>
   rw[z]at Jm;clear s
   by_cases zX:j+1<l.length-1
   case neg =>
    have U:(l.take (l.length-1)).drop (j+1)=[]:=a0i (by simp;omega);have G:=aj U;have hge:(l.length:Int)-1<=(j:Int)+1:=by omega
    have Hp:=aj g;clear U g;have f:Z_ (gV l=([],false)):=D.o (by rw[<-u.o,y.o];unfold dR;rw[q,Hp.o,z,G.o];rfl);go_wp2;go_ret2;rw[f.o];exact⟨rfl,p⟩
   case pos =>
   have ayu:=A.o (j+1) (by omega);have x:=aj (DC.o (j+1) zX);generalize l[j+1]=d at *;have hud:=u8i d;have R:((d.toNat:Int)==120)=(d==120):=my d 120;have n:((d.toNat:Int)==34)=(d==34):=my d 34;have t:((d.toNat:Int)==92)=(d==92):=my d 92;cases C:(d==120)
   case false =>
    rw[C]at R;cases T:(d==34)
    .rw[T]at n
     have auY:((d.toNat:Int) != 34)=true:=by unfold bne;rw[n];rfl
     cases X:(d==92)
     .rw[X]at t
      have auZ:((d.toNat:Int) != 92)=true:=by unfold bne;rw[t];rfl
      have Hp:=aj g;clear g;have f:Z_ (gV l=([],false)):=D.o (by rw[<-u.o,y.o];unfold dR;rw[q,Hp.o,z,x.o];simp[C,T,X]);go_wp2;go_ret2;rw[f.o];exact⟨rfl,p⟩
     rw[X]at t;have auZ:((d.toNat:Int) != 92)=false:=by unfold bne;rw[t];rfl
     have s:=Jz wr d;have E:Z_ (dR m ((l.take (l.length-1)).drop (j+2)) (v++[d])=dR l.length ((l.take (l.length-1)).drop 1) []):=by
      show _=_;rw[<-u.o,y.o,x.o];conv=>rhs;unfold dR
      rw[q,g,z];simp[C,T,X]
     clear g;go_wp2;go_roundg m
     case measure=>omega
     case rel=>exact⟨j+2,v++[d],by omega,by omega,by omega,by go_num,rfl,by simp;omega,E,p.o.alloc _⟩
    rw[T]at n;have auY:((d.toNat:Int) != 34)=false:=by unfold bne;rw[n];rfl
    have s:=Jz wr d;have E:Z_ (dR m ((l.take (l.length-1)).drop (j+2)) (v++[d])=dR l.length ((l.take (l.length-1)).drop 1) []):=by
     show _=_;rw[<-u.o,y.o,x.o];conv=>rhs;unfold dR
     rw[q,g,z];simp[C,T]
    clear g;go_wp2;go_roundg m
    case measure=>omega
    case rel=>exact⟨j+2,v++[d],by omega,by omega,by omega,by go_num,rfl,by simp;omega,E,p.o.alloc _⟩
   case true =>
   rw[C]at R;clear n t
   by_cases Ze:j+4<=l.length-1
   case neg =>
    have U:dR (m+1) (c::d::(l.take (l.length-1)).drop (j+1+1)) v=none:=by
     unfold dR;rw[q,g,z];have hlen:((l.take (l.length-1)).drop (j+1+1)).length<=1:=by simp;omega
     match hm:(l.take (l.length-1)).drop (j+1+1) with
     | []=>simp[C]
     | [a]=>simp[C]
     | a::b::r=>rw[hm]at hlen;simp at hlen
    have dZ:(l.length:Int)-1<(j:Int)+1+1+2:=by omega
    have G:=aj U;clear g U;have f:Z_ (gV l=([],false)):=D.o (by rw[<-u.o,y.o];rw[x.o];exact G);go_wp2;go_ret2;rw[f.o];exact⟨rfl,p⟩
   case pos =>
   have aos:=A.o (j+1+1) (by omega);have ayv:=A.o (j+1+1+1) (by omega);have Am:=aj (DC.o (j+1+1) (by omega));have Hd3:=aj (DC.o (j+1+1+1) (by omega));generalize l[j+1+1]=L at *;generalize l[j+1+1+1]=J at *;have hle:¬ ((l.length:Int)-1<(j:Int)+1+1+2):=by omega
   have b1:=ag3 L;have b2:=ag3 J;obtain⟨b11,b12⟩:=b1;obtain⟨b21,b22⟩:=b2;have F:Z_ (dR l.length ((l.take (l.length-1)).drop 1) []=if decide (lL L<0)||decide (lL J<0) then none else dR m ((l.take (l.length-1)).drop (j+4)) (v++[UInt8.ofNat (16*lL L+lL J).toNat])):=by
    show _=_;rw[<-u.o,y.o,x.o,Am.o,Hd3.o];conv=>lhs;unfold dR
    rw[q,g,z];simp[C]
   clear g;go_wp2_with fail
   refine(aaw L _).mono ?_;rintro e w' ⟨rfl,rfl⟩;go_wp2_with fail
   refine(aaw J _).mono ?_;rintro e w' ⟨rfl,rfl⟩;generalize lL L=I at *;generalize lL J=H at *
   by_cases N:I<0
   .have f:Z_ (gV l=([],false)):=D.o (by rw[F.o];simp[N])
    go_wp2;go_ret2;rw[f.o];exact⟨rfl,p⟩
   by_cases M:H<0
   .have f:Z_ (gV l=([],false)):=D.o (by rw[F.o];simp[M])
    go_wp2;go_ret2;rw[f.o];exact⟨rfl,p⟩
   have E:Z_ (dR m ((l.take (l.length-1)).drop (j+4)) (v++[UInt8.ofNat (16*I+H).toNat])=dR l.length ((l.take (l.length-1)).drop 1) []):=by
    show _=_;rw[F.o];simp[N,M]
   have xL:((UInt8.ofNat (16*I+H).toNat).toNat:Int)=16*I+H:=by
    rw[UInt8.toNat_ofNat'];omega
   have s:=Jz wr (UInt8.ofNat (16*I+H).toNat);rw[xL]at s;clear xL;generalize UInt8.ofNat (16*I+H).toNat=Ci at *;go_wp2;go_roundg m
   case measure=>omega
   case rel=>exact⟨j+4,v++[Ci],by omega,by omega,by omega,by go_num,rfl,by simp;omega,E,p.o.alloc _⟩
  have qI:j=l.length-1:=by omega
  have f:Z_ (gV l=(v,decide (v.length<=40))):=by
   show _=_;rw[V.o,<-u.o,a0i (by simp;omega)];rfl
  have qd:decide ((v.length:Int)<=40)=decide (v.length<=40):=by
   rw[a0T,a1E,a1E];omega
  have Hdd:=aj qd;clear qd qI;go_wp2;go_ret2;rw[f.o];exact⟨auX rfl Hdd,p⟩
abbrev RM:=LB × LB × LB
def qy(c:UInt8):Bool:=!(c==61)&&!(c==33)
def ui(r:LB):Bool:=decide (1<r.length)&&((r.take 2 == [61,126])||(r.take 2 == [33,126])||(r.take 2 == [33,61]))
def CJ(r:LB):Bool:=decide (0<r.length)&&(hd r==61)
def rV(l:LB):RM × Bool :=
 let n:=l.takeWhile qy
 let r:=l.dropWhile qy
 if ui r then ((n,r.take 2,(gV (r.drop 2)).1),(gV (r.drop 2)).2&&aJ n)
 else if CJ r then ((n,r.take 1,(gV (r.drop 1)).1),(gV (r.drop 1)).2&&aJ n)
 else ((n,[],[]),false)
structure CO(w:World)(b:Nat)(m:RM):Prop where
 h:w.heap[b]?=some (.cells #[zT m.1,zT m.2.1,zT m.2.2,.pointer none] 130 (0,0))
theorem CO.lt {m:RM}(h:CO w b m):b<w.heap.size:=(a0c.1 h.h).1
theorem CO.cell {m:RM}(h:CO w b m)(o:Nat):w.cell? (zB b o)=(#[zT m.1,zT m.2.1,zT m.2.2,.pointer none]:Array Value)[o]?:=by simp[World.cell?,h.h]
theorem CO.fz {m:RM}(h:CO w b m)(o:Nat):w.frozen? (zB b o)=false:=by simp[World.frozen?,h.h]
theorem CO.aC {m:RM}(h:CO w b m)(f:aB S w w')(a:b∉S):CO w' b m:=⟨(f.block b h.lt a).trans h.h⟩
theorem CO.set {m:RM}(h:CO w b m)(o:Nat)(v:Value)(a:RM)(e:(#[zT a.1,zT a.2.1,zT a.2.2,.pointer none]:Array Value)=(#[zT m.1,zT m.2.1,zT m.2.2,.pointer none]:Array Value).setIfInBounds o v):CO (w.setCell (zB b o) v) b a:=by refine⟨?_⟩;rw[e];simp[World.setCell,a0v,h.h]
def CO.Lm {m:RM}(h:CO w b m)(a:RM):CO ((((w.setCell (zA b) (zT a.1)).setCell (zB b 1) (zT a.2.1)).setCell (zB b 2) (zT a.2.2)).setCell (zB b 3) (.pointer none)) b a :=
 (((h.set 0 _ (a.1,m.2.1,m.2.2) rfl).set 1 _ (a.1,a.2.1,m.2.2) rfl).set 2 _ (a.1,a.2.1,a.2.2) rfl).set 3 _ a rfl
def aB.Lm{a:World}(h:aB S a w)(hb:rb∈S\/a.heap.size<=rb)(e d c b:Value):aB S a ((((w.setCell (zA rb) e).setCell (zB rb 1) d).setCell (zB rb 2) c).setCell (zB rb 3) b) :=
 (((h.setCell hb _).setCell hb _).setCell hb _).setCell hb _
def ifV(m:RM):Value:=.agg #[zT m.1,zT m.2.1,zT m.2.2,.pointer none]
theorem aqg {m:RM}(h:CO w b m):(loadVar 130 (zA b)).run Tryz.prog w=.ok (ifV m) w:=by have e:zC w b 0 (zT m.1):=h.cell 0;have d:zC w b 1 (zT m.2.1):=h.cell 1;have c:zC w b 2 (zT m.2.2):=h.cell 2;have a:zC w b 3 (.pointer none):=h.cell 3;simp[go_sem,ifV,e,d,c,a]
def jO {m:RM} {ok:Bool} {tmps:Array Value}(h:CO w rb m)(b:tmps.getD 2 undef=zP rb)(a:tmps.getD 3 undef=.bool ok) :
 (results Tryz.f98 tmps).run Tryz.prog w=.ok (.tuple #[ifV m,.bool ok]) w:=by
 rw[results_cell_tmp Tryz.results98,b,a];simp[asAddr,aqg h]
def adP {l:LB} {c:UInt8} {r:LB}(h:l=c::r):hd l=(c.toNat:Int):=by subst h;rfl
def afC(l:LB)(w:World)(hl:l.length<=100000) :
 zF 98 #[zT l] w λe w'=>e=zQ #[ifV (rV l).1,.bool (rV l).2]/\aB [] w w':=by
 have eG:=bL;have hx:=tF;have Bh:=aT;have kA:({ data:=#[61,126] }:ByteArray).toList=[61,126]:=aT _;have kB:({ data:=#[33,126] }:ByteArray).toList=[33,126]:=aT _;have kC:({ data:=#[33,61] }:ByteArray).toList=[33,61]:=aT _;have kM:CO (w.alloc (Obj.cells #[.string (bs []),.string (bs []),.string (bs []),.pointer none] 130)) w.heap.size ([],[],[]):=⟨bD _ _⟩;have uh:=aj kM;clear kM;delta zF;go_in
 go_wp2;go_loopg [4] l.length (λk vi wr=>∃(j:Nat),j+k=l.length/\vi=zI j/\(l.take j).all qy=true/\wr=w.alloc (Obj.cells #[.string (bs []),.string (bs []),.string (bs []),.pointer none] 130))
 case atStart=>exact⟨0,by omega,rfl,by simp,rfl⟩
 case round =>
  obtain⟨j,hj,rfl,ja,hw⟩:=hrel;subst hw;have oL:=aj ja;clear ja
  by_cases aL:j<l.length
  ·have zt:(bs l)[j]'(by rw[eG];omega)=l[j]:=rfl
   have Hd:Z_ (l.drop j=l[j]::l.drop (j+1)):=a0k aL;have Ht:Z_ (l.take (j+1)=l.take j++[l[j]]):=a0F aL;generalize l[j]=c at *;have h61:((c.toNat:Int)==61)=(c==61):=my c 61;have h33:((c.toNat:Int)==33)=(c==33):=my c 33;have ahO:Z_ (qy c=false->l.takeWhile qy=l.take j/\l.dropWhile qy=l.drop j):=by
    intro bJ;have:=MP (l.take j) (l.drop j) oL.o (λc' r' e=>by rw[Hd.o]at e;simp at e;rw[<-e.1];exact bJ)
    rwa [a1C]at this
   cases e61:(c==61)
   rotate_left
   rw[e61]at h61;have n61:((c.toNat:Int) != 61)=false:=by unfold bne;rw[h61];rfl
   have U0:=ahO.o (by unfold qy;rw[e61];rfl);have AZ:=aj U0;clear U0 ahO oL;have PH:(bs (l.drop j))[0]'(by rw[eG];simp;omega)=c:=by
    have:∀(L:LB) (r:LB) (h:0<(bs L).size),L=c::r->(bs L)[0]'h=c:=by
     intro L r h e;subst e;rfl
    exact this _ _ _ Hd
   have tk:∀y z:UInt8,(c==y)=false->((l.drop j).take 2 == [y,z])=false:=by
    intro y z h;rw[Hd.o,a0j];intro e;simp at e;rw[e.1]at h;simp at h
   have qB:=tk 33 126 (by have:c=61:=by simpa using e61
                          subst this;rfl)
   have qC:=tk 33 61 (by have:c=61:=by simpa using e61
                         subst this;rfl)
   clear tk;have Hh:Z_ (hd (l.drop j)=(c.toNat:Int)):=adP Hd;have htk:List.take (l.length-j) (List.drop j l)=List.drop j l:=a0C (by simp)
   by_cases KH:1<l.length-j
   have gJ:decide ((1:Int)<((l.length-j:Nat):Int))=true:=a0g (by omega);have Ih:decide (1<(l.drop j).length)=true:=by simp;omega
   cases qA:((l.drop j).take 2 == [61,126])
   have ER:decide ((0:Int)<((l.length-j:Nat):Int))=true:=a0g (by omega);have Hm:Z_ (rV l=((l.take j,(l.drop j).take 1,(gV (l.drop (j+1))).1),(gV (l.drop (j+1))).2&&aJ (l.take j))):=by
    show _=_;unfold rV;rw[AZ.o.1,AZ.o.2];dsimp only;have s2:ui (l.drop j)=false:=by unfold ui;rw[Ih,qA,qB,qC];rfl
    have s1:CJ (l.drop j)=true:=by unfold CJ;rw[Hh.o,h61];simp;omega
    rw[s2,s1];simp only[a0A,a0I,a0G];rw[a2Z]
   have Qd:(l.drop (j+1)).length<=100000:=by simp;omega
   focus
    go_wp2_with fail
    generalize (l.drop j).take 1=sg at *;generalize l.drop (j+1)=rs at *
   rotate_left
   have Hm:Z_ (rV l=((l.take j,(l.drop j).take 2,(gV (l.drop (j+2))).1),(gV (l.drop (j+2))).2&&aJ (l.take j))):=by
    show _=_;unfold rV;rw[AZ.o.1,AZ.o.2];dsimp only;have s2:ui (l.drop j)=true:=by unfold ui;rw[Ih,qA];rfl
    rw[s2];simp only[a0G];rw[a2Z]
   have Qd:(l.drop (j+2)).length<=100000:=by simp;omega
   focus
    go_wp2_with fail
    generalize (l.drop j).take 2=sg at *;generalize l.drop (j+2)=rs at *
   rotate_left
   have gJ:decide ((1:Int)<((l.length-j:Nat):Int))=false:=a0f (by omega);have ER:decide ((0:Int)<((l.length-j:Nat):Int))=true:=a0g (by omega);have Ih:decide (1<(l.drop j).length)=false:=by simp;omega
   have Hm:Z_ (rV l=((l.take j,(l.drop j).take 1,(gV (l.drop (j+1))).1),(gV (l.drop (j+1))).2&&aJ (l.take j))):=by
    show _=_;unfold rV;rw[AZ.o.1,AZ.o.2];dsimp only;have s2:ui (l.drop j)=false:=by unfold ui;rw[Ih];rfl
    have s1:CJ (l.drop j)=true:=by unfold CJ;rw[Hh.o,h61];simp;omega
    rw[s2,s1];simp only[a0A,a0I,a0G];rw[a2Z]
   have Qd:(l.drop (j+1)).length<=100000:=by simp;omega
   focus
    go_wp2_with fail
    generalize (l.drop j).take 1=sg at *;generalize l.drop (j+1)=rs at *
   rotate_left
   rw[e61]at h61;have n61:((c.toNat:Int) != 61)=true:=by unfold bne;rw[h61];rfl
   cases e33:(c==33)
   ·rw[e33]at h33
    have n33:((c.toNat:Int) != 33)=true:=by unfold bne;rw[h33];rfl
    have zu:Z_ ((l.take (j+1)).all qy=true):=by
     show _=_;rw[Ht.o,a2c,oL.o];simp[qy,e61,e33]
    clear ahO;go_wp2;go_roundg (gk-1)
    case measure=>omega
    case rel=>exact⟨j+1,by omega,by go_num,zu,rfl⟩
   rw[e33]at h33;have n33:((c.toNat:Int) != 33)=false:=by unfold bne;rw[h33];rfl
   have U0:=ahO.o (by unfold qy;rw[e33];simp);have AZ:=aj U0;clear U0 ahO oL;have PH:(bs (l.drop j))[0]'(by rw[eG];simp;omega)=c:=by
    have:∀(L:LB) (r:LB) (h:0<(bs L).size),L=c::r->(bs L)[0]'h=c:=by
     intro L r h e;subst e;rfl
    exact this _ _ _ Hd
   have qA:((l.drop j).take 2 == [61,126])=false:=by
    rw[Hd.o,a0j];intro e;simp at e;rw[e.1]at e61;simp at e61
   have Hh:Z_ (hd (l.drop j)=(c.toNat:Int)):=adP Hd;have htk:List.take (l.length-j) (List.drop j l)=List.drop j l:=a0C (by simp);have ER:decide ((0:Int)<((l.length-j:Nat):Int))=true:=a0g (by omega)
   by_cases KH:1<l.length-j
   have gJ:decide ((1:Int)<((l.length-j:Nat):Int))=true:=a0g (by omega);have Ih:decide (1<(l.drop j).length)=true:=by simp;omega
   cases qB:((l.drop j).take 2 == [33,126])
   cases qC:((l.drop j).take 2 == [33,61])
   ·have s2:Z_ (ui (l.drop j)=false):=by show _=_;unfold ui;rw[Ih,qA,qB,qC];rfl
    have s1:Z_ (CJ (l.drop j)=false):=by show _=_;unfold CJ;rw[Hh.o,h61];simp
    have Hm:Z_ (rV l=((l.take j,[],[]),false)):=by
     show _=_;unfold rV;rw[AZ.o.1,AZ.o.2];dsimp only;rw[s2.o,s1.o];simp only[a0A,a0I]
    go_wp2;refine bodyPost_ret (jO (m:=(l.take j,[],[])) (ok:=false) (rb:=w.heap.size) ?_ (by rfl) (by rfl)) rfl ?_
    ·exact⟨by rw[Below.heap_alloc _ _ _ (by simp)];exact bD _ _⟩
    rw[Hm.o];exact⟨rfl,((aB.refl [] w).alloc _).alloc _⟩
   have s2:Z_ (ui (l.drop j)=true):=by show _=_;unfold ui;rw[Ih,qC];simp
   have Hm:Z_ (rV l=((l.take j,(l.drop j).take 2,(gV (l.drop (j+2))).1),(gV (l.drop (j+2))).2&&aJ (l.take j))):=by
    show _=_;unfold rV;rw[AZ.o.1,AZ.o.2];dsimp only;rw[s2.o];simp only[a0G];rw[a2Z]
   have Qd:(l.drop (j+2)).length<=100000:=by simp;omega
   focus
    go_wp2_with fail
    generalize (l.drop j).take 2=sg at *;generalize l.drop (j+2)=rs at *
   rotate_left
   have s2:Z_ (ui (l.drop j)=true):=by show _=_;unfold ui;rw[Ih,qB];simp
   have Hm:Z_ (rV l=((l.take j,(l.drop j).take 2,(gV (l.drop (j+2))).1),(gV (l.drop (j+2))).2&&aJ (l.take j))):=by
    show _=_;unfold rV;rw[AZ.o.1,AZ.o.2];dsimp only;rw[s2.o];simp only[a0G];rw[a2Z]
   have Qd:(l.drop (j+2)).length<=100000:=by simp;omega
   focus
    go_wp2_with fail
    generalize (l.drop j).take 2=sg at *;generalize l.drop (j+2)=rs at *
   rotate_left
   ·have gJ:decide ((1:Int)<((l.length-j:Nat):Int))=false:=a0f (by omega)
    have Ih:decide (1<(l.drop j).length)=false:=by simp;omega
    have s2:Z_ (ui (l.drop j)=false):=by show _=_;unfold ui;rw[Ih];rfl
    have s1:Z_ (CJ (l.drop j)=false):=by show _=_;unfold CJ;rw[Hh.o,h61];simp
    have Hm:Z_ (rV l=((l.take j,[],[]),false)):=by
     show _=_;unfold rV;rw[AZ.o.1,AZ.o.2];dsimp only;rw[s2.o,s1.o];simp only[a0A,a0I]
    go_wp2;refine bodyPost_ret (jO (m:=(l.take j,[],[])) (ok:=false) (rb:=w.heap.size) ?_ (by rfl) (by rfl)) rfl ?_
    ·exact⟨by rw[Below.heap_alloc _ _ _ (by simp)];exact bD _ _⟩
    rw[Hm.o];exact⟨rfl,((aB.refl [] w).alloc _).alloc _⟩
   all_goals
    have kv:CO ((w.alloc (Obj.cells #[.string (bs []),.string (bs []),.string (bs []),.pointer none] 130)).alloc (Obj.cells #[zT (l.take j),zT (sg),.string (bs []),.pointer none] 130)) (w.heap.size+1) (l.take j,sg,[]):=⟨by have:=bD (w.alloc (Obj.cells #[.string (bs []),.string (bs []),.string (bs []),.pointer none] 130)) (Obj.cells #[zT (l.take j),zT (sg),.string (bs []),.pointer none] 130);rw[<-this];simp⟩;have kM:=uh.o.aC (S:=[]) ((aB.refl _ _).alloc (Obj.cells #[zT (l.take j),zT (sg),.string (bs []),.pointer none] 130)) (by simp);refine(vI rs _ Qd).mono ?_;rintro e w2 ⟨rfl,hf⟩;have B1:=aj (kv.aC hf (by simp));have B0:=aj (kM.aC hf (by simp));have KF:=aj ((((aB.refl [] w).alloc _).alloc _).trans hf);clear hf kv kM;have gD:w.heap.size+1<w2.heap.size:=B1.o.lt;generalize gV rs=u at *;obtain⟨u1,u2⟩:=u;have p0:zC w2 (w.heap.size+1) 0 (zT (l.take j)):=B1.o.cell 0;have p1:zC w2 (w.heap.size+1) 1 (zT (sg)):=B1.o.cell 1;have p2:zC w2 (w.heap.size+1) 2 (.string (bs [])):=B1.o.cell 2;have p3:zC w2 (w.heap.size+1) 3 (.pointer none):=B1.o.cell 3;have p4:=B1.o.fz;have r0:zC w2 w.heap.size 0 (.string (bs [])):=B0.o.cell 0;have r1:zC w2 w.heap.size 1 (.string (bs [])):=B0.o.cell 1;have r2:zC w2 w.heap.size 2 (.string (bs [])):=B0.o.cell 2;have r3:zC w2 w.heap.size 3 (.pointer none):=B0.o.cell 3;have r4:=B0.o.fz;go_wp2_with fail
    refine(nH (l.take j) _ (by simp;omega)).mono ?_;rintro e w' ⟨rfl,rfl⟩;generalize l.take j=nm at *;generalize aJ nm=ib at *;cases u2
    all_goals
     go_wp2;refine bodyPost_ret (jO (m:=(nm,sg,u1)) (rb:=w.heap.size) ?_ (by rfl) (by rfl)) rfl ?_
     ·exact(B0.o.aC (S:=[w.heap.size+1]) ((aB.refl _ _).setCell (p:=(zB (w.heap.size+1) 2)) (by simp) (zT u1)) (by simp)).Lm (nm,sg,u1)
     rw[Hm.o];exact⟨by simp,aB.Lm (KF.o.setCell (Or.inr (by simp)) _) (by simp) _ _ _ _⟩
  have mK:j=l.length:=by omega
  have AZ:Z_ (l.takeWhile qy=l.take j/\l.dropWhile qy=l.drop j):=by
   have:=MP (l.take j) (l.drop j) oL.o (λc' r' e=>by rw[a0i (by omega)]at e;cases e)
   rwa [a1C]at this
  have atL:Z_ (l.drop j=[]):=a0i (by omega);have s2:Z_ (ui (l.drop j)=false):=by show _=_;rw[atL.o];rfl
  have s1:Z_ (CJ (l.drop j)=false):=by show _=_;rw[atL.o];rfl
  have gJ:decide ((1:Int)<((l.length-j:Nat):Int))=false:=a0f (by omega);have ER:decide ((0:Int)<((l.length-j:Nat):Int))=false:=a0f (by omega);clear mK oL;have Hm:Z_ (rV l=((l.take j,[],[]),false)):=by
   show _=_;unfold rV;rw[AZ.o.1,AZ.o.2];dsimp only;rw[s2.o,s1.o];simp only[a0A,a0I]
  go_wp2;refine bodyPost_ret (jO (m:=(l.take j,[],[])) (ok:=false) (rb:=w.heap.size) ?_ (by rfl) (by rfl)) rfl ?_
  ·exact⟨by rw[Below.heap_alloc _ _ _ (by simp)];exact bD _ _⟩
  rw[Hm.o];exact⟨rfl,((aB.refl [] w).alloc _).alloc _⟩
theorem aqh:∀(x y:LB),Op.bytesLess x y=decide (x<y):=by
 intro x
 induction x with
 | nil=>intro y;cases y<;>simp[Op.bytesLess]
 | cons a x c =>
   intro y;cases y with
   | nil=>simp[Op.bytesLess]
   | cons b y=>rw[Op.bytesLess,c y,a0T];simp only[List.cons_lt_cons_iff,a1a,a0O,a0U,a0W]
def ins(n:LB):List LB->List LB
 | []=>[n]
 | x::L=>if n<x then n::x::L else x::ins n L
theorem adQ(n a:LB)(h:n<a):∀(A:List LB),ins n (A++[a])=ins n A++[a]
 | []=>by simp[ins,h]
 | x::A=>by
   rw[a0L];unfold ins
   by_cases b:n<x
   .grind
   rw[a0n b,a0n b,adQ n a h A];simp
theorem adR(n:LB):∀(A:List LB),(∀x∈A,¬ n<x)->ins n A=A++[n]
 | [],_=>rfl
 | x::A,h=>by unfold ins;rw[a0n (h x (by simp)),adR n A (λy a=>h y (by simp[a]))];rfl
def ahP(n:LB):∀(A:List LB) (x:LB),x∈ins n A->x=n\/x∈A
 | [],x,h=>by simp[ins]at h;exact .inl h
 | y::A,x,h=>by
   unfold ins at h
   by_cases a:n<y
   .grind
   rw[a0n a]at h;rw[a0l]at h;rcases h with h|h
   .exact .inr (by simp[h])
   rcases ahP n A x h with h|h
   .exact .inl h
   exact .inr (by simp[h])
def Asc(A:List LB):Prop:=A.Pairwise (λx y=>x<y)
def tri(x y:LB)(b:¬ x<y)(a:x≠y):y<x:=by grind
theorem ahQ(n:LB):∀(A:List LB),Asc A->n∉A->Asc (ins n A)
 | [],_,_=>by simp[ins,Asc]
 | x::A,h,c=>by
   unfold Asc at h;rw[a1F]at h;unfold ins
   by_cases b:n<x
   .rw[a0m b]
    refine a1F.2 ⟨λy a=>?_,a1F.2 h⟩;rw[a0l]at a;rcases a with rfl|a
    .exact b
    grind
   rw[a0n b];refine a1F.2 ⟨λy a=>?_,ahQ n A h.2 (λd=>c (by simp[d]))⟩;rcases ahP n A y a with rfl|a
   .grind
   exact h.1 y a
def gtB(a b:LB):Bool:=!(Op.bytesLess a b||a==b)
def down:Nat->List LB->List LB
 | 0,xs=>xs
 | k+1,xs=>if gtB (xs.getD k []) (xs.getD (k+1) []) then down k ((xs.set (k+1) (xs.getD k [])).set k (xs.getD (k+1) [])) else xs
def lM(out:List LB)(n:LB):List LB:=if out.contains n then out else down out.length (out++[n])
def Ed(L:List LB):List LB:=L.foldl lM []
theorem J2:∀(k:Nat) (xs:List LB),(down k xs).length=xs.length
 | 0,xs=>rfl
 | k+1,xs=>by
   unfold down;split
   .rw[J2 k];simp
   rfl
def akg(out:List LB)(n:LB):(lM out n).length<=out.length+1:=by
 unfold lM;split
 .omega
 rw[J2];simp
theorem SL.cell {base:Nat}(h:SL base w (zS g n cap) xs)(j:Nat)(a:j<xs.length):zC w g j (zT (xs.getD j [])):=by
 have:=World.ownsRow.cells h (g:=g) rfl j (zT (xs.getD j [])) (by simp[sv,a])
 rwa [add0]at this
theorem SL.set {base:Nat}(h:SL base w (zS g n cap) xs)(a:n=xs.length)(j:Nat)(s:LB):SL base (w.setCell (zB g j) (zT s)) (zS g n cap) (xs.set j s):=by
 subst a;have:=(World.ownsRow.stored h j (zT s)).1;unfold SL;rw[a3p];have e:(sv xs).set j (zT s)=sv (xs.set j s):=by simp[sv]
 rw[<-e];exact this
theorem SL.fz {base:Nat}(h:SL base w (zS g n cap) xs)(a:n=xs.length)(j:Nat):w.frozen? (zB g j)=false:=by subst a;exact World.ownsRow.frozenAt h j
theorem ahR(v:Value)(L:List LB)(w:World)(h:RS 0 w v L)(hL:L.length<=1000) :
 Calls Tryz.prog 68 #[v] w λe w'=>∃E,e=.returned E/\SL w.heap.size w' E (Ed L)/\aB [] w w':=by
 obtain⟨a,cap,rfl,h1,h2,H3⟩:=h;have hl:=aT;go_in
 go_wp2;go_loopg [3,4] L.length (λk O R wr=>∃(j:Nat) (out:List LB),j+k=L.length/\R=.int .i64 j/\SL w.heap.size wr O out/\out.length<=j/\(L.drop j).foldl lM out=Ed L/\aB [] w wr)
 exact⟨0,[],by omega,rfl,SL.nil _ _,by simp,by simp[Ed],zK⟩
 case round =>
 obtain⟨j,out,hj,rfl,b,X,D,f⟩:=hrel;obtain⟨A,co,W⟩:=b.shape;subst W
 by_cases J:j<L.length
 .obtain⟨g0,off,ha,_,s⟩:=H3 j J
  subst ha;have N:L.drop j=L[j]::L.drop (j+1):=a0k J;generalize L[j]=x at *;have B:(L.drop (j+1)).foldl lM (lM out x)=Ed L:=by rw[<-D,N];rfl
  clear D N;go_wp2_with fail
  go_loopg [6,7] out.length (λk vt P p=>∃(d:Nat),d+k=out.length/\P=.int .i64 d/\vt=.bool ((out.take d).contains x)/\SL w.heap.size p (.slice A out.length co) out/\aB [] w p)
  exact⟨0,by omega,rfl,rfl,b,f⟩
  .clear b f;obtain⟨d,hjj,rfl,rfl,b,f⟩:=hrel;have hc:wr.cell? ⟨g0,off+j,none⟩=some (.string (bs x)):=by rw[f.cell (World.block_lt_of_cell? w _ s) (by simp)];exact s
   by_cases t:d<out.length
   .obtain⟨H,u⟩:∃H,A=some ⟨H,0,none⟩:=by
     rcases b.2 with⟨e,h⟩|⟨g,c,cur,e,_⟩
     .omega
     simp at e;exact⟨g,e.1⟩
    subst u;have RY:=b.cell d t;have m:(out.take (d+1)).contains x=((out.take d).contains x||(out.getD d []==x)):=by
     have e1:out.getD d []=out[d]:=by simp[t]
     rw[e1,a0F t,a0T];simp only[a2B,a0e,a0w,a1a,a1E,a0W]
     constructor
     .rintro(h|h)
      .exact Or.inl h
      exact Or.inr h.symm
     rintro(h|h)
     .exact Or.inl h
     exact Or.inr h.symm
    generalize out.getD d []=y at *;cases q:(out.take d).contains x
    .rw[q]at m
     go_wp2;go_quiet (fail)
     go_wp2;go_roundg (gk-1);exact⟨d+1,by omega,by go_num,by rw[m];rfl,b.aC (S:=[]) (zK.drewN _) (by simp),f.drewN _⟩;omega
    rw[q]at m;go_wp2;go_quiet (fail)
    go_wp2;go_roundg (gk-1);exact⟨d+1,by omega,by go_num,by rw[m];rfl,b.aC (S:=[]) (zK.drewN _) (by simp),f.drewN _⟩;omega
   have m:out.take d=out:=a0C (by omega);rw[m];have hz:=f.size;cases M:out.contains x
   case true =>
    have C:lM out x=out:=by unfold lM;rw[M];rfl
    go_wp2;go_roundg (L.length-j-1)
    .have:=B;rw[C]at this;exact⟨j+1,out,by omega,by go_num,b,by omega,this,f⟩
    omega
   case false =>
   have C:lM out x=down out.length (out++[x]):=by unfold lM;rw[M];rfl
   clear m;go_wp2_with (first | (at_builtin;refine rA _ rfl _ _ rfl w.heap.size (.slice A out.length co) out x wr.heap.size rfl (b.aC zG (by simp)) rfl (by simp) (by omega) (by simp;omega) ?_;intro z aU w2 F G V;have U:=(f.alloc _).grown G (λk Z=>Or.inr (b.lt k Z).1);have T:=F))
   clear F G;go_loopg [5] out.length (λk vk p=>∃(xs:List LB),k<=out.length/\vk=.int .i64 k/\xs.length=out.length+1/\SL w.heap.size p (.slice (some ⟨z,0,none⟩) (out.length+1) aU) xs/\down k xs=lM out x/\aB [] w p)
   exact⟨out++[x],a0b _,rfl,by simp,T,C.symm,U⟩
   .clear b f hc hz V;obtain⟨xs,Y,rfl,i,b,r,f⟩:=hrel;have Sv:=b.fz i.symm;cases gk with
    | zero =>
      have l:lM out x=xs:=r.symm;have ER:decide ((0:Int)<((0:Nat):Int))=false:=rfl;go_wp2;go_quiet (fail)
      go_wp2;go_roundg (L.length-j-1)
      .have:=B;rw[l]at this;exact⟨j+1,xs,by omega,by go_num,b.aC (S:=[]) (zK.drewN _) (by simp),by have:=i;omega,this,f.drewN _⟩
      omega
    | succ k =>
      have ER:decide ((0:Int)<(k:Int)+1)=true:=a0g (by omega);have c1:=b.cell k (by omega);have c2:=b.cell (k+1) (by omega);have I:lM out x=if gtB (xs.getD k []) (xs.getD (k+1) []) then down k ((xs.set (k+1) (xs.getD k [])).set k (xs.getD (k+1) [])) else xs:=by rw[<-r];rfl
      generalize xs.getD k []=o at *;generalize xs.getD (k+1) []=n at *;cases dZ:(Op.bytesLess o n||o==n)
      case true =>
       have l:lM out x=xs:=by rw[I];unfold gtB;rw[dZ];rfl
       go_wp2;go_quiet (fail)
       go_wp2;go_roundg (L.length-j-1)
       .have:=B;rw[l]at this;exact⟨j+1,xs,by omega,by go_num,b.aC (S:=[]) (zK.drewN _) (by simp),by have:=i;omega,this,f.drewN _⟩
       omega
      case false =>
       have l:down k ((xs.set (k+1) o).set k n)=lM out x:=by rw[I];unfold gtB;rw[dZ];rfl
       go_wp2;go_quiet (fail)
       go_wp2;go_roundg k
       .refine⟨(xs.set (k+1) o).set k n,by omega,by go_num,by simp[i],?_,l,?_⟩
        .exact(((b.aC (S:=[]) (zK.drewN _) (by simp)).set i.symm (k+1) o).set (by simp[i]) k n)
        exact((f.drewN _).setCell (Or.inr (b.lt z rfl).1) _).setCell (Or.inr (b.lt z rfl).1) _
       omega
 have l:Ed L=out:=by rw[<-D,a0i (by omega)];rfl
 go_wp2;go_ret;rw[l];exact⟨_,rfl,b,f⟩
theorem adT(n:LB):∀(k:Nat) (A B:List LB),A.length=k->Asc A->n∉A->down k (A++n::B)=ins n A++B
 | 0,A,B,f,_,_=>by have:A=[]:=a0S f;subst this;simp[down,ins]
 | k+1,A,B,f,g,j=>by
   obtain⟨c,a,rfl⟩:∃c a,A=c++[a]:=⟨A.dropLast,A.getLast (by intro e;simp[e]at f),(a2t _).symm⟩;have b:c.length=k:=by simpa using f
   unfold Asc at g;rw[List.pairwise_append]at g;have s:(c++[a]++n::B).getD k []=a:=by simp[<-b,a0x]
   have r:(c++[a]++n::B).getD (k+1) []=n:=by simp[<-b,a0x]
   have l:a≠n:=λe=>j (by simp[e])
   unfold down;rw[s,r];have q:gtB a n=decide (n<a):=by
    unfold gtB;rw[aqh,a0T];simp only[a1j,Bool.or_eq_false_iff,a1g,a0U]
    constructor
    .intro h;exact tri _ _ h.1 l
    intro h;exact⟨λi=>List.lt_irrefl _ (List.lt_trans h i),by simpa using l⟩
   rw[q]
   by_cases h:n<a
   .rw[a0m (by simp[h])]
    have p:((c++[a]++n::B).set (k+1) a).set k n=c++n::(a::B):=by subst b;simp[List.set_append]
    rw[p,adT n k c (a::B) b g.1 (λm=>j (by simp[m])),adQ n a h];simp
   rw[a0n (by simp[h])];rw[adR n (c++[a])]
   .simp
   intro x d;rw[a0e,a0w]at d;rcases d with d|rfl
   .intro i
    have o:=g.2.2 x d a (by simp);exact h (List.lt_trans i o)
   exact h
open Go.RowKit
structure iY where
 rc:LB
 ek:Value
 t0:Int
 t1:Int
 t2:Int
 iJ:Value
 on:Bool
 vk:Value
 d:Int
 row:Int
def iY.cells(r:iY):Array Value:=#[zT r.rc,r.ek,zI r.t0,zI r.t1,zI r.t2,r.iJ,.bool r.on,r.vk,zI r.d,zI r.row]
def qz(w:World)(b:Nat)(r:iY):Prop:=w.heap[b]?=some (.cells r.cells 125 (0,0))
theorem qz.lt {r:iY}(h:qz w b r):b<w.heap.size:=(a0c.1 h).1
theorem qz.cell {r:iY}(h:qz w b r)(o:Nat):w.cell? (zB b o)=r.cells[o]?:=by unfold qz at h;simp[World.cell?,h]
theorem qz.fz {r:iY}(h:qz w b r)(o:Nat):w.frozen? (zB b o)=false:=by unfold qz at h;simp[World.frozen?,h]
theorem qz.aC {r:iY}(h:qz w b r)(f:aB S w w')(a:b∉S):qz w' b r:=(f.block b h.lt a).trans h
theorem qz.set {r:iY}(h:qz w b r)(o:Nat)(v:Value)(r':iY)(e:r'.cells=r.cells.setIfInBounds o v):qz (w.setCell (zB b o) v) b r':=by unfold qz at *;simp[World.setCell,a0v,h,e]
def Ee(m:RM):List Value:=[zT m.1,zT m.2.1,zT m.2.2,.pointer none]
def ivl(M:List RM):List Value:=M.flatMap Ee
def VA(base:Nat)(w:World)(v:Value)(M:List RM):Prop:=w.ownsRow base 130 4 v M.length (ivl M)
theorem VA.aC {base:Nat} {v:Value} {L:List RM}(h:VA base w v L)(f:aB S w w')(a:∀k,k∈S->k<base):VA base w' v L:=fG h f a
theorem VA.nil(base:Nat)(w:World):VA base w zN []:=World.ownsRow_nil w base _ 4
def asy:(Tryz.prog.info? 130).map (λi=>(i.zero,i.size,i.bytes))=some (some (.agg #[.string ByteArray.empty,.string ByteArray.empty,.string ByteArray.empty,.pointer none]),4,56):=by kernel_rfl
def wIf:LB:=[105,102]
def EI:LB:=[99,111,110,116,105,110,117,101]
def dO:Nat->List LB->List RM->List RM × Bool × Bool
 | 0,_,acc=>(acc,false,false)
 | k+1,W,acc =>
   if decide (1<W.length)&&(W.getD 0 []==wIf) then
    (if (rV (W.getD 1 [])).2 then dO k (W.drop 2) (acc++[(rV (W.getD 1 [])).1]) else (acc,false,false))
   else if (W.length==1)&&(W.getD 0 []==EI) then (acc,true,decide (acc.length<=4))
   else (acc,false,W.isEmpty&&decide (acc.length<=4))
theorem RS.Ay {base:Nat} {a:Option Addr}(h:RS base w (.slice a n cap) W)(k:0<W.length):∃g off,a=some ⟨g,off,none⟩/\base<=g/\n=W.length/\W.length<=cap/\∀j,j<W.length->w.cell? ⟨g,off+j,none⟩=some (.string (bs (W.getD j []))):=by obtain⟨p,l,e,m,i,d⟩:=h;simp at e;obtain⟨rfl,rfl,rfl⟩:=e;obtain⟨g,off,rfl,hb,_⟩:=d 0 k;refine⟨g,off,rfl,hb,rfl,i,λj c=>?_⟩;obtain⟨o,b,e,q,f⟩:=d j c;simp at e;obtain⟨rfl,rfl⟩:=e;rw[f];simp[c]
def RS.drop2 {base:Nat}{off:Nat}(h:RS base w (.slice (some (zB g off)) n cap) W)(k:Nat)(l:k<=W.length):RS base w (.slice (some (zB g (off+k))) (n-k) (cap-k)) (W.drop k):=by obtain⟨q,i,e,o,m,d⟩:=h;simp at e;obtain⟨rfl,rfl,rfl⟩:=e;refine⟨some (zB g (off+k)),cap-k,by simp,by simp;omega,by simp;omega,λj b=>?_⟩;simp at b;obtain⟨p,a,e,f,c⟩:=d (k+j) (by omega);simp at e;obtain⟨rfl,rfl⟩:=e;refine⟨g,off+k,rfl,f,?_⟩;rw[a2M,c];simp
def ano(b base:Nat)(v:Value)(W:List LB)(r:iY)(w:World)(hr:qz w b r)(hw:RS base w v W)(hb:b<base)(JI:r.iJ=zN)(I:r.on=false)(hW:W.length<=10000)(R:∀x∈W,x.length<=100000) :
 zF 70 #[zP b,v] w λe w'=>e=zR (.bool (dO (W.length+1) W []).2.2)/\(∃v',qz w' b { r with iJ:=v',on:=(dO (W.length+1) W []).2.1 }/\VA w.heap.size w' v' (dO (W.length+1) W []).1)/\aB [b] w w':=by
 obtain⟨rc,ek,t0,t1,t2,iJ,on,vk,d,row⟩:=r;simp only at JI I;subst JI I;have Hw:=aj hw;have Hr:=aj hr;have Hl:=aj R;have jE:=hr.lt;obtain⟨a,cap,e,_⟩:=hw;subst e;clear hr R;have Bh:=aT;have kI:({ data:=#[105,102] }:ByteArray).toList=wIf:=aT _;have kC:({ data:=#[99,111,110,116,105,110,117,101] }:ByteArray).toList=EI:=aT _;obtain⟨i0,hi,Qa,Yk,Il⟩:=info_parts asy;generalize M:dO (W.length+1) W []=f at *;have awN:=aj M;clear M;delta zF;go_in
 go_wp2_with fail
 go_loopg [1] (W.length+1) (λk vw wr=>∃(c:List LB) (acc:List RM) (H:Value),c.length<k/\acc.length+c.length<=W.length/\(∀x∈c,x.length<=100000)/\RS base w vw c/\qz wr b ⟨rc,ek,t0,t1,t2,H,false,vk,d,row⟩/\VA w.heap.size wr H acc/\dO k c acc=f/\aB [b] w wr)
 case atStart=>exact⟨W,[],_,a3j _,by simp,Hl,Hw,Hr,VA.nil _ _,awN,aB.refl _ _⟩
 case round =>
 obtain⟨c,acc,H,hWk,ac5,R,yR,jW,jc,iD,bH⟩:=hrel;clear Hw Hr Hl;have N:=yR;obtain⟨a',xK,e,_,hWc,_⟩:=yR;subst e;have ED:=aj N;have p:=aj jW;have h:=aj jc;have T:=aj iD;have s:=aj bH;have z:=aj R;have PH:=jW.lt;have hzr:=bH.size;obtain⟨m,rfl⟩:∃m,gk=m+1:=⟨gk-1,by omega⟩;clear N jW jc iD bH R
 by_cases J:1<c.length
 .have gJ:decide ((1:Int)<(c.length:Int))=true:=a0g (by omega)
  obtain⟨g,off,ha,TA,_,_,aO⟩:=(ED.o.aC s.o (by simp;omega)).Ay (by omega);subst ha;have c0:zC wr g off (zT (c.getD 0 [])):=aO 0 (by omega);have c1:zC wr g (off+1) (zT (c.getD 1 [])):=aO 1 (by omega);have XG:(c.getD 1 []).length<=100000:=z.o _ (by rw[a0x,a0a J];exact a0u J);have F:Z_ (f=if (c.getD 0 []==wIf) then (if (rV (c.getD 1 [])).2 then dO m (c.drop 2) (acc++[(rV (c.getD 1 [])).1]) else (acc,false,false)) else (acc,false,false)):=by
   show _=_;rw[<-T.o];conv=>lhs;unfold dO
   have Y:(c.length==1)=false:=a0j.2 (by omega);have X:c.isEmpty=false:=by
    cases c with
    | nil=>simp at J
    | cons=>rfl
   rw[a0g J,Y,X];simp
  clear aO T;generalize c.getD 0 []=x0 at *;generalize c.getD 1 []=x1 at *;cases E:(x0==wIf)
  case false =>
   have n:Z_ (f=(acc,false,false)):=by show _=_;rw[F.o,E];rfl
   have Y:((c.length:Int)==1)=false:=a0j.2 (by omega);have X:((c.length:Int)==0)=false:=a0j.2 (by omega);go_wp2;go_ret;rw[n.o];exact⟨rfl,⟨H,p,h⟩,s⟩
  case true =>
  go_wp2_with fail
  refine(afC x1 _ XG).mono ?_;rintro e u ⟨rfl,O⟩;have l:=aj (p.o.aC O (by simp));have i:=aj (h.o.aC O (by simp));have XJ:=aj (s.o.trans O.nil);have fM:=O.size;clear O c0 c1 p h s;generalize rV x1=mm at *;obtain⟨⟨D,C,B⟩,mok⟩:=mm;cases mok
  case false =>
   have n:Z_ (f=(acc,false,false)):=by show _=_;rw[F.o,E];rfl
   unfold ifV;go_wp2;go_ret;rw[n.o];exact⟨rfl,⟨H,l.o.aC (S:=[]) ((aB.refl _ _).alloc _) (by simp),i.o.aC (S:=[]) ((aB.refl _ _).alloc _) (by simp)⟩,XJ.o.alloc _⟩
  case true =>
  have n:Z_ (dO m (c.drop 2) (acc++[(D,C,B)])=f):=by show _=_;rw[F.o,E];rfl
  obtain⟨ai,ci,rfl⟩:=aW i;have c5:zC u b 5 (.slice ai acc.length ci):=l.o.cell 5;have f5:=l.o.fz 5;have kv:=l.o.lt;have Z:Value.ownBlock (.slice ai acc.length ci)≠some b:=λe=>by have:=i.o.lt _ e;omega
  have g2:∀o y:Obj,((u.alloc o).alloc y).drew.frozen? (zB b 5)=false:=λo y=>(((((aB.refl [] u).alloc o).alloc y).drew).frozen kv (by simp)).trans f5
  have g3:∀o y:Obj,((u.alloc o).alloc y).drew.cell? (zB b 5)=some (.slice ai acc.length ci):=λo y=>(((((aB.refl [] u).alloc o).alloc y).drew).cell kv (by simp)).trans c5
  have JM:=aj (ED.o.drop2 2 (by omega));unfold ifV;go_wp2_with fail
  go_region_law ((refine step_append_lies _ (by rfl) _ _ _ (by rfl) w.heap.size 130 i0 _ 4 56 Tryz.underlying123 hi Qa Yk Il rfl (by omega) (.slice ai acc.length ci) acc.length (ivl acc) (by rfl) (by exact(i.o.alloc _).alloc _) (zA (u.heap.size+1)) 1 1 (Ee (D,C,B)) (by rfl) (by rfl) (World.news_of_block (cs:=(Ee (D,C,B)).toArray) (t:=130) (fr:=(0,0)) (by exact Ik _ _ _)) (by simp[Value.oneCell',Ee]) (by omega) (by unfold maxLen;omega) (by omega) (by simp;omega) (u.heap.size+2) (by simp) ?_;intro L P V bT aH bq aL))
  all_goals
   have G:Z_ (World.grownBy _ V (Value.ownBlock (.slice ai acc.length ci))):=aH;have U:Z_ (V.ownsRow w.heap.size 130 4 (zS L (acc.length+1) P) (acc.length+1) (ivl acc++Ee (D,C,B))):=bT;clear aH bT;have c6:=(G.o.cell_far (zB b 5) (by simp;omega) (Ne.symm Z)).trans (g3 _ _);have f6:=(G.o.frozen_far (zB b 5) (by simp;omega) (Ne.symm Z)).trans (g2 _ _)
   by_cases oN:xK=2
   .have Gh:RS base w (.slice (some (zB g off)) (c.length-2) 0) (c.drop 2):=⟨some (zB g off),0,by simp,by simp;omega,by simp;omega,λj hj=>by simp at hj;omega⟩
    have su:=aj Gh;clear Gh;go_wp2;go_roundg m
    case measure=>omega
    case rel =>
     have F4:=aB.fo G;have R4:qz V b ⟨rc,ek,t0,t1,t2,.slice ai acc.length ci,false,vk,d,row⟩:=(l.o.aC (S:=[]) ((((aB.refl _ _).alloc _).alloc _).drew) (by simp)).aC F4 (by simpa[a0H] using λe=>Z e);refine⟨c.drop 2,acc++[(D,C,B)],zS L (acc.length+1) P,by simp;omega,by simp;omega,λx hx=>z.o x (a1f hx),su,R4.set 5 _ _ rfl,?_,n,?_⟩
     .have:=ownsRow_setCell_below U.o (a:=(zB b 5)) jE (zS L (acc.length+1) P)
      simpa[VA,ivl] using this
     exact((((XJ.o.alloc _).alloc _).drew).grown G.o (λk hk=>Or.inr (i.o.lt _ hk).1)).setCell (by simp) _
   go_wp2;go_roundg m
   case measure=>omega
   case rel =>
    have F4:=aB.fo G;have R4:qz V b ⟨rc,ek,t0,t1,t2,.slice ai acc.length ci,false,vk,d,row⟩:=(l.o.aC (S:=[]) ((((aB.refl _ _).alloc _).alloc _).drew) (by simp)).aC F4 (by simpa[a0H] using λe=>Z e);refine⟨c.drop 2,acc++[(D,C,B)],zS L (acc.length+1) P,by simp;omega,by simp;omega,λx hx=>z.o x (a1f hx),JM,R4.set 5 _ _ rfl,?_,n,?_⟩
    .have:=ownsRow_setCell_below U.o (a:=(zB b 5)) jE (zS L (acc.length+1) P)
     simpa[VA,ivl] using this
    exact((((XJ.o.alloc _).alloc _).drew).grown G.o (λk hk=>Or.inr (i.o.lt _ hk).1)).setCell (by simp) _
 have gJ:decide ((1:Int)<(c.length:Int))=false:=a0f (by omega);obtain⟨ai,ci,rfl⟩:=aW h;have c5:zC wr b 5 (.slice ai acc.length ci):=p.o.cell 5;have c6:zC wr b 6 (.bool false):=p.o.cell 6;have f6:=p.o.fz 6;have q:decide (acc.length<=4)=decide ((acc.length:Int)<=4):=by
  rw[a0T,a1E,a1E];omega
 by_cases A:c.length=1
 .have Y:((c.length:Int)==1)=true:=by simp[A]
  have e0:((c.length:Int)==0)=false:=a0j.2 (by omega);obtain⟨g,off,ha,TA,_,_,aO⟩:=(ED.o.aC s.o (by simp;omega)).Ay (by omega);subst ha;have c0:zC wr g off (zT (c.getD 0 [])):=aO 0 (by omega);have F:Z_ (f=if (c.getD 0 []==EI) then (acc,true,decide ((acc.length:Int)<=4)) else (acc,false,false)):=by
   show _=_;rw[<-T.o];conv=>lhs;unfold dO
   have X:c.isEmpty=false:=by
    cases c with
    | nil=>simp at A
    | cons=>rfl
   rw[a0f J,A,X,q];simp
  clear aO T q;generalize c.getD 0 []=x0 at *;cases E:(x0==EI)
  .have n:Z_ (f=(acc,false,false)):=by show _=_;rw[F.o,E];rfl
   have awO:0<c.length:=by omega
   clear A;go_wp2;go_ret;rw[n.o];exact⟨rfl,⟨_,p,h⟩,s⟩
  have n:Z_ (f=(acc,true,decide ((acc.length:Int)<=4))):=by show _=_;rw[F.o,E];rfl
  have awO:0<c.length:=by omega
  clear A;go_wp2;go_ret;rw[n.o];exact⟨rfl,⟨_,p.o.set 6 _ _ rfl,h.o.aC (S:=[b]) ((aB.refl _ _).setCell (by simp) _) (by simp;omega)⟩,s.o.setCell (by simp) _⟩
 have Vz:c.length=0:=by omega
 have Y:((c.length:Int)==1)=false:=a0j.2 (by omega);have e0:((c.length:Int)==0)=true:=by simp[Vz]
 have n:Z_ (f=(acc,false,decide ((acc.length:Int)<=4))):=by
  show _=_;rw[<-T.o];conv=>lhs;unfold dO
  have:c=[]:=a0S Vz;rw[this,q];rfl
 clear Vz A q;go_wp2;go_ret;rw[n.o];exact⟨rfl,⟨_,p,h⟩,s⟩
def Na(q:Bool)(c:UInt8)(N:Nat):∀(k:Nat) (l:LB) (i:Bool) (t:LB) (out:List LB),t.length+l.length<=N->(∀x∈out,x.length<=N)->(∀x∈jy q c k l i t out,x.length<=N)/\(jy q c k l i t out).length<=out.length+l.length+1/\out.length+1<=(jy q c k l i t out).length
 | 0,l,i,t,out,g,a=>by grind [jy]
 | k+1,[],i,t,out,g,a=>by grind [jy]
 | k+1,y::r,i,t,out,g,a=>by
   simp only[a0r]at g;unfold jy;dsimp only;generalize (if (q&&y==34)=true then !i else i)=i1
   by_cases d:(i1&&y==92&&!(r.isEmpty))=true
   .rw[a0m d]
    have j:r≠[]:=by intro e;subst e;simp at d
    have m:0<r.length:=a1O.2 j;have:=Na q c N k (r.drop 1) i1 (t++([y]++r.take 1)) out (by simp;omega) a;refine⟨this.1,?_,this.2.2⟩;have f:=this.2.1;simp only[a2F,a0r]at f |-;omega
   rw[a0n d]
   by_cases h:(y==c&&!i1)=true
   .rw[a0m h]
    have:=Na q c N k r i1 [] (out++[t]) (by simp;omega) (λx b=>by
     rw[a0e,a0w]at b;rcases b with b|rfl
     .exact a x b
     omega)
    refine⟨this.1,?_,?_⟩
    .grind
    grind
   rw[a0n h];have:=Na q c N k r i1 (t++[y]) out (by simp;omega) a;refine⟨this.1,?_,this.2.2⟩;have f:=this.2.1;simp at f |-;omega
def Lr(q:Bool)(c:UInt8)(l:LB):(∀x∈dU q c l,x.length<=l.length)/\(dU q c l).length<=l.length+1/\1<=(dU q c l).length:=by have:=Na q c l.length (l.length+1) l false [] [] (by simp) (by simp);unfold dU;refine⟨this.1,by have:=this.2.1;simp at this;omega,by have:=this.2.2;simp at this;omega⟩
def akh(out:List LB)(n:LB):1<=(lM out n).length:=by grind [lM,J2]
def abo:∀(L out:List LB),out.length<=(L.foldl lM out).length/\(L.foldl lM out).length<=out.length+L.length/\(1<=L.length->1<=(L.foldl lM out).length)
 | [],out=>by simp
 | x::L,out=>by
   have h:=abo L (lM out x);have c:=akg out x;have b:=akh out x;have a:out.length<=(lM out x).length:=by grind [lM,J2]
   simp only[a1R,a0r];exact⟨by omega,by omega,λ_=>by omega⟩
def anp(L:List LB):(Ed L).length<=L.length/\(1<=L.length->1<=(Ed L).length):=by have:=abo L [];unfold Ed;simp at this |-;exact⟨this.1,this.2⟩
def adW {ops:Array Oper} {rest:List Oper} {o:Oper} {a:Act} {Q:Exit->Act->World->Prop}(w:World)(m:o.guard=none)(s x:Operand)
 (ho:o.op=.call { callee:=.builtin .append,args:=#[s,x],argTypes:=#[44,44] })
 (base i:Nat) (v:Value) (L M:List LB) (f c2:Nat) (p:a.eval s=v) (C:SL base w v L) (b:a.eval x=zS f M.length c2)
 (t:SL i w (zS f M.length c2) M) (E:0<M.length) (hlen:L.length+M.length<=1048576) (l:base<=w.heap.size)
 (h:∀g cap w',SL base w' (zS g (L.length+M.length) cap) (L++M)->w.grownBy w' v.ownBlock->base<=g->wpList Tryz.prog ops Q rest (a.put o.dst (zS g (L.length+M.length) cap)) w') :
 wpList Tryz.prog ops Q (o::rest) a w:=by
 obtain⟨n,r,gT,B,A⟩:=info_parts uY;refine wpList_append_own w m s x 44 ho base 9 n (.string ByteArray.empty) 1 16 Tryz.underlying44 r gT B A rfl (by decide) v L.length (sv L) p C (zA f) M.length c2 (sv M) b (by simp[sv]) ?_ (λx b=>by simp[sv]at b;obtain⟨c,_,rfl⟩:=b;rfl) (by unfold maxLen;omega) (by omega) l ?_
 .intro j u q
  exact t.cells rfl j u q
 intro D w' k z y;obtain⟨g,cap,rfl⟩:=Uz k (λe=>by have:=(y.1 e).2;omega);have d:SL base w' (zS g (L.length+M.length) cap) (L++M):=by grind [SL,sv]
 exact h g cap w' d z (k.lt g rfl).1
def Bn:LB:=[114,111,117,116,101]
def wBy:LB:=[98,121]
def Az:LB:=[119,97,105,116]
def vQ:LB:=[101,118,101,114,121]
def rW:LB:=[114,101,112,101,97,116]
structure RR where
 rc:LB
 told:Bool
 names:List LB
 t0:Int
 t1:Int
 t2:Int
 ifs:List RM
 on:Bool
 d:Nat
def qX(W:List LB):Option (Bool × List LB × List LB) :=
 if decide (1<W.length)&&(W.getD 0 []==wBy) then
  (if W.getD 1 [] == [45] then some (true,[],W.drop 2)
   else if (dU false 44 (W.getD 1 [])).all aJ&&decide ((dU false 44 (W.getD 1 [])).length<=4) then some (true,Ed (dU false 44 (W.getD 1 [])),W.drop 2) else none)
 else some (false,[],W)
def alP:Nat->LB
 | 2=>Az
 | 1=>vQ
 | _=>rW
def aqi(r:Nat)(a:Int × Int × Int)(n:Int):Int × Int × Int :=
 match r with
 | 2=>(n,a.2.1,a.2.2)
 | 1=>(a.1,n,a.2.2)
 | _=>(a.1,a.2.1,n)
def nO:Nat->Int × Int × Int->List LB->Option ((Int × Int × Int) × List LB)
 | 0,a,W=>some (a,W)
 | r+1,a,W =>
   if decide (1<W.length)&&(W.getD 0 []==alP r) then
    (if decide (iR (W.getD 1 [])<0) then none else nO r (aqi r a (iR (W.getD 1 []))) (W.drop 2))
   else nO r a W
def rtW(d:Nat)(W:List LB):Option RR :=
 if decide (W.length<2)||!(W.getD 0 []==Bn) then none
 else if !(aJ (W.getD 1 []))&&!(W.getD 1 [] == [45]) then none
 else match qX (W.drop 2) with
  | none=>none
  | some (told,names,c)=>match nO 3 (-1,-1,-1) c with
    | none=>none
    | some (b,a)=>if (dO (a.length+1) a []).2.2 then some ⟨W.getD 1 [],told,names,b.1,b.2.1,b.2.2,(dO (a.length+1) a []).1,(dO (a.length+1) a []).2.1,d⟩ else none
def yY(l:LB):Option RR:=rtW (bO l).1 (dU true 32 (bO l).2)
def byW(told:Bool)(names:List LB):List LB:=if told then [58]::names else []
structure awP(base:Nat)(w:World)(b:Nat)(v:iY)(r:RR):Prop where
 at_:qz w b v
 rc:v.rc=r.rc
 Im:SL base w v.ek (byW r.told r.names)
 t0:v.t0=r.t0
 t1:v.t1=r.t1
 t2:v.t2=r.t2
 ifs:VA base w v.iJ r.ifs
 on:v.on=r.on
 vk:v.vk=zN
 d:v.d=r.d
 row:v.row=0
def aqj(w:World)(e:Ending)(w':World):Option RR->Prop
 | none=>∃p,e=zQ #[.pointer p,.bool false]
 | some r=>∃b v,w.heap.size<=b/\e=zQ #[zP b,.bool true]/\awP w.heap.size w' b v r
def tC(b:Nat):Value:=zP b
def LP(base:Nat)(w:World)(v:Value)(B:LN):Prop:=w.ownsRow base 116 1 v B.length (B.map tC)
theorem LP.cell {base:Nat} {B:LN}(h:LP base w (zS g n cap) B)(j:Nat)(a:j<B.length):zC w g j (tC B[j]):=by have:=World.ownsRow.cells h (g:=g) rfl j (tC B[j]) (by simp[a]);rw[add0]at this;exact this
def sw(w:World)(cb:Nat)(vr vt a:Value):Prop:=w.heap[cb]?=some (.cells #[vr,vt,a] 119 (0,0))
theorem sw.lt{z:Value}(h:sw w b x y z):b<w.heap.size:=(a0c.1 h).1
theorem sw.cell{z:Value}(h:sw w b x y z)(o:Nat):w.cell? (zB b o)=(#[x,y,z]:Array Value)[o]?:=by unfold sw at h;simp[World.cell?,h]
theorem sw.fz{z:Value}(h:sw w b x y z)(o:Nat):w.frozen? (zB b o)=false:=by unfold sw at h;simp[World.frozen?,h]
theorem sw.aC{z:Value}(h:sw w b x y z)(f:aB S w w')(a:b∉S):sw w' b x y z:=(f.block b h.lt a).trans h
structure Dq(base:Nat)(w:World)(b:Nat)(v:iY)(r:RR):Prop where
 at_:qz w b v
 rc:v.rc=r.rc
 Im:SL base w v.ek (byW r.told r.names)
 t0:v.t0=r.t0
 t1:v.t1=r.t1
 t2:v.t2=r.t2
 ifs:VA base w v.iJ r.ifs
 on:v.on=r.on
 d:v.d=r.d
theorem Dq.aC {base:Nat} {v:iY} {r:RR}(h:Dq base w b v r)(f:aB S w w')(c:b∉S)(a:∀k∈S,k<base):Dq base w' b v r :=
 ⟨h.at_.aC f c,h.rc,h.Im.aC f a,h.t0,h.t1,h.t2,h.ifs.aC f a,h.on,h.d⟩
structure alQ(r:RR):Prop where
 d:r.d<=9000
 rc:r.rc.length<=8
 names:r.names.length<=4
 nm:∀n∈r.names,n.length<=8
 t0:-1<=r.t0/\r.t0<=99999
 t1:-1<=r.t1/\r.t1<=99999
 t2:-1<=r.t2/\r.t2<=99999
 ifs:r.ifs.length<=4
 im:∀m∈r.ifs,m.1.length<=8/\m.2.1.length<=2/\m.2.2.length<=40
theorem VA.cell {base:Nat} {M:List RM}(h:VA base w (zS g n cap) M) {j:Nat} {m:RM}(d:M[j]?=some m)(k:Nat)(b:k<4):w.cell? (zB g (j*4+k))=(Ee m)[k]?:=by have c:=flat_get Ee 4 (λa=>rfl) M j k m d b;have e:=World.ownsRow.cells h (g:=g) rfl (j*4+k);have f:k<(Ee m).length:=b;rw[a0a f]at c |-;have:=e _ c;rw[add0]at this;exact this
end
section
variable {w w' w4:World} {a:Option Addr} {b cap cb g g0 j k k0 n n0:Nat} {B S:LN} {v vl vr vw:Value} {r:RR} {L:List LB} {M:List RM} {cur ahT:Array Value} {t:TypeId} {s0:LB} {e0:RX}
def uX(i:Nat)(r:RR):Bool:=(i==0)&&(r.d==0)&&r.ifs.isEmpty&&!r.on&&!(r.rc == [45])
def qY(i n:Nat)(r:RR):Bool:=decide (0<i)&&decide (0<r.d)&&decide (r.d<=n)
def pX:List RR->Nat->Nat->Nat
 | [],_,_=>0
 | r::R,i,n=>if (!(uX i r)&&!(qY i n r))||decide (5<r.d)||decide (16<=i) then i+2 else pX R (i+1) (r.d+1)
def uJ(R:List RR):Nat:=if R.isEmpty then 2 else pX R 0 0
def lN(L:List LB):List RR->Nat->Nat
 | [],_=>0
 | r::R,i=>if !(r.rc == [45])&&!(L.contains r.rc) then i+2 else lN L R (i+1)
def xh(L:List LB)(R:List RR):Nat × Nat :=
 if uJ R≠0 then (3,uJ R) else if mq [] L then (4,1) else if lN L R 0≠0 then (4,lN L R 0) else (0,0)
theorem LP.take {base:Nat}(h:LP base w (.slice a n cap) B)(d:Nat)(hd:d<=B.length):LP base w (.slice a d cap) (B.take d):=by
 have i:n=B.length:=by
  rcases h.2 with⟨e,o⟩|⟨g,c,cur,e,_⟩
  .simp at e;omega
  simp at e;exact e.2.1
 subst i;have b:min d B.length=d:=a2n hd;unfold LP at *;rw[a1k,b];refine⟨by simp[b],?_⟩;rcases h.2 with⟨e,o⟩|⟨g,c,cur,e,m,l,p,k,j,f⟩
 .grind
 simp at e;obtain⟨rfl,rfl⟩:=e;refine .inr ⟨g,cap,cur,rfl,m,l,by omega,k,j,?_⟩;rw[a1H]at f |-;rw[List.map_take,<-f,List.take_take,b]
theorem LP.aC {base:Nat}(h:LP base w v B)(f:aB S w w')(a:∀k,k∈S->k<base):LP base w' v B:=fG h f a
def IM(s:LN × (Nat->LN))(x:Nat × Nat):LN × (Nat->LN) :=
 (s.1.take x.2++[x.1],match (s.1.take x.2).getLast? with | none=>s.2|some u=>λk=>if k=u then s.2 k++[x.1] else s.2 k)
def sD(l:List (Nat × Nat)):LN × (Nat->LN):=l.foldl IM ([],λ_=>[])
def xd(X:List (Nat × iY × RR)):List (Nat × Nat):=X.map λx=>(x.1,x.2.2.d)
structure GI(w wr:World)(cb:Nat)(X:List (Nat × iY × RR))(K:Nat->Value)(C:Nat->LN)(B:LN)(vw:Value)(j:Nat):Prop where
 lt:∀x∈X,x.1<w.heap.size
 rb:∀x∈X,qz wr x.1 { x.2.1 with vk:=K x.1 }
 Oe:∀x∈X,(C x.1).length<=j/\LP w.heap.size wr (K x.1) (C x.1)
 sep:∀x∈X,∀y∈X,x.1≠y.1->∀g,(K x.1).ownBlock=some g->(K y.1).ownBlock≠some g
 TB:∀x∈X,∀g,(K x.1).ownBlock=some g->vw.ownBlock≠some g
 way:LP w.heap.size wr vw B
 abp:∀b∈B,∃x∈X,x.1=b
 aC:aB (cb::X.map (·.1)) w wr
def GI.TF{wr b:World} {X:List (Nat × iY × RR)} {K:Nat->Value} {C:Nat->LN}(h:GI w wr cb X K C B vw j)(f:aB [] wr b):GI w b cb X K C B vw j :=
 ⟨h.lt,λx a=>(h.rb x a).aC f (by simp),λx a=>by obtain⟨d,c⟩:=h.Oe x a;exact⟨d,fG c f (by simp)⟩,h.sep,h.TB,h.way.aC f (by simp),h.abp,h.aC.trans f.nil⟩
theorem GI.root{wr:World} {X:List (Nat × iY × RR)} {K:Nat->Value} {C:Nat->LN}(h:GI w wr cb X K C B vw j)(c:cb<w.heap.size)(b:∀x∈X,x.1≠cb)(v:Value):GI w (wr.setCell (zB cb 1) v) cb X K C B vw j:=by have f:aB [cb] wr (wr.setCell (zB cb 1) v):=zK.setCell (by simp) _;refine⟨h.lt,λx a=>(h.rb x a).aC f (by simpa using b x a),λx a=>?_,h.sep,h.TB,h.way.aC f (by simpa using c),h.abp,h.aC.setCell (by simp) _⟩;obtain⟨e,d⟩:=h.Oe x a;exact⟨e,fG d f (by simpa using c)⟩
def GI.cut{wr:World} {X:List (Nat × iY × RR)} {K:Nat->Value} {C:Nat->LN}(h:GI w wr cb X K C B (.slice a n cap) j)(d:Nat)(hd:d<=B.length):GI w wr cb X K C (B.take d) (.slice a d cap) j :=
 ⟨h.lt,h.rb,h.Oe,h.sep,λx c g e=>by have:=h.TB x c g e;cases a<;>simpa[Value.ownBlock] using this,h.way.take d hd,λb hb=>h.abp b (a3h hb),h.aC⟩
def GI.up{wr:World} {X:List (Nat × iY × RR)} {K:Nat->Value} {C:Nat->LN}(h:GI w wr cb X K C B vw j):GI w wr cb X K C B vw (j+1) :=
 ⟨h.lt,h.rb,λx a=>by obtain⟨c,b⟩:=h.Oe x a;exact⟨by omega,b⟩,h.sep,h.TB,h.way,h.abp,h.aC⟩
def GI.ahS{wr:World} {X:List (Nat × iY × RR)} {K:Nat->Value} {C:Nat->LN}(h:GI w wr cb X K C B vw j)(hb:∃x∈X,x.1=b)
 (i:wr.grownBy w4 vw.ownBlock) (ho:LP w.heap.size w4 (zS g n cap) (B++[b])) (d:vw.ownBlock=some g\/g=wr.heap.size):GI w w4 cb X K C (B++[b]) (zS g n cap) j:=by
 have F4:=aB.fo i;have o:∀k,vw.ownBlock=some k->w.heap.size<=k:=λk c=>(h.way.lt k c).1
 have q:∀x∈X,(K x.1).ownBlock=none\/(K x.1).ownBlock≠vw.ownBlock:=λx a=>by
  cases e:(K x.1).ownBlock with
  | none=>exact .inl rfl
  | some k=>exact .inr (λp=>h.TB x a k e p.symm)
 refine⟨h.lt,λx a=>(h.rb x a).aC F4 ?_,λx a=>?_,h.sep,λx a k c=>?_,ho,λb' f=>?_,h.aC.grown i (λk c=>.inr (o k c))⟩
 .rw[a0H]
  intro e;have:=o _ e;have:=h.lt x a;omega
 .obtain⟨m,l⟩:=h.Oe x a
  exact⟨m,World.ownsRow.kept l i (q x a)⟩
 .obtain⟨m,l⟩:=h.Oe x a
  have r:=l.lt k c;intro e;simp[Value.ownBlock]at e;subst e;rcases d with d|d
  .exact h.TB x a _ c d
  omega
 rw[a0e,a0w]at f;rcases f with f|rfl
 .exact h.abp b' f
 exact hb
theorem qz.kids {r:iY}(h:qz w b r)(v:Value):qz (w.setCell (zB b 7) v) b { r with vk:=v }:=by obtain⟨rc,ek,t0,t1,t2,iJ,on,vk,d,row⟩:=r;exact h.set 7 v _ rfl
def LP.au1 {base:Nat} {row:Option Nat}(h:LP base w v B)(a:w.grownBy w4 row)(b:v.ownBlock=none\/v.ownBlock≠row):LP base w4 v B:=World.ownsRow.kept h a b
def GI.aqk{wr:World} {X:List (Nat × iY × RR)} {K:Nat->Value} {C:Nat->LN}(h:GI w wr cb X K C B vw j) {x:Nat × iY × RR}(m:x∈X) {xs:List Value}(F:n<=j)(H:n=(C x.1).length)(E:xs=(C x.1++[b]).map tC)
 (s:wr.grownBy w4 (K x.1).ownBlock) (ho:w4.ownsRow w.heap.size 116 1 (zS g (n+1) cap) (n+1) xs) (d:(K x.1).ownBlock=some g\/g=wr.heap.size) :
 GI w (w4.setCell (zB x.1 7) (zS g (n+1) cap)) cb X (λb=>if b=x.1 then zS g (n+1) cap else K b) (λk=>if k=x.1 then C k++[b] else C k) B vw (j+1):=by
 have F4:=aB.fo s;obtain⟨_,t⟩:=h.Oe x m;have D:∀k,(K x.1).ownBlock=some k->w.heap.size<=k:=λk a=>(t.lt k a).1
 have f:∀u,aB [x.1] w4 (w4.setCell (zB x.1 7) u):=λu=>zK.setCell (by simp) _
 have r:=h.lt x m;have o:∀y∈X,qz w4 y.1 { y.2.1 with vk:=K y.1 }:=λy c=>(h.rb y c).aC F4 (by rw[a0H];intro e;have:=D _ e;have:=h.lt y c;omega)
 have p:∀y∈X,∀k,(K y.1).ownBlock=some k->k<wr.heap.size:=λy c k a=>by obtain⟨_,v⟩:=h.Oe y c;exact(v.lt k a).2
 refine⟨h.lt,λy c=>?_,λy c=>?_,λy c z hz q k a=>?_,λy c k a=>?_,?_,h.abp,?_⟩
 .by_cases e:y.1=x.1
  .simp only[e,a0G]
   have:=o y c;rw[e]at this;exact this.kids _
  simp only[e,a0I];exact(o y c).aC (f _) (by simpa using e)
 .by_cases e:y.1=x.1
  .grind [fG,LP]
  simp only[e,a0I];obtain⟨I,v⟩:=h.Oe y c;refine⟨by omega,fG (World.ownsRow.kept v s ?_) (f _) (by simpa using r)⟩;cases A:(K y.1).ownBlock with
  | none=>exact .inl rfl
  | some k=>exact .inr (λl=>h.sep y c x m e k A l.symm)
 .by_cases e:y.1=x.1
  .have l:z.1≠x.1:=λi=>q (e.trans i.symm)
   simp only[e,a0G,Value.ownBlock,Option.some.injEq]at a;subst a;simp only[l,a0I];intro i;rcases d with d|d
   .exact h.sep x m z hz (λG=>l G.symm) _ d i
   have:=p z hz _ i;omega
  simp only[e,a0I]at a
  by_cases l:z.1=x.1
  .simp only[l,a0G,Value.ownBlock,ne_eq,Option.some.injEq]
   intro i;subst i;rcases d with d|d
   .exact h.sep y c x m e _ a d
   have:=p y c _ a;omega
  simp only[l,a0I];exact h.sep y c z hz q k a
 .by_cases e:y.1=x.1
  .simp only[e,a0G,Value.ownBlock,Option.some.injEq]at a
   subst a;intro i;rcases d with d|d
   .exact h.TB x m _ d i
   have:=h.way.lt _ i;omega
  simp only[e,a0I]at a;exact h.TB y c k a
 .refine LP.aC (LP.au1 ?_ s ?_) (f _) (by simpa using r)
  .exact h.way
  cases A:vw.ownBlock with
  | none=>exact .inl rfl
  | some k=>exact .inr (λl=>h.TB x m k l.symm A)
 exact(h.aC.grown s (λk a=>.inr (D k a))).setCell (by simp;exact .inl (.inr ⟨_,_,m⟩)) _
def abq(l:LB):Option (List LB) :=
 if (((dU false 32 l).getD 0 []==mU)&&decide (1<(dU false 32 l).length)&&decide ((dU false 32 l).length<=9))&&((dU false 32 l).drop 1).all aJ then some ((dU false 32 l).drop 1) else none
def sO:List LB->Nat->List LB->List RR->Except Nat (List LB × List RR)
 | [],i,_,_=>.error (i+1)
 | [x],i,L,R=>if !(x.isEmpty)||i==0 then .error (i+1) else .ok (L,R)
 | x::y::W,i,L,R =>
   if i==0 then (match abq x with | none=>.error 1|some L'=>sO (y::W) 1 L' R)
   else (match yY x with | none=>.error (i+1)|some r=>sO (y::W) (i+1) L (R++[r]))
def sF(t:LB):Except (Nat × Nat) (List LB × List RR) :=
 if 1200<t.length then .error (1,0) else
 match sO (dU false 10 t) 0 [] [] with
 | .error n=>.error (2,n)
 | .ok (L,R)=>if (xh L R).1=0 then .ok (L,R) else .error (xh L R)
structure RdM(w w':World)(cb base:Nat)(vt:Value)(X:List (Nat × iY × RR)):Prop where
 lo:w.heap.size<=cb
 up:cb<base
 row:∀(i:Nat) x,X[i]?=some x->x.2.1.row=(i:Int)+2
 nd:(X.map (·.1)).Nodup
 gt:∀x∈X,base<=x.1
 root:vt=tC ((X.map (·.1)).getD 0 0)
 Oe:∀x∈X,LP base w' x.2.1.vk ((sD (xd X)).2 x.1)
def IQ(w:World)(e:Ending)(w':World):Except (Nat × Nat) (List LB × List RR)->Prop
 | .error (n,l)=>e=zQ #[.pointer none,zI n,zI l]
 | .ok (L,R)=>∃(cb base:Nat) (vr vt vl:Value) (X:List (Nat × iY × RR)),e=zQ #[tC cb,zI 0,zI 0]/\sw w' cb vr vt vl/\RS 0 w' vr L/\LP base w' vl (X.map (·.1))/\(∀x∈X,Dq base w' x.1 x.2.1 x.2.2)/\R=X.map (·.2.2)/\RdM w w' cb base vt X
theorem aql {a:Addr}(h:w.cell? a=some v):a.block<w.heap.size:=by
 by_cases b:a.block<w.heap.size
 .exact b
 simp[World.cell?,b]at h
def RS.atN {base:Nat}(h:RS base w v L)(f:aB S w w')(e:∀k∈S,v.ownBlock≠some k):RS base w' v L:=by obtain⟨a,cap,rfl,m,l,i⟩:=h;refine⟨a,cap,rfl,m,l,λj d=>?_⟩;obtain⟨g,off,rfl,hb,b⟩:=i j d;refine⟨g,off,rfl,hb,?_⟩;rw[f.cell (p:=(zB g (off+j))) (aql b) (λc=>e g c rfl)];exact b
def afD(w:World)(base:Nat)(S:LN):Prop:=∀k,k∈S->k<base\/∃cur a fz,w.heap[k]?=some (.cells cur a fz)/\a≠9/\a≠130
def Dq.awQ {base:Nat} {v:iY}(h:Dq base w b v r)(f:aB S w w')(hb:b∉S)(i:afD w base S):Dq base w' b v r :=
 ⟨h.at_.aC f hb,h.rc,jJ h.Im f (λk g=>(i k g).imp id (λ⟨a,b,c,d,e⟩=>⟨a,b,c,d,e.1⟩)),h.t0,h.t1,h.t2,jJ h.ifs f (λk g=>(i k g).imp id (λ⟨a,b,c,d,e⟩=>⟨a,b,c,d,e.2⟩)),h.on,h.d⟩
theorem Dq.base {base base':Nat} {v:iY}(h:Dq base w b v r)(hb:base'<=base):Dq base' w b v r :=
 ⟨h.at_,h.rc,wQ h.Im hb,h.t0,h.t1,h.t2,wQ h.ifs hb,h.on,h.d⟩
structure QI(w:World)(cb:Nat)(vr vl:Value)(L:List LB)(X:List (Nat × iY × RR)):Prop where
 rs:RS (cb+1) w vr L
 lp:LP (cb+1) w vl (X.map (·.1))
 rq:∀x∈X,Dq (cb+1) w x.1 x.2.1 x.2.2
 vk:∀x∈X,x.2.1.vk=zN
 gt:∀x∈X,cb<x.1
 row:∀(i:Nat) x,X[i]?=some x->x.2.1.row=(i:Int)+2
 nd:(X.map (·.1)).Nodup
 vrx:∀x∈X,vr.ownBlock≠some x.1
 vrb:vr.ownBlock≠some cb
 vrl:∀g,vr.ownBlock=some g->vl.ownBlock≠some g
 lt:∀x∈X,x.1<w.heap.size
 vrt:∀g,vr.ownBlock=some g->g<w.heap.size
def QI.TF {X:List (Nat × iY × RR)}(h:QI w cb vr vl L X)(f:aB [] w w'):QI w' cb vr vl L X :=
 ⟨h.rs.aC f (by simp),h.lp.aC f (by simp),λx a=>(h.rq x a).aC f (by simp) (by simp),h.vk,h.gt,h.row,h.nd,h.vrx,h.vrb,h.vrl,λx a=>a0t (h.lt x a) f.size,λg b=>a0t (h.vrt g b) f.size⟩
def QI.awR {X:List (Nat × iY × RR)}(h:QI w cb vr vl L X)(o:Nat)(v:Value):QI (w.setCell (zB cb o) v) cb vr vl L X:=by have f:aB [cb] w (w.setCell (zB cb o) v):=zK.setCell (by simp) _;refine⟨h.rs.aC f (by simp),h.lp.aC f (by simp),λx a=>(h.rq x a).aC f ?_ (by simp),h.vk,h.gt,h.row,h.nd,h.vrx,h.vrb,h.vrl,λx a=>a0t (h.lt x a) f.size,λg b=>a0t (h.vrt g b) f.size⟩;have:=h.gt x a;simp;omega
theorem QI.nil(w:World)(cb:Nat):QI w cb zN zN [] [] :=
 ⟨⟨none,0,rfl,by simp,by simp,by simp⟩,World.ownsRow_nil _ _ _ _,by simp,by simp,by simp,by simp,by simp,by simp,by simp[Value.ownBlock],by simp[Value.ownBlock],by simp,by simp[Value.ownBlock]⟩
theorem QI.snoc {X:List (Nat × iY × RR)}(h:QI w cb vr vl L X) {x:Nat × iY × RR}(s:Dq (cb+1) w x.1 x.2.1 x.2.2)(d:x.2.1.vk=zN)(z:x.2.1.row=(X.length:Int)+2)
 (m:∀y∈X,y.1<x.1) (r:cb<x.1) (j:vr.ownBlock≠some x.1) (A:vl.ownBlock≠some x.1) (u:w.grownBy w4 vl.ownBlock) (ho:LP (cb+1) w4 (zS g n cap) (X.map (·.1)++[x.1])) (f:vl.ownBlock=some g\/g=w.heap.size):QI w4 cb vr (zS g n cap) L (X++[x]):=by
 have F4:=aB.fo u;have l:∀k,vl.ownBlock=some k->∃cur fz,w.heap[k]?=some (.cells cur 116 fz):=λk d=>Ip h.lp k d
 have ap:afD w (cb+1) vl.ownBlock.toList:=λk d=>by grind
 have v:∀y:Nat × iY × RR,Dq (cb+1) w y.1 y.2.1 y.2.2->y.1∉vl.ownBlock.toList:=λy c o=>by rw[a0H]at o;obtain⟨cur,fz,e⟩:=l _ o;have:=c.at_;unfold qz at this;rw[e]at this;simp at this
 have all:∀y∈X++[x],Dq (cb+1) w y.1 y.2.1 y.2.2:=λy c=>by
  rw[a0e,a0w]at c;rcases c with c|rfl
  .exact h.rq y c
  exact s
 refine⟨h.rs.atN F4 (λk d=>?_),by rw[a0P];exact ho,λy c=>(all y c).awQ F4 (v y (all y c)) ap,λy c=>?_,λy c=>?_,λi y p=>?_,?_,λy c=>?_,h.vrb,λk d=>?_,λy c=>?_,λk d=>a0t (h.vrt k d) F4.size⟩
 .rw[a0H]at d
  exact λe=>h.vrl k e d
 .rw[a0e,a0w]at c
  rcases c with c|rfl
  .exact h.vk y c
  exact d
 .rw[a0e,a0w]at c
  rcases c with c|rfl
  .exact h.gt y c
  exact r
 .by_cases t:i<X.length
  .rw[a0s t]at p;exact h.row i y p
  grind
 .rw[a0P]
  refine List.nodup_append.2 ⟨h.nd,by simp,?_⟩;intro a q b hb e;simp at hb;rw[a0q]at q;obtain⟨y,c,rfl⟩:=q;have:=m y c;omega
 .rw[a0e,a0w]at c
  rcases c with c|rfl
  .exact h.vrx y c
  exact j
 .intro e
  simp only[Value.ownBlock,Option.some.injEq]at e;subst e;rcases f with f|f
  .exact h.vrl _ d f
  have:=h.vrt _ d;omega
 have:=(all y c).at_.lt;exact a0t this F4.size
def QI.kept {X:List (Nat × iY × RR)}(h:QI w cb vr vl L X)(f:aB (cb::X.map (·.1)) w w'):RS 0 w' vr L/\LP (cb+1) w' vl (X.map (·.1)):=by
 refine⟨(h.rs.atN f ?_).base (a1G _),jJ h.lp f ?_⟩
 .intro k a
  rw[a0l,a0q]at a;rcases a with rfl|⟨x,b,rfl⟩
  .exact h.vrb
  exact h.vrx x b
 intro k a;rw[a0l,a0q]at a;rcases a with rfl|⟨x,b,rfl⟩
 .grind
 exact .inr ⟨_,_,_,(h.rq x b).at_,by decide⟩
def QI.rqs {X:List (Nat × iY × RR)}(h:QI w cb vr vl L X)(f:aB (cb::X.map (·.1)) w w') {K:Nat->Value}(g:∀x∈X,qz w' x.1 { x.2.1 with vk:=K x.1 }):∀x∈X,Dq (cb+1) w' x.1 { x.2.1 with vk:=K x.1 } x.2.2:=by
 have ap:afD w (cb+1) (cb::X.map (·.1)):=λk g=>by
  rw[a0l,a0q]at g;rcases g with rfl|⟨x,i,rfl⟩
  .grind
  exact .inr ⟨_,_,_,(h.rq x i).at_,by decide,by decide⟩
 intro x i;have q:=h.rq x i;exact⟨g x i,q.rc,jJ q.Im f (λk g=>(ap k g).imp id (λ⟨a,b,c,d,e⟩=>⟨a,b,c,d,e.1⟩)),q.t0,q.t1,q.t2,jJ q.ifs f (λk g=>(ap k g).imp id (λ⟨a,b,c,d,e⟩=>⟨a,b,c,d,e.2⟩)),q.on,q.d⟩
def Ef(m:RM):Bool:=(m.2.1 == [61,126])||(m.2.1 == [33,126])
def Xj:List RM->Nat
 | []=>0
 | m::M=>if Ef m&&!(gH m.2.2==0) then gH m.2.2 else Xj M
def QA:List RR->Nat->Nat × Nat
 | [],_=>(0,0)
 | r::R,i=>if !(Xj r.ifs==0) then (Xj r.ifs,i+2) else QA R (i+1)
def Ls(w:World)(v:Value)(M:List RM)(D:Nat->Prop):Prop:=∃a cap,v=.slice a M.length cap/\M.length<=cap/\(M.length=0\/∃g cur,a=some (zA g)/\w.heap[g]?=some (.cells cur 130 (0,0)) /\
 ∀k m,M[k]?=some m->cur[k*4]?=some (zT m.1)/\cur[k*4+1]?=some (zT m.2.1)/\cur[k*4+2]?=some (zT m.2.2) /\
  ∃q:Option Addr,cur[k*4+3]?=some (.pointer q)/\(D k->Ef m=true->q≠none)/\(∀p,q=some p->∃n e,p=(zA n)/\fF m.2.2=some e/\RN w n (gW e)))
def Ls.of {base:Nat} {D:Nat->Prop}(h:VA base w v M)(q:∀k,¬ D k):Ls w v M D:=by
 have r:=h;rcases h.2 with⟨e,i⟩|⟨g,cap,cur,e,hb,b,l,u,t,ht⟩
 .exact⟨none,0,by rw[e,i],by omega,.inl i⟩
 subst e;refine⟨_,cap,rfl,l,.inr ⟨g,cur,rfl,b,λk m n=>?_⟩⟩;have c:∀o,o<4->cur[k*4+o]?=(Ee m)[o]?:=λo ho=>by have f:=flat_get Ee 4 (λa=>rfl) M k o m n ho;have s:o<(Ee m).length:=ho;rw[a0a s]at f |-;have d:=World.ownsRow.cells r (g:=g) rfl (k*4+o) _ f;rw[add0,cell_of_row w g _ cur _ _ b]at d;exact d
 refine⟨c 0 (by omega),c 1 (by omega),c 2 (by omega),none,c 3 (by omega),λhd=>absurd hd (q k),λp j=>by simp at j⟩
theorem Ls.aC {D:Nat->Prop}(h:Ls w v M D)(f:aB [] w w'):Ls w' v M D:=by
 obtain⟨a,cap,t,s,b⟩:=h;refine⟨a,cap,t,s,?_⟩;rcases b with b|⟨g,cur,e,c,j⟩
 .exact .inl b
 refine .inr ⟨g,cur,e,(f.block g (a0c.1 c).1 (by simp)).trans c,λk m i=>?_⟩;obtain⟨c0,c1,c2,q,c3,hd,hq⟩:=j k m i;refine⟨c0,c1,c2,q,c3,hd,λp d=>?_⟩;obtain⟨n,e,r,o,l⟩:=hq p d;exact⟨n,e,r,o,RN.aY (dX.of f) l⟩
theorem Ls.mono {D c:Nat->Prop}(h:Ls w v M D)(l:∀k m,M[k]?=some m->c k->Ef m=true->D k):Ls w v M c:=by
 obtain⟨a,cap,f,d,b⟩:=h;refine⟨a,cap,f,d,?_⟩;rcases b with b|⟨g,cur,e,j,i⟩
 .exact .inl b
 grind
def anq(a:w.heap[g]?=some (.cells cur 130 (0,0)))(o:Nat)(u:Value):dX w (w.setCell (zB g o) u) :=
 dX.aC (S:=[g]) (zK.setCell (by simp) _) (λb hb c fz e=>by simp at hb;subst hb;rw[a]at e;simp at e)
def afE(a:w.heap[g]?=some (.cells cur t (0,0)))(o:Nat)(u:Value):(w.setCell (zB g o) u).heap[g]?=some (.cells (cur.setIfInBounds o u) t (0,0)):=by simp[World.setCell,a0v,a]
def afF(o:Nat)(u:Value)(h:k≠g):(w.setCell (zB g o) u).heap[k]?=w.heap[k]?:=by simp[World.setCell,a0v,Ne.symm h]
theorem aqm {a b:LB}(h:(Value.string (bs a))=zT b):a=b:=by grind [aT]
theorem Ls.set {D:Nat->Prop}(h:Ls w v M D)(f:w.heap[g0]?=some (.cells ahT 130 (0,0)))
 (s:ahT[k0*4+2]?=some (zT s0)) (he:fF s0=some e0) (r:RN w n0 (gW e0)) :
 Ls (w.setCell (zB g0 (k0*4+3)) (zP n0)) v M (λk=>D k\/(v.ownBlock=some g0/\k=k0)):=by
 obtain⟨a,cap,rfl,n,e⟩:=h;refine⟨a,cap,rfl,n,?_⟩;rcases e with e|⟨g,cur,rfl,b,i⟩
 .exact .inl e
 have kp:=anq f (k0*4+3) (zP n0)
 by_cases c:g=g0
 .subst c
  rw[f]at b;simp at b;subst b;refine .inr ⟨g,_,rfl,afE f _ _,λk m d=>?_⟩;obtain⟨c0,c1,c2,q,c3,hd,hq⟩:=i k m d;refine⟨?_,?_,?_,?_⟩
  .grind
  .grind
  .grind
  by_cases l:k=k0
  .grind [aqm,RN.aY,RN]
  grind [hd,RN.aY,RN]
 refine .inr ⟨g,cur,rfl,(afF _ _ c).trans b,λk m d=>?_⟩;obtain⟨c0,c1,c2,q,c3,hd,hq⟩:=i k m d;refine⟨c0,c1,c2,q,c3,λh j=>?_,λp o=>?_⟩
 .rcases h with h|⟨h,_⟩
  .exact hd h j
  simp[Value.ownBlock]at h;exact absurd h c
 grind [RN.aY,RN]
def JN(w:World)(X:List (Nat × iY × RR))(P:Nat->Nat->Prop):Prop:=∀j x,X[j]?=some x->Ls w x.2.1.iJ x.2.2.ifs (P j)
theorem JN.aC {X:List (Nat × iY × RR)} {P:Nat->Nat->Prop}(h:JN w X P)(f:aB [] w w'):JN w' X P:=λj x a=>(h j x a).aC f
def QB(X:List (Nat × iY × RR)):LN:=X.filterMap λx=>x.2.1.iJ.ownBlock
def YW {base:Nat} {X:List (Nat × iY × RR)}(b:∀x∈X,Dq base w x.1 x.2.1 x.2.2)(a:k∈QB X):base<=k/\∃cur,w.heap[k]?=some (.cells cur 130 (0,0)):=by
 unfold QB at a;rw[List.mem_filterMap]at a;obtain⟨x,c,a⟩:=a;have h:=(b x c).ifs;rcases h.2 with⟨e,_⟩|⟨g,cap,cur,e,hb,d,_⟩
 .rw[e]at a;simp[Value.ownBlock]at a
 rw[e]at a;simp[Value.ownBlock]at a;subst a;exact⟨hb,cur,d⟩
def TI {base:Nat} {X:List (Nat × iY × RR)}(b:∀x∈X,Dq base w x.1 x.2.1 x.2.2) {fz:Nat × Nat}(h:w.heap[k]?=some (.cells cur t fz))(ht:t≠130):k∉QB X:=λd=>by obtain⟨_,c,a⟩:=YW b d;rw[h]at a;simp at a;exact ht a.2.1
theorem JN.set {X:List (Nat × iY × RR)} {P:Nat->Nat->Prop}(h:JN w X P){i:Nat} {d:Nat × iY × RR}(p:X[i]?=some d)(e:d.2.1.iJ.ownBlock=some g0)
 (q:w.heap[g0]?=some (.cells ahT 130 (0,0))) (l:ahT[k0*4+2]?=some (zT s0)) (he:fF s0=some e0) (f:RN w n0 (gW e0)) :
 JN (w.setCell (zB g0 (k0*4+3)) (zP n0)) X (λa c=>P a c\/(a=i/\c=k0)):=by
 intro j x b;refine((h j x b).set q l he f).mono ?_;intro k m s g r;rcases g with h|⟨o,n⟩
 .exact .inl h
 subst o;rw[p]at b;simp at b;subst b;exact .inr ⟨e,n⟩
def RxQ(w:World)(X:List (Nat × iY × RR))(e:Ending)(w':World):Prop :=
 e=zQ #[zI ((QA (X.map (·.2.2)) 0).1:Nat),zI ((QA (X.map (·.2.2)) 0).2:Nat)]/\aB (QB X) w w'/\((QA (X.map (·.2.2)) 0).1=0->JN w' X (λ_ _=>True))
def inF(M:List RM)(i:Nat)(rest:Nat × Nat):Nat × Nat:=if !(Xj M==0) then (Xj M,i+2) else rest
def anr(m:RM)(M:List RM)(i:Nat)(rest:Nat × Nat):inF (m::M) i rest=if Ef m&&!(gH m.2.2==0) then (gH m.2.2,i+2) else inF M i rest:=by
 unfold inF;rw[Xj];cases h:(Ef m&&!(gH m.2.2==0))
 .simp
 simp only[a0G];have:(gH m.2.2==0)=false:=by
  cases a:(gH m.2.2==0)
  .rfl
  rw[a]at h;simp at h
 rw[this];simp
theorem afG(cb base:Nat)(vr vt vl:Value)(X:List (Nat × iY × RR))(w:World)(hc:sw w cb vr vt vl)(hl:LP base w vl (X.map (·.1)))(hx:∀x∈X,Dq base w x.1 x.2.1 x.2.2)
 (iG:∀(i:Nat) x,X[i]?=some x->x.2.1.row=(i:Int)+2) (hX:X.length<=9000) (hi:∀x∈X,x.2.2.ifs.length<=1000/\∀m∈x.2.2.ifs,m.2.2.length<=40) :
 Calls Tryz.prog 22 #[tC cb] w (RxQ w X):=by
 have Bh:=aT;have k1:({ data:=#[61,126] }:ByteArray).toList=[61,126]:=aT _;have k2:({ data:=#[33,126] }:ByteArray).toList=[33,126]:=aT _;have Hc:=aj hc;have Hl:=aj hl;have Hx:=aj hx;have alR:=aj iG;have Hi:=aj hi;obtain⟨al,cl,Af⟩:=aW hl;rw[a0y]at Af;subst Af;have A0:Z_ (JN w X (λj _=>j<0)):=λj x hxj=>Ls.of (hx x (a0B hxj)).ifs (λk=>by omega)
 obtain⟨d,OJ⟩:∃d,QA (X.map (·.2.2)) 0=d:=⟨_,rfl⟩;have alS:=aj OJ;have TJ:Z_ (∀(e:Ending) (w':World),e=.returned (.tuple #[.int .i64 (d.1:Nat),.int .i64 (d.2:Nat)])->aB (QB X) w w'->(d.1=0->JN w' X (λ_ _=>True))->RxQ w X e w'):=by
  intro e w' G h2 p;unfold RxQ;rw[OJ];exact⟨G,h2,p⟩
 clear hc hl hx iG hi OJ;show Calls Tryz.prog 22 #[.pointer (some ⟨cb,0,none⟩)] w _;go_in
 go_wp2_with fail
 go_loopg [4] X.length (λk v4 wr=>∃(i:Nat),i+k=X.length/\v4=.int .i64 i/\aB (QB X) w wr/\JN wr X (λj _=>j<i)/\QA ((X.map (·.2.2)).drop i) i=d)
 case atStart=>exact⟨0,by omega,rfl,aB.refl _ _,A0,by rw[a2j];exact alS⟩
 case round =>
  clear A0 alS;obtain⟨i,Ku,rfl,B,ha,iD⟩:=hrel;have F:=aj B;have A:=aj ha;have GO:=aj iD;have c2:wr.cell? ⟨cb,2,none⟩=some (.slice al X.length cl):=(Hc.o.aC B (TI Hx.o Hc.o (by decide))).cell 2;have LR:=aj (jJ Hl.o B (λk hk=>.inr (by obtain⟨_,c,h⟩:=YW Hx.o hk;exact⟨c,_,_,h,by decide⟩)));obtain⟨go,Ty⟩:∃go,go=gk:=⟨_,rfl⟩;subst Ty;obtain⟨P,Vg⟩:∃P,P=wr:=⟨_,rfl⟩;subst Vg;clear B ha iD
  by_cases aL:i<X.length
  .obtain⟨x,z⟩:∃x,X[i]?=some x:=⟨X[i],a0a aL⟩
   have Dr:=a0B z;have t:=aj z;have yS:(X.map (·.1))[i]?=some x.1:=by rw[a0Q,z];rfl
   obtain⟨gl,ja,Lt⟩:∃g,al=some ⟨g,0,none⟩/\P.cell? ⟨g,i,none⟩=some (tC x.1):=by
    have h:=LR.o;rcases h.2 with⟨e,h0⟩|⟨g,cap,cur,e,hb,hg,rest⟩
    .rw[a0y]at h0;omega
    simp only[Value.slice.injEq]at e;obtain⟨rfl,_,rfl⟩:=e;refine⟨g,rfl,?_⟩;have p:=World.ownsRow.cells h (g:=g) rfl i (tC x.1) (by rw[a0Q,yS];rfl);rw[add0]at p;exact p
   subst ja;have T:=(Hx.o x Dr).at_;have xZ:Z_ (∀W,aB (QB X) w W->qz W x.1 x.2.1):=λW B=>T.aC B (TI Hx.o T (by decide))
   obtain⟨ai,ci,Io,hci,V⟩:=A.o i x z;have d5:P.cell? ⟨x.1,5,none⟩=some x.2.1.iJ:=(xZ.o P F).cell 5;rw[Io]at d5;obtain⟨M,hM⟩:∃M,x.2.2.ifs=M:=⟨_,rfl⟩;rw[hM]at d5 Io hci V;have N:=Hi.o x Dr;rw[hM]at N;obtain⟨nM,J⟩:∃n,n=M.length:=⟨_,rfl⟩;rw[<-J]at d5 Io hci V;have C:=aj J;have zX:nM<=1000:=by rw[J];exact N.1
   have awS:=aj N.2;have D:=aj Io;obtain⟨f,U⟩:∃r,QA ((X.map (·.2.2)).drop (i+1)) (i+1)=r:=⟨_,rfl⟩;have au3:=aj U;have HM:=aj hM;have G0:Z_ (inF (M.drop 0) i f=d):=by
    show _=_;have e:(X.map (·.2.2)).drop i=x.2.2::(X.map (·.2.2)).drop (i+1):=by
     rw[a0k (by simpa using aL)];have:=(a0d.1 z).2;simp[this]
    have:=GO.o;rw[e,QA,hM,U]at this;rw[a2j];exact this
   have A1:Z_ (JN P X (λa c=>a<i\/(a=i/\c<0))):=λa y s=>(A.o a y s).mono (λk m _ h _=>by
    rcases h with h|⟨_,h⟩
    .exact h
    omega)
   clear V J N Io U hM yS Dr z T LR GO A;obtain⟨b,hb⟩:∃b,b=x.1:=⟨_,rfl⟩;unfold tC at Lt;rw[<-hb]at Lt d5 xZ;have hB:=aj hb;clear hb;have DD:Z_ (∀W,aB (QB X) w W->W.cell? ⟨b,5,none⟩=some (.slice ai nM ci)/\W.cell? ⟨b,9,none⟩=some (.int .i64 ((i:Int)+2))):=by
    intro W B;refine⟨((xZ.o W B).cell 5).trans ?_,((xZ.o W B).cell 9).trans ?_⟩
    .rw[<-D.o];rfl
    have:=alR.o i x t;rw[<-this];rfl
   go_wp2_with fail
   go_loopg [6] nM (λk v6 wr=>∃(j:Nat),j+k=nM/\v6=.int .i64 j/\aB (QB X) w wr/\JN wr X (λa c=>a<i\/(a=i/\c<j))/\inF (M.drop j) i f=d)
   case atStart=>exact⟨0,by omega,rfl,F,A1,G0⟩
   case round =>
    clear A1 G0 F c2 Lt d5;obtain⟨j,lU,rfl,B,ha,iD⟩:=hrel;have F:=aj B;have A:=aj ha;have GO:=aj iD;obtain⟨d5,d9⟩:=DD.o wr B;clear B ha iD
    by_cases ng:j<nM
    .obtain⟨m,hm⟩:∃m,M[j]?=some m:=⟨M[j]'(by have:=C.o;omega),a0a (by have:=C.o;omega)⟩
     have Ez:=awS.o m (a0B hm);obtain⟨g,cur,L,hg,aO⟩:∃g cur,ai=some ⟨g,0,none⟩/\wr.heap[g]?=some (.cells cur 130 (0,0))/\(cur[j*4+1]?=some (.string (bs m.2.1))/\cur[j*4+2]?=some (.string (bs m.2.2))/\∃q:Option Addr,cur[j*4+3]?=some (.pointer q)):=by
      obtain⟨a',xK,e1,_,p⟩:=A.o i x t;rw[D.o,HM.o,<-C.o]at e1;simp only[Value.slice.injEq]at e1;rcases p with p|⟨g,cur,e2,h4,h5⟩
      .rw[HM.o]at p;have:=C.o;omega
      obtain⟨_,h6,h7,q,h8,_⟩:=h5 j m (by rw[HM.o];exact hm);exact⟨g,cur,e1.1.trans e2,h4,h6,h7,q,h8⟩
     subst L;obtain⟨k1',R,q,k3'⟩:=aO;have m1:wr.cell? ⟨g,j*4+1,none⟩=some (.string (bs m.2.1)):=by rw[cell_of_row wr g _ cur _ _ hg];exact k1'
     have m2:wr.cell? ⟨g,j*4+2,none⟩=some (.string (bs m.2.2)):=by rw[cell_of_row wr g _ cur _ _ hg];exact R
     have GS:=anr m (M.drop (j+1)) i f;have Yz:M.drop j=m::M.drop (j+1):=by
      have G:=(a0d.1 hm).1;rw[a0k G,(a0d.1 hm).2]
     rw[<-Yz,GO.o]at GS;have l:=aj GS;have HG:=aj hg;have K2:=aj R;have K3:=aj k3';have HMJ:=aj hm;have atO:=(a0c.1 hg).1;obtain⟨bK,sg,val⟩:=m;simp only at m1 m2 Ez K2 l;clear hm Yz GS GO hg k1' R k3';cases nC:(sg == [61,126])
     case false =>
      cases qj:(sg == [33,126])
      case false =>
       have u:Z_ (inF (M.drop (j+1)) i f=d):=by
        show _=_;have:=l.o;simp only[Ef,nC,qj,Bool.or_false,Bool.false_and,a0A,a0I]at this;exact this.symm
       have E:Z_ (JN wr X (λa c=>a<i\/(a=i/\c<j+1))):=λa y s=>(A.o a y s).mono (λk m' H h hr=>by
        rcases h with h|⟨G,h2⟩
        .exact .inl h
        refine .inr ⟨G,?_⟩;rcases a2a k j with p|p
        .exact p
        exfalso
        have hkj:k=j:=by omega
        subst hkj G;rw[t.o]at s;simp at s;subst s;rw[HM.o,HMJ.o]at H;simp at H;subst H;simp[Ef,nC,qj]at hr)
       clear l;go_wp2;go_roundg (gk-1)
       case measure=>omega
       case rel=>exact⟨j+1,by omega,by go_num,F,E,u⟩
      case true =>
       have S:Z_ (Ef (bK,sg,val)=true):=by show _=_;simp[Ef,nC,qj]
       have NR:=aj (Xg val wr Ez);go_wp2_with fail
       refine(NR.o).mono ?_;rintro e v ⟨O,q2,rfl,jk⟩;have F2:=aj (F.o.trans O.nil);have E:=aj (A.o.aC O);have Y:=aj jk;have I:v.heap[g]?=some (.cells cur 130 (0,0)):=(O.block g atO (by simp)).trans HG;have m3:v.cell? ⟨g,j*4+3,none⟩=some (.pointer q):=by rw[cell_of_row v g _ cur _ _ I];exact K3
       have z3:v.frozen? ⟨g,j*4+3,none⟩=false:=by simp[World.frozen?,I]
       have e9:=(DD.o v F2).2;have Z:=aj I;clear I O jk NR
       by_cases hz:gH val=0
       .obtain⟨x1,n1,CG,hq,uT⟩:=Y.o hz
        subst hq;have A3:=aj (E.o.set t.o (by rw[D.o];rfl) Z.o K2.o CG uT);have u:Z_ (inF (M.drop (j+1)) i f=d):=by
         show _=_;have:=l.o;rw[hz]at this;simp only[a3d,a2O,Bool.and_false,a0A,a0I]at this;exact this.symm
        have GM:Z_ (g∈QB X):=by
         show _∈_;unfold QB;exact List.mem_filterMap.2 ⟨x,a0B t,by rw[D.o];rfl⟩
        have A4:Z_ (JN (v.setCell ⟨g,j*4+3,none⟩ (.pointer (some ⟨n1,0,none⟩))) X (λa c=>a<i\/(a=i/\c<j+1))):=λa y s=>(A3.o a y s).mono (λk m' _ h _=>by
         rcases h with h|⟨G,h2⟩
         .exact .inl (.inl h)
         rcases a2a k j with p|p
         .exact .inl (.inr ⟨G,p⟩)
         exact .inr ⟨G,by omega⟩)
        rw[hz];clear l Y A3 E hz CG uT;go_wp2;go_roundg (gk-1)
        case measure=>omega
        case rel=>exact⟨j+1,by omega,by go_num,F2.o.setCell (.inl GM.o) _,A4,u⟩
       have u:Z_ (d=(gH val,i+2)):=by
        show _=_;have:=l.o;rw[S.o,a0j.2 hz]at this;exact this
       have bJ:((gH val:Int)==0)=false:=a0j.2 (by omega);have HZ:=aj hz;clear l Y E hz;generalize gH val=rc at *;go_wp2_with fail
       go_quiet (fail)
       go_wp2;go_ret2;refine TJ.o _ _ (by rw[u.o];rfl) (F2.o.drewN _) (λh=>?_);rw[u.o]at h;exact absurd h HZ
     case true =>
      have S:Z_ (Ef (bK,sg,val)=true):=by show _=_;simp[Ef,nC]
      have NR:=aj (Xg val wr Ez);go_wp2_with fail
      refine(NR.o).mono ?_;rintro e v ⟨O,q2,rfl,jk⟩;have F2:=aj (F.o.trans O.nil);have E:=aj (A.o.aC O);have Y:=aj jk;have I:v.heap[g]?=some (.cells cur 130 (0,0)):=(O.block g atO (by simp)).trans HG;have m3:v.cell? ⟨g,j*4+3,none⟩=some (.pointer q):=by rw[cell_of_row v g _ cur _ _ I];exact K3
      have z3:v.frozen? ⟨g,j*4+3,none⟩=false:=by simp[World.frozen?,I]
      have e9:=(DD.o v F2).2;have Z:=aj I;clear I O jk NR
      by_cases hz:gH val=0
      .obtain⟨x1,n1,CG,hq,uT⟩:=Y.o hz
       subst hq;have A3:=aj (E.o.set t.o (by rw[D.o];rfl) Z.o K2.o CG uT);have u:Z_ (inF (M.drop (j+1)) i f=d):=by
        show _=_;have:=l.o;rw[hz]at this;simp only[a3d,a2O,Bool.and_false,a0A,a0I]at this;exact this.symm
       have GM:Z_ (g∈QB X):=by
        show _∈_;unfold QB;exact List.mem_filterMap.2 ⟨x,a0B t,by rw[D.o];rfl⟩
       have A4:Z_ (JN (v.setCell ⟨g,j*4+3,none⟩ (.pointer (some ⟨n1,0,none⟩))) X (λa c=>a<i\/(a=i/\c<j+1))):=λa y s=>(A3.o a y s).mono (λk m' _ h _=>by
        rcases h with h|⟨G,h2⟩
        .exact .inl (.inl h)
        rcases a2a k j with p|p
        .exact .inl (.inr ⟨G,p⟩)
        exact .inr ⟨G,by omega⟩)
       rw[hz];clear l Y A3 E hz CG uT;go_wp2;go_roundg (gk-1)
       case measure=>omega
       case rel=>exact⟨j+1,by omega,by go_num,F2.o.setCell (.inl GM.o) _,A4,u⟩
      have u:Z_ (d=(gH val,i+2)):=by
       show _=_;have:=l.o;rw[S.o,a0j.2 hz]at this;exact this
      have bJ:((gH val:Int)==0)=false:=a0j.2 (by omega);have HZ:=aj hz;clear l Y E hz;generalize gH val=rc at *;go_wp2_with fail
      go_quiet (fail)
      go_wp2;go_ret2;refine TJ.o _ _ (by rw[u.o];rfl) (F2.o.drewN _) (λh=>?_);rw[u.o]at h;exact absurd h HZ
    have u:Z_ (f=d):=by
     show _=_;have:=GO.o;rw[a0i (by have:=C.o;omega)]at this;exact this
    have E:Z_ (JN wr X (λa _=>a<i+1)):=λa y s=>(A.o a y s).mono (λk m' H h hr=>by
     rcases a2a a i with p|p
     .exact .inl p
     have L:a=i:=by omega
     refine .inr ⟨L,?_⟩;subst L;rw[t.o]at s;simp at s;subst s;have:=(a0d.1 H).1;rw[HM.o]at this;have:=C.o;omega)
    go_wp2;go_roundg (go-1)
    case measure=>omega
    case rel=>exact⟨i+1,by omega,by go_num,F,E,by rw[au3.o];exact u⟩
  have u:Z_ (d=(0,0)):=by
   show _=_;rw[<-GO.o,a0i (by simp;omega)];rfl
  have E:Z_ (JN P X (λ_ _=>True)):=λa y s=>(A.o a y s).mono (λk m' _ _ _=>by
   have:=(a0d.1 s).1;omega)
  go_wp2;go_ret2;exact TJ.o _ _ (by rw[u.o];rfl) F.o (λ_=>E)
def Xq(l:LB)(w:World)(hl:l.length<=9000) :
 zF 40 #[zT l] w λe w'=>aqj w e w' (yY l)/\aB [] w w':=by
 have eG:=bL;have hx:=tF;have Bh:=aT;have k0:({ data:=#[] }:ByteArray).toList=[]:=aT _;have kM:qz (w.alloc (Obj.cells (iY.cells ⟨[],zN,-1,-1,-1,zN,false,zN,0,0⟩) 125)) w.heap.size ⟨[],zN,-1,-1,-1,zN,false,zN,0,0⟩:=bD _ _;have uh:=aj kM;clear kM;delta zF;go_in
 go_wp2_with fail
 go_loopg [0] l.length (λk vs wr=>∃(l':LB) (d:Nat),l'.length<=k/\d+l'.length<=l.length/\(bO l').1+d=(bO l).1/\(bO l').2=(bO l).2/\vs=zT l'/\qz wr w.heap.size ⟨[],zN,-1,-1,-1,zN,false,zN,d,0⟩/\aB [] w wr)
 case atStart=>exact⟨l,0,a0b _,by omega,by omega,rfl,rfl,uh,(aB.refl _ _).alloc _⟩
 case round =>
 clear uh;obtain⟨l',d,PW,Ih,gJ,ll,rfl,jW,bH⟩:=hrel;have Hd:=aj (And.intro gJ ll);have Hr:=aj jW;have Hf:=aj bH;clear gJ ll jW bH
 by_cases vB:∃r,l'=32::r
 ·obtain⟨r,rfl⟩:=vB
  have zt:(bs (32::r))[0]'(by rw[eG];simp)=32:=rfl;have bJ:((32::r:LB) == [])=false:=rfl;have c6:zC wr w.heap.size 8 (zI d):=Hr.o.cell 8;have f6:=Hr.o.fz 8;have Am:Z_ ((bO r).1+(d+1)=(bO l).1/\(bO r).2=(bO l).2):=by
   have:=Hd.o;rw[WN 32 r rfl]at this;exact⟨by have:=this.1;simp only at this;omega,this.2⟩
  simp only[a0r]at PW Ih;have hex:List.drop 1 (List.take (r.length+1) (32::r))=r:=by simp
  clear Hd;go_wp2;go_roundg (gk-1)
  case measure=>omega
  case rel=>exact⟨r,d+1,by omega,by omega,Am.o.1,Am.o.2,by simp,Hr.o.set 8 _ _ (by simp[iY.cells]),Hf.o.setCell (by simp) _⟩
 have Am:Z_ (d=(bO l).1/\l'=(bO l).2):=by
  have:=Hd.o;cases l' with
  | nil=>exact⟨by have:=this.1;simp[bO]at this;exact this,this.2⟩
  | cons c r =>
    have hc:(c==32)=false:=by
     rw[a0j];intro e;subst e;exact vB ⟨r,rfl⟩
    rw[aad c r hc]at this;exact⟨by simpa using this.1,by simpa using this.2⟩
 have ayF:l'.length<=9000:=by omega
 have HR:Z_ (yY l=rtW d (dU true 32 l')):=by show _=_;unfold yY;rw[<-Am.o.1,<-Am.o.2]
 have ayG:d<=9000:=by omega
 have au7:(l' == [])=true\/((l' == [])=false/\∃c,(∀h,(bs l')[0]'h=c)/\((c.toNat:Int)==32)=false):=by
  cases l' with
  | nil=>exact Or.inl rfl
  | cons c r =>
    refine Or.inr ⟨rfl,c,λ_=>rfl,?_⟩;rw[a0j];intro e;have:c=32:=a1w.1 (a2N.1 e);subst this;exact vB ⟨r,rfl⟩
 clear Hd Am vB Ih PW;have jE:=Hr.o.lt;have fin:∀(e:Ending) (w':World) (p:Option Addr),yY l=none->e=zQ #[.pointer p,.bool false]->aB [] w w'->aqj w e w' (yY l)/\aB [] w w':=by
  intro e w' p h1 h2 h3;rw[h1];exact⟨⟨p,h2⟩,h3⟩
 have Fin:=aj fin;clear fin;rcases au7 with he|⟨he,c,hc,hc32⟩
 ·have Vz:l'=[]:=by simpa using he
  subst Vz;have Hn:Z_ (yY l=none):=by show _=_;rw[HR.o];rfl
  go_wp2_with fail
  refine(Lj [] 32 true wr (by simp)).mono ?_;rintro e w2 ⟨v,rfl,hs,hf⟩;obtain⟨a,cap,rfl⟩:=hs.shape;have hlen:(dU true 32 []).length=1:=rfl;rw[hlen];have oF:=aj (Hf.o.trans hf);clear hs hf hlen;go_wp2;go_ret2;exact Fin.o _ _ _ Hn.o rfl oF
 have hlp:0<(bs l').size:=by
  rw[eG,a1O];intro e;rw[e]at he;cases he
 have Cm:(bs l')[0]'hlp=c:=hc hlp;clear hc;go_wp2_with fail
 refine(Lj l' 32 true wr (by omega)).mono ?_;rintro e w2 ⟨v,rfl,hs,hf⟩;have kG:=Lr true 32 l';generalize dU true 32 l'=W at *;obtain⟨hWx,hWl,hW1⟩:=kG;obtain⟨a,cap,rfl⟩:=hs.shape;have Hs:=aj ((hs.rs (by omega)).base (base':=w.heap.size+1) (by have:=Hr.o.lt;omega));have Hwl:Z_ (∀x∈W,x.length<=100000):=λx hx=>by have:=hWx x hx;omega
 have Ss:=aj (Hr.o.aC hf (by simp));have oF:=aj (Hf.o.trans hf);have gD:w.heap.size+1<=w2.heap.size:=by have:=Ss.o.lt;omega
 clear hs hf hWx Hr Hf Cm hc32 he hlp
 by_cases QK:W.length<2
 ·have Hn:Z_ (yY l=none):=by show _=_;rw[HR.o];unfold rtW;simp[QK]
  have ll:decide ((W.length:Int)<2)=true:=a0g (by omega);go_wp2;go_ret2;exact Fin.o _ _ _ Hn.o rfl oF
 have ll:decide ((W.length:Int)<2)=false:=a0f (by omega);obtain⟨g,off,ha,TA,_,hWc,aO⟩:=Hs.o.Ay (by omega);subst ha;have c0:zC w2 g off (zT (W.getD 0 [])):=aO 0 (by omega);have c1:zC w2 g (off+1) (zT (W.getD 1 [])):=aO 1 (by omega);have kR:({ data:=#[114,111,117,116,101] }:ByteArray).toList=Bn:=aT _;have k45:({ data:=#[45] }:ByteArray).toList=[45]:=aT _;have ayH:(W.getD 1 []).length<=100000:=Hwl.o _ (by rw[a0x,a0a (by omega)];exact a0u _);have tV:Z_ (yY l=if !(W.getD 0 []==Bn) then none
  else if !(aJ (W.getD 1 []))&&!(W.getD 1 [] == [45]) then none
  else match qX (W.drop 2) with
   | none=>none
   | some (told,names,W1)=>match nO 3 (-1,-1,-1) W1 with
     | none=>none
     | some (ts,W2)=>if (dO (W2.length+1) W2 []).2.2 then some ⟨W.getD 1 [],told,names,ts.1,ts.2.1,ts.2.2,(dO (W2.length+1) W2 []).1,(dO (W2.length+1) W2 []).2.1,d⟩ else none):=by
  show _=_;rw[HR.o];unfold rtW;rw[a0f QK];rfl
 clear aO HR;generalize W.getD 0 []=x0 at *;generalize W.getD 1 []=x1 at *;cases h0:(x0==Bn)
 ·have Hn:Z_ (yY l=none):=by show _=_;rw[tV.o,h0];rfl
  go_wp2;go_ret2;exact Fin.o _ _ _ Hn.o rfl oF
 have p0:zC w2 w.heap.size 0 (.string (bs [])):=Ss.o.cell 0;have pf:=Ss.o.fz 0;go_wp2_with fail
 refine(nH x1 _ (by omega)).mono ?_;rintro e w' ⟨rfl,rfl⟩;have Hr3:=aj (Ss.o.set 0 (zT x1) ⟨x1,zN,-1,-1,-1,zN,false,zN,d,0⟩ rfl);have Yn:=aj ((aB.refl [w.heap.size] w2).setCell (p:=(zA w.heap.size)) (by simp) (zT x1));generalize w2.setCell (zA w.heap.size) (zT x1)=w3 at *;have q0:zC w3 w.heap.size 0 (zT x1):=Hr3.o.cell 0;have PZ:Z_ (yY l=if !(aJ x1)&&!(x1 == [45]) then none
  else match qX (W.drop 2) with
   | none=>none
   | some (told,names,W1)=>match nO 3 (-1,-1,-1) W1 with
     | none=>none
     | some (ts,W2)=>if (dO (W2.length+1) W2 []).2.2 then some ⟨x1,told,names,ts.1,ts.2.1,ts.2.2,(dO (W2.length+1) W2 []).1,(dO (W2.length+1) W2 []).2.1,d⟩ else none):=by
  show _=_;rw[tV.o,h0];rfl
 clear tV c0 c1 p0 pf h0 Ss;go_upto_region 10 with fail
 go_cut [6,60] (λv6 vt wc=>wc=w3/\vt=.bool (!(aJ x1)&&!(x1 == [45])))
 case first =>
  cases UA:aJ x1
  ·cases h45:(x1 == [45])
   all_goals
    go_wp2;go_meet
    case rel=>exact⟨rfl,by rw[UA,h45];rfl⟩
  go_wp2;go_meet
  case rel=>exact⟨rfl,by rw[UA];rfl⟩
 case rest =>
 obtain⟨rfl,rfl⟩:=hcut;cases Ko:(!(aJ x1)&&!(x1 == [45]))
 case true =>
  have Hn:Z_ (yY l=none):=by show _=_;rw[PZ.o,Ko];rfl
  go_wp2;go_ret2;exact Fin.o _ _ _ Hn.o rfl (oF.o.new Yn.o (by simp))
 case false =>
 have HR4:=aj PZ;rw[Ko]at HR4;clear PZ Ko q0;go_upto_region 12 with fail
 have JM:=aj (Hs.o.drop2 2 (by omega));go_cut [5] (λvw w9=>w9=wc/\RS (w.heap.size+1) w2 vw (W.drop 2))
 case first =>
  by_cases oN:cap=2
  ·have Gh:RS (w.heap.size+1) w2 (.slice (some (zB g off)) (W.length-2) 0) (W.drop 2):=⟨some (zB g off),0,by simp,by simp;omega,by simp;omega,λj hj=>by simp at hj;omega⟩
   have su:=aj Gh;clear Gh;go_wp2;go_meet
   case rel=>exact⟨rfl,su⟩
  go_wp2;go_meet
  case rel=>exact⟨rfl,JM⟩
 case rest =>
 obtain⟨rfl,aqM⟩:=hcut;have atZ:∀x∈W.drop 2,x.length<=100000:=λx hx=>Hwl.o x (a1f hx)
 have aw4:(W.drop 2).length<=9001:=by simp;omega
 generalize W.drop 2=V at *;clear Hs JM Hwl hWl hW1 QK ll hWc TA;have abn:=aqM;obtain⟨a1,ag0,e1,_,hVc,_⟩:=abn;subst e1;have alW:=aj aqM;have abG:=aj atZ;clear aqM atZ;have kBY:({ data:=#[98,121] }:ByteArray).toList=wBy:=aT _;have aqN:=Yn.o;have SN:1<V.length->∃g off,a1=some (zB g off)/\zC wc g off (zT (V.getD 0 []))/\zC wc g (off+1) (zT (V.getD 1 []))/\(∀wx,aB [w.heap.size] w2 wx->zC wx g (off+1) (zT (V.getD 1 []))):=by
  intro h;obtain⟨g,off,ha,TA,_,_,aO⟩:=alW.o.Ay (by omega);have d0:=aO 0 (by omega);have d1:=aO 1 (by omega);have aL:=World.block_lt_of_cell? w2 _ d1;refine⟨g,off,ha,(aqN.cell (p:=(zB g off)) aL (by simp;omega)).trans d0,(aqN.cell (p:=(zB g (off+1))) aL (by simp;omega)).trans d1,λwx hwx=>(hwx.cell (p:=(zB g (off+1))) aL (by simp;omega)).trans d1⟩
 have afQ:=aj SN;clear SN aqN;go_upto_region 13 with fail
 go_cut [71] (λvt w9=>w9=wc/\vt=.bool (decide (1<V.length)&&(V.getD 0 []==wBy)))
 case first =>
  by_cases h1:1<V.length
  ·obtain⟨g,off,rfl,c0,c1,_⟩:=afQ.o h1
   have gJ:decide ((1:Int)<(V.length:Int))=true:=a0g (by omega);go_wp2;go_meet
   case rel=>exact⟨rfl,by rw[a0g h1];rfl⟩
  have gJ:decide ((1:Int)<(V.length:Int))=false:=a0f (by omega);go_wp2;go_meet
  case rel=>exact⟨rfl,by rw[a0f h1];rfl⟩
 case rest =>
 obtain⟨rfl,rfl⟩:=hcut;have k58:({ data:=#[58] }:ByteArray)=bs [58]:=rfl;have Il:w2.heap.size<=wc.heap.size:=Yn.o.size;go_upto_if 71 with fail
 go_cut [5,6,7,8] (λvw v6 v7 v8 w9=>∃(told:Bool) (names V1:List LB) (ek:Value),qX V=some (told,names,V1)/\V1.length<=9001/\(∀x∈V1,x.length<=100000)/\RS (w.heap.size+1) w2 vw V1/\qz w9 w.heap.size ⟨x1,ek,-1,-1,-1,zN,false,zN,d,0⟩/\SL w2.heap.size w9 ek (byW told names)/\aB [w.heap.size] w2 w9)
 case first =>
  cases xL:(decide (1<V.length)&&(V.getD 0 []==wBy))
  case false =>
   have Hb:Z_ (qX V=some (false,[],V)):=by show _=_;unfold qX;rw[xL];rfl
   go_wp2;go_meet
   case rel=>exact⟨false,[],V,zN,Hb,aw4,abG,alW,Hr3,SL.nil _ _,Yn⟩
  case true =>
  have h1:1<V.length:=by
   rw[a0O,a1E]at xL;exact xL.1
  obtain⟨g,off,rfl,c0,c1,cx⟩:=afQ.o h1;have Hcx:=aj cx;clear cx;have p1:zC wc w.heap.size 1 zN:=Hr3.o.cell 1;have pf:=Hr3.o.fz 1;have Tp:=Hr3.o.lt;have aqO:(V.getD 1 []).length<=100000:=abG.o _ (by rw[a0x,a0a h1];exact a0u _);have dw:Z_ (qX V=if V.getD 1 [] == [45] then some (true,[],V.drop 2)
   else if (dU false 44 (V.getD 1 [])).all aJ&&decide ((dU false 44 (V.getD 1 [])).length<=4) then some (true,Ed (dU false 44 (V.getD 1 [])),V.drop 2) else none):=by
   show _=_;unfold qX;rw[xL];rfl
  have JM:=aj (alW.o.drop2 2 (by omega));generalize V.getD 1 []=x2 at *;go_upto_region 15 with fail
  have Hrd:=aj ((Hr3.o.set 1 (zS wc.heap.size 1 1) ⟨x1,zS wc.heap.size 1 1,-1,-1,-1,zN,false,zN,d,0⟩ rfl).aC (S:=[]) ((aB.refl _ _).alloc (.cells #[.string (bs [58])] 9)) (by simp));have Fd:=aj ((Yn.o.setCell (p:=(zB w.heap.size 1)) (by simp) (zS wc.heap.size 1 1)).alloc (.cells #[.string (bs [58])] 9));have Hsd:Z_ (SL w2.heap.size ((wc.setCell (zB w.heap.size 1) (zS wc.heap.size 1 1)).alloc (.cells #[.string (bs [58])] 9)) (zS wc.heap.size 1 1) [[58]]):=by
   have:=World.ownsRow_lit (base:=w2.heap.size) (e:=9) (size:=1) (wc.setCell (zB w.heap.size 1) (zS wc.heap.size 1 1)) #[.string (bs [58])] 1 (by simp[World.setCell];exact Il) (by unfold maxLen;omega) (by simp);have e:(wc.setCell (zB w.heap.size 1) (zS wc.heap.size 1 1)).heap.size=wc.heap.size:=by simp[World.setCell]
   rw[e]at this;exact this
  generalize aw5:wc.heap.size=bb at *;generalize (wc.setCell (zB w.heap.size 1) (zS bb 1 1)).alloc (.cells #[.string (bs [58])] 9)=w5 at *;have c1':zC w5 g (off+1) (zT x2):=Hcx.o w5 Fd;have Fu:w2.heap.size<=w5.heap.size:=Fd.o.size;clear p1 pf c0 c1 aw5;have slc:∀(v5:Value) (w9:World),qz w9 w.heap.size ⟨x1,v5,-1,-1,-1,zN,false,zN,d,0⟩->True:=λ_ _ _=>trivial
  clear slc;cases h45:(x2 == [45])
  case true =>
   have Hb:Z_ (qX V=some (true,[],V.drop 2)):=by show _=_;rw[dw.o,h45];rfl
   by_cases oN:ag0=2
   ·have Gh:RS (w.heap.size+1) w2 (.slice (some (zB g off)) (V.length-2) 0) (V.drop 2):=⟨some (zB g off),0,by simp,by simp;omega,by simp;omega,λj hj=>by simp at hj;omega⟩
    have su:=aj Gh;clear Gh;go_wp2;go_meet
    case rel=>exact⟨true,[],V.drop 2,_,Hb,by simp;omega,λx hx=>abG.o x (a1f hx),su,Hrd,Hsd,Fd⟩
   go_wp2;go_meet
   case rel=>exact⟨true,[],V.drop 2,_,Hb,by simp;omega,λx hx=>abG.o x (a1f hx),JM,Hrd,Hsd,Fd⟩
  case false =>
  go_wp2_with fail
  refine(Lj x2 44 false w5 (by omega)).mono ?_;rintro e w6 ⟨v6,rfl,Mq,Fs⟩;have kG:=Lr false 44 x2;obtain⟨hNx,hNl,hN1⟩:=kG;have HNx:=aj hNx;have qK:Z_ (qX V=if (dU false 44 x2).all aJ&&decide ((dU false 44 x2).length<=4) then some (true,Ed (dU false 44 x2),V.drop 2) else none):=by
   show _=_;rw[dw.o,h45];rfl
  clear dw hNx h45;generalize dU false 44 x2=N at *;obtain⟨aN,ayI,rfl⟩:=Mq.shape;have HsN:=aj ((Mq.rs (by omega)).base (base':=0) (a1G _));have Hr6:=aj (Hrd.o.aC Fs (by simp));have Hs6:=aj (Hsd.o.aC Fs (by simp));have F6:=aj (Fd.o.trans Fs.nil);clear Mq Fs;have at0:Z_ (((N.all aJ&&decide (N.length<=4))=false)->yY l=none):=by
   intro h;rw[HR4.o,qK.o,h];rfl
  have hfw:Z_ (∀wx,aB [w.heap.size] w2 wx->aB [] w wx):=λwx h=>oF.o.new h (by simp)
  go_wp2_with fail
  go_loopg [6,8] N.length (λk v6 vi wr=>∃(j:Nat),j+k=N.length/\vi=zI j/\(N.take j).all aJ=true/\wr=w6)
  case atStart=>exact⟨0,by omega,rfl,by simp,rfl⟩
  case round =>
   obtain⟨j,hj,rfl,ja,hw6⟩:=hrel;subst hw6;have oL:=aj ja;clear ja
   by_cases aL:j<N.length
   ·obtain⟨a',xK,e,_,_,h3⟩:=HsN.o
    simp at e;obtain⟨e1,e2⟩:=e;subst e1 e2;obtain⟨gN,ayJ,h4,_,h6⟩:=h3 j aL;subst h4;clear h3;have hyl:=HNx.o _ (a0u aL);have Ht:Z_ (N.take (j+1)=N.take j++[N[j]]):=a0F aL;have Hm:Z_ (N[j]∈N):=a0u aL;generalize N[j]=y at *;go_wp2_with fail
    refine(nH y _ (by omega)).mono ?_;rintro e w' ⟨rfl,rfl⟩;cases hny:aJ y
    ·have Hn:Z_ (yY l=none):=at0.o (by
      have:N.all aJ=false:=by
       rw[a2p];intro ha;have:=a1d.1 ha y Hm;rw[hny]at this;cases this
      rw[this];rfl)
     go_wp2;go_ret2;exact Fin.o _ _ _ Hn.o rfl (hfw.o _ F6)
    have zu:Z_ ((N.take (j+1)).all aJ=true):=by
     show _=_;rw[Ht.o,a2c,oL.o];simp[hny]
    go_wp2;go_roundg (gk-1)
    case measure=>omega
    case rel=>exact⟨j+1,by omega,by go_num,zu,rfl⟩
   have adO:Z_ (N.all aJ=true):=by
    have:=oL.o;rw[a0C (by omega)]at this;exact this
   by_cases h4:4<N.length
   ·have Hn:Z_ (yY l=none):=at0.o (by rw[a0f (by omega)];simp)
    have hd4:decide ((4:Int)<(N.length:Int))=true:=a0g (by omega);go_wp2;go_ret2;exact Fin.o _ _ _ Hn.o rfl (hfw.o _ F6)
   have hd4:decide ((4:Int)<(N.length:Int))=false:=a0f (by omega);have Hb:Z_ (qX V=some (true,Ed N,V.drop 2)):=by
    show _=_;rw[qK.o,adO.o,a0g (by omega)];rfl
   have rJ:=anp N;obtain⟨ayK,aa0⟩:=rJ;have vB:=aa0 hN1;go_wp2_with fail
   refine(ahR _ N wr HsN.o (by omega)).mono ?_;rintro e w7 ⟨v7,rfl,hs7,Aj⟩;have Hr7:=aj (Hr6.o.aC Aj (by simp));have Hs7:=aj (Hs6.o.aC Aj (by simp));have F7:=aj (F6.o.trans Aj.nil);obtain⟨a7,c7,e7⟩:=hs7.shape;obtain⟨g7,hg7⟩:∃g7,a7=some (zA g7):=by
    rcases hs7.2 with⟨e,h⟩|⟨g,c,cur,e,_⟩
    ·omega
    rw[e7]at e;simp at e;exact⟨g,e.1⟩
   subst hg7 e7;have HN7:=aj hs7;have Nw:w2.heap.size<=w7.heap.size:=F7.o.size;have p1:zC w7 w.heap.size 1 (zS bb 1 1):=Hr7.o.cell 1;clear hs7 Aj;generalize Ed N=M at *;have Ko:=(Hs7.o.lt bb rfl).1
   by_cases oN:ag0=2
   ·have Gh:RS (w.heap.size+1) w2 (.slice (some (zB g off)) (V.length-2) 0) (V.drop 2):=⟨some (zB g off),0,by simp,by simp;omega,by simp;omega,λj hj=>by simp at hj;omega⟩
    have su:=aj Gh;clear Gh;go_wp2_with (first | (at_builtin;refine adW _ rfl _ _ rfl w2.heap.size wr.heap.size (zS bb 1 1) [[58]] M g7 c7 rfl Hs7.o rfl HN7.o (by omega) (by simp;omega) Nw ?_;intro gb Js w8 hs8 hg8 hb8;have Hs8:=aj hs8;have F78:=aB.Bt hg8;have Hr8:=aj (Hr7.o.aC F78 (by simp;omega));have F8:=aj (F7.o.grown hg8 (λk hk=>by simp[Value.ownBlock]at hk;omega));have p8:=Hr8.o.cell 1;have f8:=Hr8.o.fz 1;clear hs8 hg8 F78))
    go_meet
    case rel=>exact⟨true,M,V.drop 2,zS gb (1+M.length) Js,Hb,by simp;omega,λx hx=>abG.o x (a1f hx),su,Hr8.o.set 1 _ _ rfl,(Hs8.o.aC (S:=[w.heap.size]) ((aB.refl _ _).setCell (by simp) _) (by simp;omega)),F8.o.setCell (by simp) _⟩
   skip
   go_wp2_with (first | (at_builtin;refine adW _ rfl _ _ rfl w2.heap.size wr.heap.size (zS bb 1 1) [[58]] M g7 c7 rfl Hs7.o rfl HN7.o (by omega) (by simp;omega) Nw ?_;intro gb Js w8 hs8 hg8 hb8;have Hs8:=aj hs8;have F78:=aB.Bt hg8;have Hr8:=aj (Hr7.o.aC F78 (by simp;omega));have F8:=aj (F7.o.grown hg8 (λk hk=>by simp[Value.ownBlock]at hk;omega));have p8:=Hr8.o.cell 1;have f8:=Hr8.o.fz 1;clear hs8 hg8 F78))
   go_meet
   case rel=>exact⟨true,M,V.drop 2,zS gb (1+M.length) Js,Hb,by simp;omega,λx hx=>abG.o x (a1f hx),JM,Hr8.o.set 1 _ _ rfl,(Hs8.o.aC (S:=[w.heap.size]) ((aB.refl _ _).setCell (by simp) _) (by simp;omega)),F8.o.setCell (by simp) _⟩
 case rest =>
 obtain⟨told,names,V1,ek,nK,aw6,at1,yR,jW,rJ,hfc⟩:=hcut;have F:=aj hfc;have uW:=aj jW;have L9:=aj rJ;have IG:Z_ (yY l=match nO 3 (-1,-1,-1) V1 with
       | none=>none
       | some (ts,W2)=>if (dO (W2.length+1) W2 []).2.2 then some ⟨x1,told,names,ts.1,ts.2.1,ts.2.2,(dO (W2.length+1) W2 []).1,(dO (W2.length+1) W2 []).2.1,d⟩ else none):=by
  show _=_;rw[HR4.o,nK];rfl
 clear HR4 nK hfc jW rJ afQ alW abG Yn Hr3 Il;have kw0:({ data:=#[119,97,105,116] }:ByteArray)=bs Az:=rfl;have kw1:({ data:=#[101,118,101,114,121] }:ByteArray)=bs vQ:=rfl;have kw2:({ data:=#[114,101,112,101,97,116] }:ByteArray)=bs rW:=rfl;have at5:=bD wc (Obj.cells #[zT Az,zT vQ,zT rW] 9);have at6:=aj at5;have Il:w2.heap.size<=wc.heap.size:=F.o.size;have Frb:=aj (uW.o.aC (S:=[]) ((aB.refl _ _).alloc (Obj.cells #[zT Az,zT vQ,zT rW] 9)) (by simp));have Fsl:=aj (L9.o.aC (S:=[]) ((aB.refl _ _).alloc (Obj.cells #[zT Az,zT vQ,zT rW] 9)) (by simp));have FF:=aj (F.o.alloc (Obj.cells #[zT Az,zT vQ,zT rW] 9));clear at5 uW L9 F;have abn:=aj yR;have aqP:=aj at1;clear yR at1;go_wp2_with fail
 generalize aw7:wc.heap.size=bw at *;have ayL:w.heap.size<bw:=by omega
 clear aw7;go_loopg [5,10] 3 (λk vw vi wr=>∃(t0 t1 t2:Int) (W':List LB),k<=3/\vi=zI (3-k:Nat)/\W'.length<=9001/\(∀x∈W',x.length<=100000)/\RS (w.heap.size+1) w2 vw W'/\qz wr w.heap.size ⟨x1,ek,t0,t1,t2,zN,false,zN,d,0⟩/\SL w2.heap.size wr ek (byW told names)/\aB [w.heap.size] w2 wr/\wr.heap[bw]?=some (.cells #[zT Az,zT vQ,zT rW] 9 (0,0))/\nO k (t0,t1,t2) W'=nO 3 (-1,-1,-1) V1)
 case atStart=>exact⟨-1,-1,-1,V1,a0b _,rfl,aw6,aqP,abn,Frb,Fsl,FF,at6,rfl⟩
 case round =>
  clear Frb Fsl FF at6 abn aqP;obtain⟨t0,t1,t2,W',Vo,rfl,hWl,hwx,yR,jW,rJ,hf,ZU,htm⟩:=hrel;have JO:=aj hwx;have ED:=aj yR;have uW:=aj jW;have L9:=aj rJ;have F:=aj hf;have EK:=aj ZU;have Htm:=aj htm;have Jo:=jW.lt;obtain⟨aw,aqQ,ew,_,hWc,_⟩:=yR;subst ew;clear hwx jW rJ hf ZU htm;rcases(show gk=3\/gk=2\/gk=1\/gk=0 by omega) with rfl|rfl|rfl|rfl
  ·have q0:zC wr bw 0 (zT Az):=by simp[World.cell?,EK.o]
   have pt:zC wr w.heap.size 2 (zI t0):=uW.o.cell 2;have pf:=uW.o.fz 2;have dw:Z_ (nO 3 (-1,-1,-1) V1=if decide (1<W'.length)&&(W'.getD 0 []==Az) then
    (if decide (iR (W'.getD 1 [])<0) then none else nO 2 (iR (W'.getD 1 []),t1,t2) (W'.drop 2)) else nO 2 (t0,t1,t2) W'):=by
    show _=_;rw[<-Htm.o];rfl
   by_cases h1:1<W'.length
   case neg =>
    have gJ:decide ((1:Int)<(W'.length:Int))=false:=a0f (by omega);have Hx:Z_ (nO 2 (t0,t1,t2) W'=nO 3 (-1,-1,-1) V1):=by show _=_;rw[dw.o,a0f h1];rfl
    go_wp2;go_quiet (fail)
    go_wp2;go_roundg 2
    case measure=>omega
    case rel=>exact⟨t0,t1,t2,W',by omega,by go_num,hWl,JO,ED,uW,L9,F.o.drewN _,EK,Hx⟩
   case pos =>
   have gJ:decide ((1:Int)<(W'.length:Int))=true:=a0g (by omega);obtain⟨g,off,ha,TA,_,_,aO⟩:=ED.o.Ay (by omega);subst ha;have d0:=aO 0 (by omega);have d1:=aO 1 (by omega);have Xr:=World.block_lt_of_cell? w2 _ d1;have c0:zC wr g off (zT (W'.getD 0 [])):=(F.o.cell (p:=(zB g off)) Xr (by simp;omega)).trans d0;have c1:zC wr g (off+1) (zT (W'.getD 1 [])):=(F.o.cell (p:=(zB g (off+1))) Xr (by simp;omega)).trans d1;have aqO:(W'.getD 1 []).length<=100000:=JO.o _ (by rw[a0x,a0a h1];exact a0u _);have JM:=aj (ED.o.drop2 2 (by omega));clear aO d0 d1;generalize W'.getD 0 []=y0 at *;generalize W'.getD 1 []=y1 at *;cases hy:(y0==Az)
   case false =>
    have Hx:Z_ (nO 2 (t0,t1,t2) W'=nO 3 (-1,-1,-1) V1):=by show _=_;rw[dw.o,hy];simp
    go_wp2;go_quiet (fail)
    go_wp2;go_roundg 2
    case measure=>omega
    case rel=>exact⟨t0,t1,t2,W',by omega,by go_num,hWl,JO,ED,uW,L9,F.o.drewN _,EK,Hx⟩
   case true =>
   have qK:Z_ (nO 3 (-1,-1,-1) V1=if decide (iR y1<0) then none else nO 2 (iR y1,t1,t2) (W'.drop 2)):=by
    show _=_;rw[dw.o,hy,a0g h1];rfl
   generalize IX:iR y1=nn at *
   by_cases AV:nn<0
   ·have Lp:decide (nn<0)=true:=a0g AV
    have Hn:Z_ (yY l=none):=by show _=_;rw[IG.o,qK.o,Lp];rfl
    go_wp2;go_quiet (fail)
    go_wp2_with fail
    go_region_with (go_at_call 69;refine(mW y1 _ (by omega)).mono ?_;rintro e w' ⟨rfl,rfl⟩;rw[IX])
    go_wp2;go_ret2;exact Fin.o _ _ _ Hn.o rfl (oF.o.new ((F.o.drewN _).setCell (by simp) _) (by simp))
   have Lp:decide (nn<0)=false:=a0f AV;have Hx:Z_ (nO 2 (nn,t1,t2) (W'.drop 2)=nO 3 (-1,-1,-1) V1):=by
    show _=_;rw[qK.o,Lp];rfl
   by_cases oN:aqQ=2
   ·have Gh:RS (w.heap.size+1) w2 (.slice (some (zB g off)) (W'.length-2) 0) (W'.drop 2):=⟨some (zB g off),0,by simp,by simp;omega,by simp;omega,λj hj=>by simp at hj;omega⟩
    have su:=aj Gh;clear Gh;go_wp2;go_quiet (fail)
    go_wp2_with fail
    go_region_with (go_at_call 69;refine(mW y1 _ (by omega)).mono ?_;rintro e w' ⟨rfl,rfl⟩;rw[IX])
    go_wp2;go_roundg 2
    case measure=>omega
    case rel=>exact⟨nn,t1,t2,W'.drop 2,by omega,by go_num,by simp;omega,λx hx=>JO.o x (a1f hx),su,(uW.o.set 2 _ ⟨x1,ek,nn,t1,t2,zN,false,zN,d,0⟩ rfl),(L9.o.aC (S:=[w.heap.size]) (((aB.refl [w.heap.size] wr).drewN _).setCell (p:=(zB w.heap.size 2)) (by simp) (zI nn)) (by simp;omega)),(F.o.drewN _).setCell (by simp) _,(((aB.refl [w.heap.size] wr).setCell (p:=(zB w.heap.size 2)) (by simp) (zI nn)).block bw (a0c.1 EK).1 (by simp;omega)).trans EK,Hx⟩
   go_wp2;go_quiet (fail)
   go_wp2_with fail
   go_region_with (go_at_call 69;refine(mW y1 _ (by omega)).mono ?_;rintro e w' ⟨rfl,rfl⟩;rw[IX])
   go_wp2;go_roundg 2
   case measure=>omega
   case rel=>exact⟨nn,t1,t2,W'.drop 2,by omega,by go_num,by simp;omega,λx hx=>JO.o x (a1f hx),JM,(uW.o.set 2 _ ⟨x1,ek,nn,t1,t2,zN,false,zN,d,0⟩ rfl),(L9.o.aC (S:=[w.heap.size]) (((aB.refl [w.heap.size] wr).drewN _).setCell (p:=(zB w.heap.size 2)) (by simp) (zI nn)) (by simp;omega)),(F.o.drewN _).setCell (by simp) _,(((aB.refl [w.heap.size] wr).setCell (p:=(zB w.heap.size 2)) (by simp) (zI nn)).block bw (a0c.1 EK).1 (by simp;omega)).trans EK,Hx⟩
  ·have q0:zC wr bw 1 (zT vQ):=by simp[World.cell?,EK.o]
   have pt:zC wr w.heap.size 3 (zI t1):=uW.o.cell 3;have pf:=uW.o.fz 3;have dw:Z_ (nO 3 (-1,-1,-1) V1=if decide (1<W'.length)&&(W'.getD 0 []==vQ) then
    (if decide (iR (W'.getD 1 [])<0) then none else nO 1 (t0,iR (W'.getD 1 []),t2) (W'.drop 2)) else nO 1 (t0,t1,t2) W'):=by
    show _=_;rw[<-Htm.o];rfl
   by_cases h1:1<W'.length
   case neg =>
    have gJ:decide ((1:Int)<(W'.length:Int))=false:=a0f (by omega);have Hx:Z_ (nO 1 (t0,t1,t2) W'=nO 3 (-1,-1,-1) V1):=by show _=_;rw[dw.o,a0f h1];rfl
    go_wp2;go_quiet (fail)
    go_wp2;go_roundg 1
    case measure=>omega
    case rel=>exact⟨t0,t1,t2,W',by omega,by go_num,hWl,JO,ED,uW,L9,F.o.drewN _,EK,Hx⟩
   case pos =>
   have gJ:decide ((1:Int)<(W'.length:Int))=true:=a0g (by omega);obtain⟨g,off,ha,TA,_,_,aO⟩:=ED.o.Ay (by omega);subst ha;have d0:=aO 0 (by omega);have d1:=aO 1 (by omega);have Xr:=World.block_lt_of_cell? w2 _ d1;have c0:zC wr g off (zT (W'.getD 0 [])):=(F.o.cell (p:=(zB g off)) Xr (by simp;omega)).trans d0;have c1:zC wr g (off+1) (zT (W'.getD 1 [])):=(F.o.cell (p:=(zB g (off+1))) Xr (by simp;omega)).trans d1;have aqO:(W'.getD 1 []).length<=100000:=JO.o _ (by rw[a0x,a0a h1];exact a0u _);have JM:=aj (ED.o.drop2 2 (by omega));clear aO d0 d1;generalize W'.getD 0 []=y0 at *;generalize W'.getD 1 []=y1 at *;cases hy:(y0==vQ)
   case false =>
    have Hx:Z_ (nO 1 (t0,t1,t2) W'=nO 3 (-1,-1,-1) V1):=by show _=_;rw[dw.o,hy];simp
    go_wp2;go_quiet (fail)
    go_wp2;go_roundg 1
    case measure=>omega
    case rel=>exact⟨t0,t1,t2,W',by omega,by go_num,hWl,JO,ED,uW,L9,F.o.drewN _,EK,Hx⟩
   case true =>
   have qK:Z_ (nO 3 (-1,-1,-1) V1=if decide (iR y1<0) then none else nO 1 (t0,iR y1,t2) (W'.drop 2)):=by
    show _=_;rw[dw.o,hy,a0g h1];rfl
   generalize IX:iR y1=nn at *
   by_cases AV:nn<0
   ·have Lp:decide (nn<0)=true:=a0g AV
    have Hn:Z_ (yY l=none):=by show _=_;rw[IG.o,qK.o,Lp];rfl
    go_wp2;go_quiet (fail)
    go_wp2_with fail
    go_region_with (go_at_call 69;refine(mW y1 _ (by omega)).mono ?_;rintro e w' ⟨rfl,rfl⟩;rw[IX])
    go_wp2;go_ret2;exact Fin.o _ _ _ Hn.o rfl (oF.o.new ((F.o.drewN _).setCell (by simp) _) (by simp))
   have Lp:decide (nn<0)=false:=a0f AV;have Hx:Z_ (nO 1 (t0,nn,t2) (W'.drop 2)=nO 3 (-1,-1,-1) V1):=by
    show _=_;rw[qK.o,Lp];rfl
   by_cases oN:aqQ=2
   ·have Gh:RS (w.heap.size+1) w2 (.slice (some (zB g off)) (W'.length-2) 0) (W'.drop 2):=⟨some (zB g off),0,by simp,by simp;omega,by simp;omega,λj hj=>by simp at hj;omega⟩
    have su:=aj Gh;clear Gh;go_wp2;go_quiet (fail)
    go_wp2_with fail
    go_region_with (go_at_call 69;refine(mW y1 _ (by omega)).mono ?_;rintro e w' ⟨rfl,rfl⟩;rw[IX])
    go_wp2;go_roundg 1
    case measure=>omega
    case rel=>exact⟨t0,nn,t2,W'.drop 2,by omega,by go_num,by simp;omega,λx hx=>JO.o x (a1f hx),su,(uW.o.set 3 _ ⟨x1,ek,t0,nn,t2,zN,false,zN,d,0⟩ rfl),(L9.o.aC (S:=[w.heap.size]) (((aB.refl [w.heap.size] wr).drewN _).setCell (p:=(zB w.heap.size 3)) (by simp) (zI nn)) (by simp;omega)),(F.o.drewN _).setCell (by simp) _,(((aB.refl [w.heap.size] wr).setCell (p:=(zB w.heap.size 3)) (by simp) (zI nn)).block bw (a0c.1 EK).1 (by simp;omega)).trans EK,Hx⟩
   go_wp2;go_quiet (fail)
   go_wp2_with fail
   go_region_with (go_at_call 69;refine(mW y1 _ (by omega)).mono ?_;rintro e w' ⟨rfl,rfl⟩;rw[IX])
   go_wp2;go_roundg 1
   case measure=>omega
   case rel=>exact⟨t0,nn,t2,W'.drop 2,by omega,by go_num,by simp;omega,λx hx=>JO.o x (a1f hx),JM,(uW.o.set 3 _ ⟨x1,ek,t0,nn,t2,zN,false,zN,d,0⟩ rfl),(L9.o.aC (S:=[w.heap.size]) (((aB.refl [w.heap.size] wr).drewN _).setCell (p:=(zB w.heap.size 3)) (by simp) (zI nn)) (by simp;omega)),(F.o.drewN _).setCell (by simp) _,(((aB.refl [w.heap.size] wr).setCell (p:=(zB w.heap.size 3)) (by simp) (zI nn)).block bw (a0c.1 EK).1 (by simp;omega)).trans EK,Hx⟩
  ·have q0:zC wr bw 2 (zT rW):=by simp[World.cell?,EK.o]
   have pt:zC wr w.heap.size 4 (zI t2):=uW.o.cell 4;have pf:=uW.o.fz 4;have dw:Z_ (nO 3 (-1,-1,-1) V1=if decide (1<W'.length)&&(W'.getD 0 []==rW) then
    (if decide (iR (W'.getD 1 [])<0) then none else nO 0 (t0,t1,iR (W'.getD 1 [])) (W'.drop 2)) else nO 0 (t0,t1,t2) W'):=by
    show _=_;rw[<-Htm.o];rfl
   by_cases h1:1<W'.length
   case neg =>
    have gJ:decide ((1:Int)<(W'.length:Int))=false:=a0f (by omega);have Hx:Z_ (nO 0 (t0,t1,t2) W'=nO 3 (-1,-1,-1) V1):=by show _=_;rw[dw.o,a0f h1];rfl
    go_wp2;go_quiet (fail)
    go_wp2;go_roundg 0
    case measure=>omega
    case rel=>exact⟨t0,t1,t2,W',by omega,by go_num,hWl,JO,ED,uW,L9,F.o.drewN _,EK,Hx⟩
   case pos =>
   have gJ:decide ((1:Int)<(W'.length:Int))=true:=a0g (by omega);obtain⟨g,off,ha,TA,_,_,aO⟩:=ED.o.Ay (by omega);subst ha;have d0:=aO 0 (by omega);have d1:=aO 1 (by omega);have Xr:=World.block_lt_of_cell? w2 _ d1;have c0:zC wr g off (zT (W'.getD 0 [])):=(F.o.cell (p:=(zB g off)) Xr (by simp;omega)).trans d0;have c1:zC wr g (off+1) (zT (W'.getD 1 [])):=(F.o.cell (p:=(zB g (off+1))) Xr (by simp;omega)).trans d1;have aqO:(W'.getD 1 []).length<=100000:=JO.o _ (by rw[a0x,a0a h1];exact a0u _);have JM:=aj (ED.o.drop2 2 (by omega));clear aO d0 d1;generalize W'.getD 0 []=y0 at *;generalize W'.getD 1 []=y1 at *;cases hy:(y0==rW)
   case false =>
    have Hx:Z_ (nO 0 (t0,t1,t2) W'=nO 3 (-1,-1,-1) V1):=by show _=_;rw[dw.o,hy];simp
    go_wp2;go_quiet (fail)
    go_wp2;go_roundg 0
    case measure=>omega
    case rel=>exact⟨t0,t1,t2,W',by omega,by go_num,hWl,JO,ED,uW,L9,F.o.drewN _,EK,Hx⟩
   case true =>
   have qK:Z_ (nO 3 (-1,-1,-1) V1=if decide (iR y1<0) then none else nO 0 (t0,t1,iR y1) (W'.drop 2)):=by
    show _=_;rw[dw.o,hy,a0g h1];rfl
   generalize IX:iR y1=nn at *
   by_cases AV:nn<0
   ·have Lp:decide (nn<0)=true:=a0g AV
    have Hn:Z_ (yY l=none):=by show _=_;rw[IG.o,qK.o,Lp];rfl
    go_wp2;go_quiet (fail)
    go_wp2_with fail
    go_region_with (go_at_call 69;refine(mW y1 _ (by omega)).mono ?_;rintro e w' ⟨rfl,rfl⟩;rw[IX])
    go_wp2;go_ret2;exact Fin.o _ _ _ Hn.o rfl (oF.o.new ((F.o.drewN _).setCell (by simp) _) (by simp))
   have Lp:decide (nn<0)=false:=a0f AV;have Hx:Z_ (nO 0 (t0,t1,nn) (W'.drop 2)=nO 3 (-1,-1,-1) V1):=by
    show _=_;rw[qK.o,Lp];rfl
   by_cases oN:aqQ=2
   ·have Gh:RS (w.heap.size+1) w2 (.slice (some (zB g off)) (W'.length-2) 0) (W'.drop 2):=⟨some (zB g off),0,by simp,by simp;omega,by simp;omega,λj hj=>by simp at hj;omega⟩
    have su:=aj Gh;clear Gh;go_wp2;go_quiet (fail)
    go_wp2_with fail
    go_region_with (go_at_call 69;refine(mW y1 _ (by omega)).mono ?_;rintro e w' ⟨rfl,rfl⟩;rw[IX])
    go_wp2;go_roundg 0
    case measure=>omega
    case rel=>exact⟨t0,t1,nn,W'.drop 2,by omega,by go_num,by simp;omega,λx hx=>JO.o x (a1f hx),su,(uW.o.set 4 _ ⟨x1,ek,t0,t1,nn,zN,false,zN,d,0⟩ rfl),(L9.o.aC (S:=[w.heap.size]) (((aB.refl [w.heap.size] wr).drewN _).setCell (p:=(zB w.heap.size 4)) (by simp) (zI nn)) (by simp;omega)),(F.o.drewN _).setCell (by simp) _,(((aB.refl [w.heap.size] wr).setCell (p:=(zB w.heap.size 4)) (by simp) (zI nn)).block bw (a0c.1 EK).1 (by simp;omega)).trans EK,Hx⟩
   go_wp2;go_quiet (fail)
   go_wp2_with fail
   go_region_with (go_at_call 69;refine(mW y1 _ (by omega)).mono ?_;rintro e w' ⟨rfl,rfl⟩;rw[IX])
   go_wp2;go_roundg 0
   case measure=>omega
   case rel=>exact⟨t0,t1,nn,W'.drop 2,by omega,by go_num,by simp;omega,λx hx=>JO.o x (a1f hx),JM,(uW.o.set 4 _ ⟨x1,ek,t0,t1,nn,zN,false,zN,d,0⟩ rfl),(L9.o.aC (S:=[w.heap.size]) (((aB.refl [w.heap.size] wr).drewN _).setCell (p:=(zB w.heap.size 4)) (by simp) (zI nn)) (by simp;omega)),(F.o.drewN _).setCell (by simp) _,(((aB.refl [w.heap.size] wr).setCell (p:=(zB w.heap.size 4)) (by simp) (zI nn)).block bw (a0c.1 EK).1 (by simp;omega)).trans EK,Hx⟩
  have HR6:Z_ (yY l=if (dO (W'.length+1) W' []).2.2 then some ⟨x1,told,names,t0,t1,t2,(dO (W'.length+1) W' []).1,(dO (W'.length+1) W' []).2.1,d⟩ else none):=by
   show _=_;rw[IG.o,<-Htm.o];rfl
  clear IG;have aw8:=aj (ED.o.aC F.o (by simp));go_wp2_with fail
  refine(ano w.heap.size (w.heap.size+1) _ W' ⟨x1,ek,t0,t1,t2,zN,false,zN,d,0⟩ wr uW.o aw8.o (by omega) rfl rfl (by omega) JO).mono ?_;rintro e w' ⟨rfl,⟨vi',E4,hi'⟩,hf'⟩;have Hb':=aj E4;have Hi':=aj hi';have F':=aj hf';have hzr:w.heap.size<=wr.heap.size:=by omega
  clear E4 hi' hf';generalize dO (W'.length+1) W' []=RES at *;obtain⟨ra,ro,rk⟩:=RES;go_wp2;go_ret2;have hF:aB [] w w':=oF.o.new (F.o.trans F') (by simp);refine⟨?_,hF⟩;rw[HR6.o];cases rk with
  | false=>exact⟨_,rfl⟩
  | true=>exact⟨w.heap.size,_,a0b _,rfl,⟨Hb',rfl,wQ (L9.o.aC F'.o (by simp;omega)) (by omega),rfl,rfl,rfl,wQ Hi'.o hzr,rfl,rfl,rfl,rfl⟩⟩
end
end Go.Proofs.YtedmellodofajaaGreatDoor
