import Derived.Test.YtgbdcmpmmkfbhaaGreatJ14
import Derived.Test.YtgbdcmpmmkfbhaaGreatJ7
import Derived.Test.YtgbdcmpmmkfbhaaGreatJ1
set_option linter.unusedVariables false
set_option linter.unusedSimpArgs false
set_option linter.unnecessarySimpa false
set_option maxRecDepth 100000
set_option maxHeartbeats 8000000
namespace Go.Proofs.YtgbdcmpmmkfbhaaGreat
variable {r t:LB} {x:RX} {w:World} {b cap g n rb:Nat} {S:LN} {xs:List LB}
open Go.RowKit
def RgQ(w:World)(t:LB)(en:Ending)(w':World):Prop :=
 aA [] w w'/\∃q:Option Addr,en=.returned (.tuple #[.pointer q,.int .i64 (jC t)])/\(jC t=0->∃x n,fD t=some x/\q=some ⟨n,0,none⟩/\RN w' n (jl x))
theorem abh(h:gX (4*t.length+4) 0 [] t=none):fD t=none:=by unfold fD;rw[h]
theorem abj {c:UInt8}(h:gX (4*t.length+4) 0 [] t=some (x,c::r)):fD t=none:=by unfold fD;rw[h]
theorem abk(h:gX (4*t.length+4) 0 [] t=some (x,[])):fD t=some x:=by unfold fD;rw[h]
theorem Rk(t:LB)(w:World)(ht:t.length<=40):Calls Tryz.prog 22 #[.string (bs t)] w (RgQ w t):=by
 have EM:=bg;have k0:({ data:=#[] }:ByteArray).toList=[]:=bg _;have H1:QP (w.alloc (.cells #[.string (bs t),.bool true] 116)) w.heap.size t true:=⟨bK _ _,by omega⟩;have FA:Z_ (aA [] w (w.alloc (.cells #[.string (bs t),.bool true] 116))):=(aA.refl _ _).alloc _;have C0:=aj ((aaM (4*t.length+4)).1 w.heap.size 0 t _ H1 (by omega) (a0a _));clear H1;go_enter Tryz.func22,Tryz.ntmps22
 go_wp2_with fail
 refine(C0.o).mono ?_;rintro e w1 ⟨q,r,ok,rfl,hp,hf,hd⟩;have c0:=hp.c0;have c1:=hp.c1;have F1:Z_ (aA [] w w1):=FA.o.above hf (by intro x hx;simp at hx;omega);have HD:=aj hd;clear hp hf hd C0 FA;cases ok
 case false =>
  have qQ:Z_ (jC t=5):=by
   show _=_;rcases HD.o with⟨h,_⟩|⟨_,h⟩
   ·cases h
   simp[jC,abh h]
  clear HD;go_wp2;go_ret2;exact⟨F1,none,by rw[qQ.o];rfl,λh=>by rw[qQ.o]at h;simp at h⟩
 case true =>
  obtain⟨y,n,hy,hq,hn⟩:∃y n,gX (4*t.length+4) 0 [] t=some (y,r)/\q=some ⟨n,0,none⟩/\RN w1 n (jl y):=by
   rcases HD.o with⟨_,h⟩|⟨h,_⟩
   ·exact h
   cases h
  clear HD;subst hq;cases r with
  | cons c r =>
    have qQ:Z_ (jC t=5):=by show _=_;simp[jC,abj hy]
    have bL:((c::r) == [])=false:=rfl;clear hy hn;go_wp2;go_ret2;exact⟨F1,none,by rw[qQ.o];rfl,λh=>by rw[qQ.o]at h;simp at h⟩
  | nil =>
    have zK:=abk hy;obtain⟨jT,Uy⟩:=yz zK;have hdg:=Fy zK;have O0:=NC zK;have YD:=aj zK;have HN:=aj hn;have PL:=aj (rA (jl y) w1 n hn (MF y hdg));have PS:=nN (jl y);rw[Mo]at PS;have aqR:(je (jl y)).1<=41:=PS.1;have HPS:=aj PS.2;have e0:bs ([]:LB)=⟨#[]⟩:=rfl;rw[e0]at c0;clear hy hn PS zK;go_wp2_with fail
    refine(PL.o).mono ?_;rintro e w2 ⟨rfl,rfl⟩
    by_cases pY:40<dx y
    ·have qQ:Z_ (jC t=6):=by show _=_;simp[jC,YD.o,pY]
     have h2:=HPS.o.2 pY;rw[h2];clear PL;generalize (je (jl y)).1=pn at *;go_wp2;go_ret2;exact⟨F1,none,by rw[qQ.o];rfl,λh=>by rw[qQ.o]at h;simp at h⟩
    have agb:dx y<=40:=by omega
    have h2:=HPS.o.1 agb;rw[h2];have HRC:Z_ (jC t=if (kX y).1 then 0 else 7):=by show _=_;simp[jC,YD.o,pY]
    have BB:=aj (YB w1 n (jl y) (bn y) (CJ y) HN.o (by rw[yX];omega) ⟨y,jT,hdg,agb,by omega,rfl⟩ (Cf y jT) (by rw[yX];rfl) (λu c hu=>ahj YD.o ht agb u hu c));clear PL h2;generalize dx y=pn at *;go_wp2_with fail
    refine(BB.o).mono ?_;rintro e w3 ⟨m,rfl,hm,UN,bZ⟩;have F3:=aj (F1.o.trans bZ);have HMI:=aj UN;have N3:=aj (RN.aW (eU.of bZ) HN);clear UN bZ BB
    by_cases Bg:40<m
    ·have qQ:Z_ (jC t=7):=by
      show _=_;have:=HMI.o.1 Bg;rw[HRC.o];unfold kX;rw[this];rfl
     go_wp2;go_ret2;exact⟨F3,none,by rw[qQ.o];rfl,λh=>by rw[qQ.o]at h;simp at h⟩
    have qQ:Z_ (jC t=0):=by
     show _=_;have:(qR (bn y) (CJ y)).1=true:=by
      cases hh:(qR (bn y) (CJ y)).1
      ·exact absurd (HMI.o.2 hh) Bg
      rfl
     rw[HRC.o];unfold kX;rw[this];rfl
    have aqS:m<=40:=by omega
    go_wp2;go_ret2;exact⟨F3,_,by rw[qQ.o];rfl,λ_=>⟨y,n,YD,rfl,N3⟩⟩
theorem Rm:∀(l:LB) (c:UInt8) (n:Int),l.all lI=true->lI c=true->yc (l++[c]) n=10*yc l n+c.toNat-48
 | [],c,n,_,hc=>by simp[yc,show kr c.toNat=true from hc]
 | x::r,c,n,hl,hc=>by
   simp only[a1Q,a0N]at hl;have hx:kr x.toNat=true:=hl.1;simp only[a0J,yc,hx,a0C];exact Rm r c _ hl.2 hc
theorem ll(l:LB)(w:World)(hl:l.length<=1048576) :
 Calls Tryz.prog 36 #[.string (bs l)] w λe w'=>e=.returned (.int .i64 (fZ l))/\w=w':=by
 have fM:=bS l;have EM:=bg;have k0:({ data:=#[] }:ByteArray).toList=[]:=bg [];have k48:({ data:=#[48] }:ByteArray).toList=[48]:=bg [48];go_enter Tryz.func36,Tryz.ntmps36
 go_wp2;go_loopg [3,4] l.length (λk vn i wr=>∃(j:Nat) (x:Int),j+k=l.length/\i=.int .i64 j/\vn=.int .i64 x/\x=yc (l.take j) 0/\0<=x/\x+1<=10 ^ j/\(l.take j).all lI=true/\(0<j->l.length<=5)/\wr=w)
 case atStart=>exact⟨0,0,by omega,rfl,rfl,rfl,by omega,by simp,by simp,by omega,rfl⟩
 case round =>
  obtain⟨j,x,hj,rfl,rfl,hx,hx0,hx1,ja,h5,hw⟩:=hrel;subst hw;have Hx:=aj hx;have mi:=aj ja;have H5:=aj h5;have hxb:l.length<=5->x<=99999:=by
   intro h;have:(10:Int) ^ j<=10 ^ 5:=by
    have:j<=5:=by omega
    rcases(show j=0\/j=1\/j=2\/j=3\/j=4\/j=5 by omega) with rfl|rfl|rfl|rfl|rfl|rfl<;>decide
   have:(10:Int) ^ 5=100000:=by decide
   omega
  have Hxb:=aj hxb;have Hx1:=aj hx1;clear hx ja h5 hxb hx1
  by_cases aO:j<l.length
  ·have zS:(bs l)[j]'(by rw[fM];omega)=l[j]:=rfl
   have Ht:Z_ (l.take (j+1)=l.take j++[l[j]]):=a0I aO;have Hm:Z_ (l[j]∈l):=a0z aO;have ry:l.isEmpty=false:=by
    cases l with
    | nil=>exact absurd aO (Nat.not_lt_zero _)
    | cons=>rfl
   generalize l[j]=c at *;have hu:=u8i c;go_wp2_with fail
   refine(tN c uT _ (by decide)).mono ?_;rintro e w' ⟨rfl,rfl⟩;have Hdg:=aj (J8 c)
   by_cases h5:5<l.length
   ·have hg:Z_ (fZ l=-1):=by
     show _=_;unfold fZ;rw[ry];simp[h5]
    have h5':decide ((5:Int)<(l.length:Int))=true:=a0h (by omega);cases iH:mo uT c
    all_goals
     go_wp2;go_ret;exact⟨kU hg.o.symm,rfl⟩
   have h5':decide ((5:Int)<(l.length:Int))=false:=a0f (by omega);cases iH:mo uT c
   ·have hg:Z_ (fZ l=-1):=by
     show _=_;have:l.all lI=false:=by
      rw[a2E];intro ha;have:=a1e.1 ha c Hm;unfold lI at this;rw[<-Hdg.o,iH]at this;cases this
     unfold fZ;rw[ry,this];simp
    go_wp2;go_ret;exact⟨kU hg.o.symm,rfl⟩
   have nA:lI c=true:=by unfold lI;rw[<-Hdg.o];exact iH
   have jX:48<=(c.toNat:Int)/\(c.toNat:Int)<=57:=by simpa[lI,kr] using nA
   have xz:Z_ ((l.take (j+1)).all lI=true):=by
    show _=_;rw[Ht.o,a1L,mi.o];simp[nA]
   have gI:Z_ (10*x+c.toNat-48=yc (l.take (j+1)) 0):=by
    show _=_;rw[Ht.o,Rm _ _ _ mi.o nA,<-Hx.o]
   have hxx:=Hxb.o (by omega);obtain⟨nL,uM⟩:=jX;clear nA;go_wp2;go_roundg (gk-1)
   case measure=>omega
   case rel =>
    refine⟨j+1,10*x+c.toNat-48,by omega,by go_num,rfl,gI,by omega,?_,xz,λ_=>by omega,rfl⟩;have:=Hx1.o;rw[Int.pow_succ];omega
  have ja:=mi.o;have hx:=Hx.o;rw[a0D (by omega)]at ja hx
  by_cases h0:l=[]
  ·subst h0
   have hg:Z_ (fZ []=-1):=rfl;have hie:(([]:LB) == [])=true:=rfl;clear ja hx;go_wp2;go_ret;exact⟨kU hg.o.symm,rfl⟩
  have ry:l.isEmpty=false:=by
   cases l with
   | nil=>exact absurd rfl h0
   | cons=>rfl
  have Tk:0<l.length:=a1P.2 h0;have bL:(l == [])=false:=by simp[h0]
  have zS:(bs l)[0]'(by rw[fM];omega)=l[0]:=rfl;have Hh:Z_ (hd l=(l[0].toNat:Int)):=BD l 0 Tk;generalize l[0]=c at *;have h5:=H5.o (by omega);have Hg:Z_ (fZ l=if (hd l==48)&&!(l == [48]) then -1 else yc l 0):=by
   show _=_;unfold fZ;rw[ry,ja];simp[show ¬ 5<l.length by omega]
  have Hxx:=aj hx;clear ja hx;cases hc:((c.toNat:Int)==48)
  ·have hg:Z_ (fZ l=x):=by
    show _=_;rw[Hg.o,Hh.o,hc,Hxx.o];rfl
   go_wp2;go_ret;exact⟨kU hg.o.symm,rfl⟩
  cases h48:(l == [48])
  ·have hg:Z_ (fZ l=-1):=by
    show _=_;rw[Hg.o,Hh.o,hc,h48];rfl
   go_wp2;go_ret;exact⟨kU hg.o.symm,rfl⟩
  have hg:Z_ (fZ l=x):=by
   show _=_;rw[Hg.o,Hh.o,hc,h48,Hxx.o];rfl
  go_wp2;go_ret;exact⟨kU hg.o.symm,rfl⟩
def fQ(q:Bool)(c:UInt8):Nat->LB->Bool->LB->List LB->List LB
 | 0,_,_,t,out=>out++[t]
 | _+1,[],_,t,out=>out++[t]
 | k+1,x::r,i0,t,out =>
   let i1:=if q&&x==34 then !i0 else i0
   if i1&&x==92&&!(r.isEmpty) then fQ q c k (r.drop 1) i1 (t++([x]++r.take 1)) out
   else if x==c&&!i1 then fQ q c k r i1 [] (out++[t])
   else fQ q c k r i1 (t++[x]) out
def dm(q:Bool)(c:UInt8)(l:LB):List LB:=fQ q c (l.length+1) l false [] []
theorem Gx(l:LB)(c:UInt8)(q:Bool)(w:World)(hl:l.length<=100000) :
 Calls Tryz.prog 18 #[.string (bs l),.int .u8 c.toNat,.bool q] w λe w'=>∃v,e=.returned v/\SL w.heap.size w' v (dm q c l)/\aA [] w w':=by
 have fM:=bS;have Jr:=kH;have hx:=qF l;go_enter Tryz.func18,Tryz.ntmps18
 go_wp2;go_loopg [7,8,9,10] (l.length+1) (λk vo vi vt vj wr=>∃(j:Nat) (i0:Bool) (t:LB) (out:List LB),j<=l.length/\l.length+1<=j+k/\vj=.int .i64 j/\vi=.bool i0/\vt=.string (bs t)/\t.length<=j/\out.length<=j/\SL w.heap.size wr vo out/\fQ q c k (l.drop j) i0 t out=dm q c l/\aA [] w wr)
 case atStart=>exact⟨0,false,[],[],by omega,by omega,rfl,rfl,rfl,by simp,by simp,SL.nil _ _,rfl,aA.refl _ _⟩
 case round =>
  obtain⟨j,i0,t,out,qM,hk,rfl,rfl,rfl,EM,hol,hs,gP,bU⟩:=hrel;obtain⟨a,cap,hv⟩:=hs.shape;subst hv;have Hs:=aj hs;have Hg:=aj gP;have Hf:=aj bU;have hz:=bU.size;clear hs gP bU;obtain⟨m,rfl⟩:∃m,gk=m+1:=⟨gk-1,by omega⟩
  by_cases aO:j<l.length
  ·have zS:(bs l)[j]'(by rw[fM];omega)=l[j]:=rfl
   have Hd:Z_ (l.drop j=l[j]::l.drop (j+1)):=a0q aO;have He:Z_ (List.drop j (List.take (j+1) l)=[l[j]]):=by
    show _=_;rw[a0I aO,a2t (by simp;omega),a0p (by simp;omega)];rfl
   have He2:Z_ (j+1<l.length->List.drop j (List.take (j+2) l)=[l[j]]++(l.drop (j+1)).take 1):=by
    intro h2;rw[List.drop_take,show j+2-j=2 by omega,Hd.o]
    rfl
   generalize l[j]=x at *;have nL:=kP x c;have hc34:((x.toNat:Int)==34)=(x==34):=kP x 34;have yo:((x.toNat:Int)==92)=(x==92):=kP x 92;have dM:dm q c l=(let i1:=if q&&x==34 then !i0 else i0
    if i1&&x==92&&!((l.drop (j+1)).isEmpty) then fQ q c m ((l.drop (j+1)).drop 1) i1 (t++([x]++(l.drop (j+1)).take 1)) out
    else if x==c&&!i1 then fQ q c m (l.drop (j+1)) i1 [] (out++[t])
    else fQ q c m (l.drop (j+1)) i1 (t++[x]) out):=by
    rw[<-Hg.o,Hd.o];rfl
   obtain⟨i1,hi1⟩:∃i1,i1=(if q&&x==34 then !i0 else i0):=⟨_,rfl⟩;rw[<-hi1]at dM;have bN:=aj dM;have Hi1:=aj hi1;clear dM Hg Hd hi1;have alS:(q=false/\i0=false)\/(q=false/\i0=true)\/(q=true/\(x==34)=false/\i0=false)\/(q=true/\(x==34)=false/\i0=true)\/(q=true/\(x==34)=true/\i0=false)\/(q=true/\(x==34)=true/\i0=true):=by
    cases q<;>cases i0<;>cases (x==34)<;>simp
   rcases alS with⟨hq,yM⟩|⟨hq,yM⟩|⟨hq,sP,yM⟩|⟨hq,sP,yM⟩|⟨hq,sP,yM⟩|⟨hq,sP,yM⟩
   ·
    subst hq yM;have HI:Z_ (i1=false):=by show _=_;rw[Hi1.o];simp
    cases sQ:(x==c)
    ·rw[sQ]at nL
     have gI:Z_ (fQ false c m (l.drop (j+1)) false (t++[x]) out=dm false c l):=by
      show _=_;rw[bN.o,HI.o];simp[sQ]
     have he:=He.o;go_wp2;go_roundg m
     case measure=>omega
     case rel=>exact⟨j+1,false,t++[x],out,by omega,by omega,by go_num,rfl,by simp,by simp;omega,by omega,Hs,gI,Hf⟩
    rw[sQ]at nL;have gI:Z_ (fQ false c m (l.drop (j+1)) false [] (out++[t])=dm false c l):=by
     show _=_;rw[bN.o,HI.o];simp[sQ]
    go_wp2_with (first | (at_builtin;refine o9 _ rfl _ _ rfl w.heap.size (.slice a out.length cap) out t wr.heap.size rfl (Hs.o.aB (S:=[]) ((aA.refl _ _).alloc _) (by simp)) rfl (by simp) (by omega) (by simp;omega) ?_;intro g2 aP w2 nQ kg rD))
    go_roundg m
    case measure=>omega
    case rel=>exact⟨j+1,false,[],out++[t],by omega,by omega,by go_num,rfl,rfl,by simp,by simp;omega,by simpa using nQ,gI,(Hf.o.alloc _).grown kg (λk hk=>Or.inr (Hs.o.lt k hk).1)⟩
   ·
    subst hq yM;have HI:Z_ (i1=true):=by show _=_;rw[Hi1.o];simp
    cases oN:(x==92)
    ·rw[oN]at yo
     cases sQ:(x==c)
     ·rw[sQ]at nL
      have gI:Z_ (fQ false c m (l.drop (j+1)) true (t++[x]) out=dm false c l):=by
       show _=_;rw[bN.o,HI.o];simp[oN]
      have he:=He.o;go_wp2;go_roundg m
      case measure=>omega
      case rel=>exact⟨j+1,true,t++[x],out,by omega,by omega,by go_num,rfl,by simp,by simp;omega,by omega,Hs,gI,Hf⟩
     rw[sQ]at nL;have gI:Z_ (fQ false c m (l.drop (j+1)) true (t++[x]) out=dm false c l):=by
      show _=_;rw[bN.o,HI.o];simp[oN]
     have he:=He.o;go_wp2;go_roundg m
     case measure=>omega
     case rel=>exact⟨j+1,true,t++[x],out,by omega,by omega,by go_num,rfl,by simp,by simp;omega,by omega,Hs,gI,Hf⟩
    rw[oN]at yo
    by_cases UX:j+1<l.length
    ·have oo:decide ((j:Int)+1<(l.length:Int))=true:=a0h (by omega)
     have ry:(l.drop (j+1)).isEmpty=false:=by
      rw[a3m];intro h;have:=congrArg List.length h;simp at this;omega
     have gI:Z_ (fQ false c m (l.drop (j+2)) true (t++([x]++(l.drop (j+1)).take 1)) out=dm false c l):=by
      show _=_;rw[bN.o,HI.o];simp[oN,ry]
     have he:=He2.o UX;have sH:((l.drop (j+1)).take 1).length=1:=by simp;omega
     generalize (l.drop (j+1)).take 1=y1 at *;go_wp2;go_roundg m
     case measure=>omega
     case rel=>exact⟨j+2,true,t++([x]++y1),out,by omega,by omega,by go_num,rfl,by simp,by simp;omega,by omega,Hs,gI,Hf⟩
    have oo:decide ((j:Int)+1<(l.length:Int))=false:=a0f (by omega);have ry:(l.drop (j+1)).isEmpty=true:=by
     rw[List.isEmpty_iff];exact a0p (by omega)
    cases sQ:(x==c)
    ·rw[sQ]at nL
     have gI:Z_ (fQ false c m (l.drop (j+1)) true (t++[x]) out=dm false c l):=by
      show _=_;rw[bN.o,HI.o];simp[oN,ry]
     have he:=He.o;go_wp2;go_roundg m
     case measure=>omega
     case rel=>exact⟨j+1,true,t++[x],out,by omega,by omega,by go_num,rfl,by simp,by simp;omega,by omega,Hs,gI,Hf⟩
    rw[sQ]at nL;have gI:Z_ (fQ false c m (l.drop (j+1)) true (t++[x]) out=dm false c l):=by
     show _=_;rw[bN.o,HI.o];simp[oN,ry]
    have he:=He.o;go_wp2;go_roundg m
    case measure=>omega
    case rel=>exact⟨j+1,true,t++[x],out,by omega,by omega,by go_num,rfl,by simp,by simp;omega,by omega,Hs,gI,Hf⟩
   ·
    subst hq yM;rw[sP]at hc34;have HI:Z_ (i1=false):=by show _=_;rw[Hi1.o];simp[sP]
    cases sQ:(x==c)
    ·rw[sQ]at nL
     have gI:Z_ (fQ true c m (l.drop (j+1)) false (t++[x]) out=dm true c l):=by
      show _=_;rw[bN.o,HI.o];simp[sQ]
     have he:=He.o;go_wp2;go_roundg m
     case measure=>omega
     case rel=>exact⟨j+1,false,t++[x],out,by omega,by omega,by go_num,rfl,by simp,by simp;omega,by omega,Hs,gI,Hf⟩
    rw[sQ]at nL;have gI:Z_ (fQ true c m (l.drop (j+1)) false [] (out++[t])=dm true c l):=by
     show _=_;rw[bN.o,HI.o];simp[sQ]
    go_wp2_with (first | (at_builtin;refine o9 _ rfl _ _ rfl w.heap.size (.slice a out.length cap) out t wr.heap.size rfl (Hs.o.aB (S:=[]) ((aA.refl _ _).alloc _) (by simp)) rfl (by simp) (by omega) (by simp;omega) ?_;intro g2 aP w2 nQ kg rD))
    go_roundg m
    case measure=>omega
    case rel=>exact⟨j+1,false,[],out++[t],by omega,by omega,by go_num,rfl,rfl,by simp,by simp;omega,by simpa using nQ,gI,(Hf.o.alloc _).grown kg (λk hk=>Or.inr (Hs.o.lt k hk).1)⟩
   ·
    subst hq yM;rw[sP]at hc34;have HI:Z_ (i1=true):=by show _=_;rw[Hi1.o];simp[sP]
    cases oN:(x==92)
    ·rw[oN]at yo
     cases sQ:(x==c)
     ·rw[sQ]at nL
      have gI:Z_ (fQ true c m (l.drop (j+1)) true (t++[x]) out=dm true c l):=by
       show _=_;rw[bN.o,HI.o];simp[oN]
      have he:=He.o;go_wp2;go_roundg m
      case measure=>omega
      case rel=>exact⟨j+1,true,t++[x],out,by omega,by omega,by go_num,rfl,by simp,by simp;omega,by omega,Hs,gI,Hf⟩
     rw[sQ]at nL;have gI:Z_ (fQ true c m (l.drop (j+1)) true (t++[x]) out=dm true c l):=by
      show _=_;rw[bN.o,HI.o];simp[oN]
     have he:=He.o;go_wp2;go_roundg m
     case measure=>omega
     case rel=>exact⟨j+1,true,t++[x],out,by omega,by omega,by go_num,rfl,by simp,by simp;omega,by omega,Hs,gI,Hf⟩
    rw[oN]at yo
    by_cases UX:j+1<l.length
    ·have oo:decide ((j:Int)+1<(l.length:Int))=true:=a0h (by omega)
     have ry:(l.drop (j+1)).isEmpty=false:=by
      rw[a3m];intro h;have:=congrArg List.length h;simp at this;omega
     have gI:Z_ (fQ true c m (l.drop (j+2)) true (t++([x]++(l.drop (j+1)).take 1)) out=dm true c l):=by
      show _=_;rw[bN.o,HI.o];simp[oN,ry]
     have he:=He2.o UX;have sH:((l.drop (j+1)).take 1).length=1:=by simp;omega
     generalize (l.drop (j+1)).take 1=y1 at *;go_wp2;go_roundg m
     case measure=>omega
     case rel=>exact⟨j+2,true,t++([x]++y1),out,by omega,by omega,by go_num,rfl,by simp,by simp;omega,by omega,Hs,gI,Hf⟩
    have oo:decide ((j:Int)+1<(l.length:Int))=false:=a0f (by omega);have ry:(l.drop (j+1)).isEmpty=true:=by
     rw[List.isEmpty_iff];exact a0p (by omega)
    cases sQ:(x==c)
    ·rw[sQ]at nL
     have gI:Z_ (fQ true c m (l.drop (j+1)) true (t++[x]) out=dm true c l):=by
      show _=_;rw[bN.o,HI.o];simp[oN,ry]
     have he:=He.o;go_wp2;go_roundg m
     case measure=>omega
     case rel=>exact⟨j+1,true,t++[x],out,by omega,by omega,by go_num,rfl,by simp,by simp;omega,by omega,Hs,gI,Hf⟩
    rw[sQ]at nL;have gI:Z_ (fQ true c m (l.drop (j+1)) true (t++[x]) out=dm true c l):=by
     show _=_;rw[bN.o,HI.o];simp[oN,ry]
    have he:=He.o;go_wp2;go_roundg m
    case measure=>omega
    case rel=>exact⟨j+1,true,t++[x],out,by omega,by omega,by go_num,rfl,by simp,by simp;omega,by omega,Hs,gI,Hf⟩
   ·
    subst hq yM;rw[sP]at hc34;have HI:Z_ (i1=true):=by show _=_;rw[Hi1.o];simp[sP]
    cases oN:(x==92)
    ·rw[oN]at yo
     cases sQ:(x==c)
     ·rw[sQ]at nL
      have gI:Z_ (fQ true c m (l.drop (j+1)) true (t++[x]) out=dm true c l):=by
       show _=_;rw[bN.o,HI.o];simp[oN]
      have he:=He.o;go_wp2;go_roundg m
      case measure=>omega
      case rel=>exact⟨j+1,true,t++[x],out,by omega,by omega,by go_num,rfl,by simp,by simp;omega,by omega,Hs,gI,Hf⟩
     rw[sQ]at nL;have gI:Z_ (fQ true c m (l.drop (j+1)) true (t++[x]) out=dm true c l):=by
      show _=_;rw[bN.o,HI.o];simp[oN]
     have he:=He.o;go_wp2;go_roundg m
     case measure=>omega
     case rel=>exact⟨j+1,true,t++[x],out,by omega,by omega,by go_num,rfl,by simp,by simp;omega,by omega,Hs,gI,Hf⟩
    rw[oN]at yo
    by_cases UX:j+1<l.length
    ·have oo:decide ((j:Int)+1<(l.length:Int))=true:=a0h (by omega)
     have ry:(l.drop (j+1)).isEmpty=false:=by
      rw[a3m];intro h;have:=congrArg List.length h;simp at this;omega
     have gI:Z_ (fQ true c m (l.drop (j+2)) true (t++([x]++(l.drop (j+1)).take 1)) out=dm true c l):=by
      show _=_;rw[bN.o,HI.o];simp[oN,ry]
     have he:=He2.o UX;have sH:((l.drop (j+1)).take 1).length=1:=by simp;omega
     generalize (l.drop (j+1)).take 1=y1 at *;go_wp2;go_roundg m
     case measure=>omega
     case rel=>exact⟨j+2,true,t++([x]++y1),out,by omega,by omega,by go_num,rfl,by simp,by simp;omega,by omega,Hs,gI,Hf⟩
    have oo:decide ((j:Int)+1<(l.length:Int))=false:=a0f (by omega);have ry:(l.drop (j+1)).isEmpty=true:=by
     rw[List.isEmpty_iff];exact a0p (by omega)
    cases sQ:(x==c)
    ·rw[sQ]at nL
     have gI:Z_ (fQ true c m (l.drop (j+1)) true (t++[x]) out=dm true c l):=by
      show _=_;rw[bN.o,HI.o];simp[oN,ry]
     have he:=He.o;go_wp2;go_roundg m
     case measure=>omega
     case rel=>exact⟨j+1,true,t++[x],out,by omega,by omega,by go_num,rfl,by simp,by simp;omega,by omega,Hs,gI,Hf⟩
    rw[sQ]at nL;have gI:Z_ (fQ true c m (l.drop (j+1)) true (t++[x]) out=dm true c l):=by
     show _=_;rw[bN.o,HI.o];simp[oN,ry]
    have he:=He.o;go_wp2;go_roundg m
    case measure=>omega
    case rel=>exact⟨j+1,true,t++[x],out,by omega,by omega,by go_num,rfl,by simp,by simp;omega,by omega,Hs,gI,Hf⟩
   -- q true x34 true in true
   subst hq yM;rw[sP]at hc34;have HI:Z_ (i1=false):=by show _=_;rw[Hi1.o];simp[sP]
   cases sQ:(x==c)
   ·rw[sQ]at nL
    have gI:Z_ (fQ true c m (l.drop (j+1)) false (t++[x]) out=dm true c l):=by
     show _=_;rw[bN.o,HI.o];simp[sQ]
    have he:=He.o;go_wp2;go_roundg m
    case measure=>omega
    case rel=>exact⟨j+1,false,t++[x],out,by omega,by omega,by go_num,rfl,by simp,by simp;omega,by omega,Hs,gI,Hf⟩
   rw[sQ]at nL;have gI:Z_ (fQ true c m (l.drop (j+1)) false [] (out++[t])=dm true c l):=by
    show _=_;rw[bN.o,HI.o];simp[sQ]
   go_wp2_with (first | (at_builtin;refine o9 _ rfl _ _ rfl w.heap.size (.slice a out.length cap) out t wr.heap.size rfl (Hs.o.aB (S:=[]) ((aA.refl _ _).alloc _) (by simp)) rfl (by simp) (by omega) (by simp;omega) ?_;intro g2 aP w2 nQ kg rD))
   go_roundg m
   case measure=>omega
   case rel=>exact⟨j+1,false,[],out++[t],by omega,by omega,by go_num,rfl,rfl,by simp,by simp;omega,by simpa using nQ,gI,(Hf.o.alloc _).grown kg (λk hk=>Or.inr (Hs.o.lt k hk).1)⟩
  have Hx:Z_ (dm q c l=out++[t]):=by
   show _=_;rw[<-Hg.o,a0p (by omega)];rfl
  clear Hg;go_wp2_with (first | (at_builtin;refine o9 _ rfl _ _ rfl w.heap.size (.slice a out.length cap) out t wr.heap.size rfl (Hs.o.aB (S:=[]) ((aA.refl _ _).alloc _) (by simp)) rfl (by simp) (by omega) (by simp;omega) ?_;intro g2 aP w2 nQ kg rD))
  go_ret;rw[Hx.o];exact⟨_,rfl,nQ,(Hf.o.alloc _).grown kg (λk hk=>Or.inr (Hs.o.lt k hk).1)⟩
def dG:Nat->LB->LB->Option LB
 | 0,_,_=>none
 | _+1,[],v=>some v
 | k+1,c::r,v =>
   if c==34||!(kZ c.toNat) then none
   else if c==92 then
    (match r with
     | []=>none
     | d::r1 =>
       if d==120 then
        (match r1 with
         | h::o::r2=>if decide (jE h<0)||decide (jE o<0) then none else dG k r2 (v++[UInt8.ofNat (16*jE h+jE o).toNat])
         | _=>none)
       else if !(d==34)&&!(d==92) then none else dG k r1 (v++[d]))
   else dG k r (v++[c])
def fK(l:LB):LB × Bool :=
 if decide (l.length<2)||!(hd l==34)||!(l.getLast?==some 34) then ([],false)
 else match dG l.length ((l.take (l.length-1)).drop 1) [] with
  | none=>([],false)
  | some v=>(v,decide (v.length<=40))
theorem anN {x y:LB} {p q:Bool}(h:x=y)(h':p=q):Ending.returned (.tuple #[.string (bs x),.bool p])=.returned (.tuple #[.string (bs y),.bool q]):=by rw[h,h']
theorem sS(l:LB)(w:World)(hl:l.length<=100000) :
 Calls Tryz.prog 65 #[.string (bs l)] w λe w'=>e=.returned (.tuple #[.string (bs (fK l).1),.bool (fK l).2])/\aA [] w w':=by
 have fM:=bS;have Jr:=kH
 by_cases h2:l.length<2
 ·have Hx:Z_ (fK l=([],false)):=by show _=_;unfold fK;simp[h2]
  have kY:decide ((l.length:Int)<2)=true:=a0h (by omega);go_enter Tryz.func65,Tryz.ntmps65
  go_wp2;go_ret2;rw[Hx.o];exact⟨rfl,aA.refl _ _⟩
 have kY:decide ((l.length:Int)<2)=false:=a0f (by omega);have j6:(bs l)[0]'(by rw[fM];omega)=l[0]:=rfl;have hbn:(bs l)[l.length-1]'(by rw[fM];omega)=l[l.length-1]:=rfl;have Hh:Z_ (hd l=(l[0].toNat:Int)):=BD l 0 (by omega);have Hgl:Z_ (l.getLast?=some l[l.length-1]):=by
  show _=_;rw[List.getLast?_eq_getElem?,a0c]
 have ZU:Z_ (∀j (h:j<l.length),(bs l)[j]'(by rw[fM];exact h)=l[j]):=λj h=>rfl
 generalize Tk:l[0]=c0 at j6 Hh;generalize Js:l[l.length-1]=cn at hbn Hgl;clear Tk Js;have e0:((c0.toNat:Int)==34)=(c0==34):=kP c0 34;have en:((cn.toNat:Int)==34)=(cn==34):=kP cn 34;have aqe:((l.length:Int)-1)=((l.length-1:Nat):Int):=by omega
 have Hu:Z_ (fK l=if !(c0==34)||!(cn==34) then ([],false) else match dG l.length ((l.take (l.length-1)).drop 1) [] with
  | none=>([],false)
  | some v=>(v,decide (v.length<=40))):=by
  show _=_;unfold fK;rw[Hh.o,e0,Hgl.o];have:(some cn==some (34:UInt8))=(cn==34):=rfl;rw[this,a0f (by omega)];simp only[Bool.false_or];all_goals rfl
 cases h0:(c0==34)
 ·rw[h0]at e0
  have e0':((c0.toNat:Int) != 34)=true:=by unfold bne;rw[e0];rfl
  have Hx:Z_ (fK l=([],false)):=by show _=_;rw[Hu.o,h0];rfl
  go_enter Tryz.func65,Tryz.ntmps65
  go_wp2;go_ret2;rw[Hx.o];exact⟨rfl,aA.refl _ _⟩
 rw[h0]at e0;have e0':((c0.toNat:Int) != 34)=false:=by unfold bne;rw[e0];rfl
 cases hn:(cn==34)
 ·rw[hn]at en
  have en':((cn.toNat:Int) != 34)=true:=by unfold bne;rw[en];rfl
  have Hx:Z_ (fK l=([],false)):=by show _=_;rw[Hu.o,hn];simp
  go_enter Tryz.func65,Tryz.ntmps65
  go_wp2;go_ret2;rw[Hx.o];exact⟨rfl,aA.refl _ _⟩
 rw[hn]at en;have en':((cn.toNat:Int) != 34)=false:=by unfold bne;rw[en];rfl
 have Hu2:Z_ (fK l=match dG l.length ((l.take (l.length-1)).drop 1) [] with
  | none=>([],false)
  | some v=>(v,decide (v.length<=40))):=by show _=_;rw[Hu.o,h0,hn];rfl
 have Gy:Z_ (dG l.length ((l.take (l.length-1)).drop 1) []=none->fK l=([],false)):=λh=>by rw[Hu2.o,h]
 clear Hu;go_enter Tryz.func65,Tryz.ntmps65
 go_wp2;go_loopg [5,6] l.length (λk vv vi wr=>∃(j:Nat) (v:LB),1<=j/\j+1<=l.length/\l.length<=j+k/\vi=.int .i64 j/\vv=.string (bs v)/\v.length<=j/\dG k ((l.take (l.length-1)).drop j) v=dG l.length ((l.take (l.length-1)).drop 1) []/\aA [] w wr)
 case atStart=>exact⟨1,[],by omega,by omega,by omega,rfl,rfl,by simp,rfl,aA.refl _ _⟩
 case round =>
  obtain⟨j,v,hj1,qM,hk,rfl,rfl,Dy,gP,bU⟩:=hrel;have Hg:=aj gP;have Hf:=aj bU;clear gP bU j6 hbn;obtain⟨m,rfl⟩:∃m,gk=m+1:=⟨gk-1,by omega⟩;have ajX:∀i (h:i<l.length-1),(l.take (l.length-1)).drop i=l[i]::(l.take (l.length-1)).drop (i+1):=by
   intro i h;rw[a0q (by simp;omega)];simp
  have DC:=aj ajX;clear ajX
  by_cases aO:j<l.length-1
  ·have zS:=ZU.o j (by omega)
   have Hd:=aj (DC.o j aO);generalize l[j]=c at *;have hu:=u8i c;have hc34:((c.toNat:Int)==34)=(c==34):=kP c 34;have yo:((c.toNat:Int)==92)=(c==92):=kP c 92;have hcv:=IG wr c;cases sP:(c==34)
   case true =>
    rw[sP]at hc34;have Hx:Z_ (fK l=([],false)):=Gy.o (by rw[<-Hg.o,Hd.o];unfold dG;rw[sP];rfl);go_wp2;go_ret2;rw[Hx.o];exact⟨rfl,Hf⟩
   case false =>
   rw[sP]at hc34
   by_cases l7:(c.toNat:Int)<32
   ·have hp:kZ c.toNat=false:=by unfold kZ;simp;omega
    have Hx:Z_ (fK l=([],false)):=Gy.o (by rw[<-Hg.o,Hd.o];unfold dG;rw[sP,hp];rfl);go_wp2;go_ret2;rw[Hx.o];exact⟨rfl,Hf⟩
   by_cases zV:126<(c.toNat:Int)
   ·have hp:kZ c.toNat=false:=by unfold kZ;simp;omega
    have Hx:Z_ (fK l=([],false)):=Gy.o (by rw[<-Hg.o,Hd.o];unfold dG;rw[sP,hp];rfl);go_wp2;go_ret2;rw[Hx.o];exact⟨rfl,Hf⟩
   have hp:kZ c.toNat=true:=by unfold kZ;simp;omega
   cases oN:(c==92)
   case false =>
    rw[oN]at yo;have gI:Z_ (dG m ((l.take (l.length-1)).drop (j+1)) (v++[c])=dG l.length ((l.take (l.length-1)).drop 1) []):=by
     show _=_;rw[<-Hg.o,Hd.o];conv=>rhs;unfold dG
     rw[sP,hp,oN];rfl
    clear hp;go_wp2;go_roundg m
    case measure=>omega
    case rel=>exact⟨j+1,v++[c],by omega,by omega,by omega,by go_num,rfl,by simp;omega,gI,Hf.o.alloc _⟩
   case true =>
   rw[oN]at yo;clear hcv
   by_cases La:j+1<l.length-1
   case neg =>
    have ER:(l.take (l.length-1)).drop (j+1)=[]:=a0p (by simp;omega);have Hnn:=aj ER;have hge:(l.length:Int)-1<=(j:Int)+1:=by omega
    have Hp:=aj hp;clear ER hp;have Hx:Z_ (fK l=([],false)):=Gy.o (by rw[<-Hg.o,Hd.o];unfold dG;rw[sP,Hp.o,oN,Hnn.o];rfl);go_wp2;go_ret2;rw[Hx.o];exact⟨rfl,Hf⟩
   case pos =>
   have aqT:=ZU.o (j+1) (by omega);have Hd1:=aj (DC.o (j+1) La);generalize l[j+1]=d at *;have hud:=u8i d;have ajY:((d.toNat:Int)==120)=(d==120):=kP d 120;have hd34:((d.toNat:Int)==34)=(d==34):=kP d 34;have adp:((d.toNat:Int)==92)=(d==92):=kP d 92;cases Rn:(d==120)
   case false =>
    rw[Rn]at ajY;cases Jt:(d==34)
    ·rw[Jt]at hd34
     have anO:((d.toNat:Int) != 34)=true:=by unfold bne;rw[hd34];rfl
     cases nC:(d==92)
     ·rw[nC]at adp
      have anP:((d.toNat:Int) != 92)=true:=by unfold bne;rw[adp];rfl
      have Hp:=aj hp;clear hp;have Hx:Z_ (fK l=([],false)):=Gy.o (by rw[<-Hg.o,Hd.o];unfold dG;rw[sP,Hp.o,oN,Hd1.o];simp[Rn,Jt,nC]);go_wp2;go_ret2;rw[Hx.o];exact⟨rfl,Hf⟩
     rw[nC]at adp;have anP:((d.toNat:Int) != 92)=false:=by unfold bne;rw[adp];rfl
     have hcv:=IG wr d;have gI:Z_ (dG m ((l.take (l.length-1)).drop (j+2)) (v++[d])=dG l.length ((l.take (l.length-1)).drop 1) []):=by
      show _=_;rw[<-Hg.o,Hd.o,Hd1.o];conv=>rhs;unfold dG
      rw[sP,hp,oN];simp[Rn,Jt,nC]
     clear hp;go_wp2;go_roundg m
     case measure=>omega
     case rel=>exact⟨j+2,v++[d],by omega,by omega,by omega,by go_num,rfl,by simp;omega,gI,Hf.o.alloc _⟩
    rw[Jt]at hd34;have anO:((d.toNat:Int) != 34)=false:=by unfold bne;rw[hd34];rfl
    have hcv:=IG wr d;have gI:Z_ (dG m ((l.take (l.length-1)).drop (j+2)) (v++[d])=dG l.length ((l.take (l.length-1)).drop 1) []):=by
     show _=_;rw[<-Hg.o,Hd.o,Hd1.o];conv=>rhs;unfold dG
     rw[sP,hp,oN];simp[Rn,Jt]
    clear hp;go_wp2;go_roundg m
    case measure=>omega
    case rel=>exact⟨j+2,v++[d],by omega,by omega,by omega,by go_num,rfl,by simp;omega,gI,Hf.o.alloc _⟩
   case true =>
   rw[Rn]at ajY;clear hd34 adp
   by_cases hn2:j+4<=l.length-1
   case neg =>
    have ER:dG (m+1) (c::d::(l.take (l.length-1)).drop (j+1+1)) v=none:=by
     unfold dG;rw[sP,hp,oN];have hlen:((l.take (l.length-1)).drop (j+1+1)).length<=1:=by simp;omega
     match hm:(l.take (l.length-1)).drop (j+1+1) with
     | []=>simp[Rn]
     | [a]=>simp[Rn]
     | a::b::r=>rw[hm]at hlen;simp at hlen
    have dJ:(l.length:Int)-1<(j:Int)+1+1+2:=by omega
    have Hnn:=aj ER;clear hp ER;have Hx:Z_ (fK l=([],false)):=Gy.o (by rw[<-Hg.o,Hd.o];rw[Hd1.o];exact Hnn);go_wp2;go_ret2;rw[Hx.o];exact⟨rfl,Hf⟩
   case pos =>
   have aia:=ZU.o (j+1+1) (by omega);have aqU:=ZU.o (j+1+1+1) (by omega);have xZ:=aj (DC.o (j+1+1) (by omega));have Hd3:=aj (DC.o (j+1+1+1) (by omega));generalize l[j+1+1]=x1 at *;generalize l[j+1+1+1]=x2 at *;have hle:¬ ((l.length:Int)-1<(j:Int)+1+1+2):=by omega
   have b1:=acB x1;have b2:=acB x2;obtain⟨b11,b12⟩:=b1;obtain⟨b21,b22⟩:=b2;have Hun:Z_ (dG l.length ((l.take (l.length-1)).drop 1) []=if decide (jE x1<0)||decide (jE x2<0) then none else dG m ((l.take (l.length-1)).drop (j+4)) (v++[UInt8.ofNat (16*jE x1+jE x2).toNat])):=by
    show _=_;rw[<-Hg.o,Hd.o,Hd1.o,xZ.o,Hd3.o];conv=>lhs;unfold dG
    rw[sP,hp,oN];simp[Rn]
   clear hp;go_wp2_with fail
   refine(VI x1 _).mono ?_;rintro e w' ⟨rfl,rfl⟩;go_wp2_with fail
   refine(VI x2 _).mono ?_;rintro e w' ⟨rfl,rfl⟩;generalize jE x1=v1 at *;generalize jE x2=v2 at *
   by_cases hv1:v1<0
   ·have Hx:Z_ (fK l=([],false)):=Gy.o (by rw[Hun.o];simp[hv1])
    go_wp2;go_ret2;rw[Hx.o];exact⟨rfl,Hf⟩
   by_cases hv2:v2<0
   ·have Hx:Z_ (fK l=([],false)):=Gy.o (by rw[Hun.o];simp[hv2])
    go_wp2;go_ret2;rw[Hx.o];exact⟨rfl,Hf⟩
   have gI:Z_ (dG m ((l.take (l.length-1)).drop (j+4)) (v++[UInt8.ofNat (16*v1+v2).toNat])=dG l.length ((l.take (l.length-1)).drop 1) []):=by
    show _=_;rw[Hun.o];simp[hv1,hv2]
   have DT:((UInt8.ofNat (16*v1+v2).toNat).toNat:Int)=16*v1+v2:=by
    rw[UInt8.toNat_ofNat'];omega
   have hcv:=IG wr (UInt8.ofNat (16*v1+v2).toNat);rw[DT]at hcv;clear DT;generalize UInt8.ofNat (16*v1+v2).toNat=FC at *;go_wp2;go_roundg m
   case measure=>omega
   case rel=>exact⟨j+4,v++[FC],by omega,by omega,by omega,by go_num,rfl,by simp;omega,gI,Hf.o.alloc _⟩
  have ou:j=l.length-1:=by omega
  have Hx:Z_ (fK l=(v,decide (v.length<=40))):=by
   show _=_;rw[Hu2.o,<-Hg.o,a0p (by simp;omega)];rfl
  have nA:decide ((v.length:Int)<=40)=decide (v.length<=40):=by
   rw[a0P,a1E,a1E];omega
  have Hdd:=aj nA;clear nA ou;go_wp2;go_ret2;rw[Hx.o];exact⟨anN rfl Hdd,Hf⟩
abbrev RM:=LB × LB × LB
def nY(c:UInt8):Bool:=!(c==61)&&!(c==33)
def oJ(r:LB):Bool:=decide (1<r.length)&&((r.take 2 == [61,126])||(r.take 2 == [33,126])||(r.take 2 == [33,61]))
def zL(r:LB):Bool:=decide (0<r.length)&&(hd r==61)
def pM(l:LB):RM × Bool :=
 let n:=l.takeWhile nY
 let r:=l.dropWhile nY
 if oJ r then ((n,r.take 2,(fK (r.drop 2)).1),(fK (r.drop 2)).2&&aI n)
 else if zL r then ((n,r.take 1,(fK (r.drop 1)).1),(fK (r.drop 1)).2&&aI n)
 else ((n,[],[]),false)
structure zM(w:World)(b:Nat)(m:RM):Prop where
 h:w.heap[b]?=some (.cells #[.string (bs m.1),.string (bs m.2.1),.string (bs m.2.2),.pointer none] 82 (0,0))
theorem zM.lt {m:RM}(h:zM w b m):b<w.heap.size:=(a0d.1 h.h).1
theorem zM.cell {m:RM}(h:zM w b m)(o:Nat):w.cell? ⟨b,o,none⟩=(#[.string (bs m.1),.string (bs m.2.1),.string (bs m.2.2),.pointer none]:Array Value)[o]?:=by
 simp[World.cell?,h.h]
theorem zM.fz {m:RM}(h:zM w b m)(o:Nat):w.frozen? ⟨b,o,none⟩=false:=by
 simp[World.frozen?,h.h]
theorem zM.aB{w':World} {m:RM}(h:zM w b m)(f:aA S w w')(hS:b∉S):zM w' b m:=⟨(f.block b h.lt hS).trans h.h⟩
theorem zM.set {m:RM}(h:zM w b m)(o:Nat)(v:Value)(m':RM)(e:(#[.string (bs m'.1),.string (bs m'.2.1),.string (bs m'.2.2),.pointer none]:Array Value)=(#[.string (bs m.1),.string (bs m.2.1),.string (bs m.2.2),.pointer none]:Array Value).setIfInBounds o v):zM (w.setCell ⟨b,o,none⟩ v) b m':=by
 refine⟨?_⟩;rw[e];simp[World.setCell,a0t,h.h]
theorem zM.Gz {m:RM}(h:zM w b m)(m':RM):zM ((((w.setCell ⟨b,0,none⟩ (.string (bs m'.1))).setCell ⟨b,1,none⟩ (.string (bs m'.2.1))).setCell ⟨b,2,none⟩ (.string (bs m'.2.2))).setCell ⟨b,3,none⟩ (.pointer none)) b m' :=
 (((h.set 0 _ (m'.1,m.2.1,m.2.2) rfl).set 1 _ (m'.1,m'.2.1,m.2.2) rfl).set 2 _ (m'.1,m'.2.1,m'.2.2) rfl).set 3 _ m' rfl
theorem aA.Gz{a:World}(h:aA S a w)(hb:rb∈S\/a.heap.size<=rb)(v0 v1 v2 v3:Value):aA S a ((((w.setCell ⟨rb,0,none⟩ v0).setCell ⟨rb,1,none⟩ v1).setCell ⟨rb,2,none⟩ v2).setCell ⟨rb,3,none⟩ v3) :=
 (((h.setCell hb _).setCell hb _).setCell hb _).setCell hb _
def ifV(m:RM):Value:=.agg #[.string (bs m.1),.string (bs m.2.1),.string (bs m.2.2),.pointer none]
theorem ajZ {m:RM}(h:zM w b m):(loadVar 82 ⟨b,0,none⟩).run Tryz.prog w=.ok (ifV m) w:=by
 have h0:w.cell? ⟨b,0,none⟩=some (.string (bs m.1)):=h.cell 0;have h1:w.cell? ⟨b,1,none⟩=some (.string (bs m.2.1)):=h.cell 1;have h2:w.cell? ⟨b,2,none⟩=some (.string (bs m.2.2)):=h.cell 2;have h3:w.cell? ⟨b,3,none⟩=some (.pointer none):=h.cell 3;simp[go_sem,ifV,h0,h1,h2,h3]
theorem jd {m:RM} {ok:Bool} {tmps:Array Value}(h:zM w rb m)(h2:tmps.getD 2 undef=.pointer (some ⟨rb,0,none⟩))(h3:tmps.getD 3 undef=.bool ok) :
 (results Tryz.f50 tmps).run Tryz.prog w=.ok (.tuple #[ifV m,.bool ok]) w:=by
 rw[results_cell_tmp Tryz.results50,h2,h3];simp[asAddr,ajZ h]
theorem ZV {l:LB} {c:UInt8}(h:l=c::r):hd l=(c.toNat:Int):=by subst h;rfl
theorem abl(l:LB)(w:World)(hl:l.length<=100000) :
 Calls Tryz.prog 50 #[.string (bs l)] w λe w'=>e=.returned (.tuple #[ifV (pM l).1,.bool (pM l).2])/\aA [] w w':=by
 have fM:=bS;have hx:=qF;have EM:=bg;have kA:({ data:=#[61,126] }:ByteArray).toList=[61,126]:=bg _;have kB:({ data:=#[33,126] }:ByteArray).toList=[33,126]:=bg _;have kC:({ data:=#[33,61] }:ByteArray).toList=[33,61]:=bg _;have j6:zM (w.alloc (Obj.cells #[.string (bs []),.string (bs []),.string (bs []),.pointer none] 82)) w.heap.size ([],[],[]):=⟨bK _ _⟩;have vG:=aj j6;clear j6;go_enter Tryz.func50,Tryz.ntmps50
 go_wp2;go_loopg [4] l.length (λk vi wr=>∃(j:Nat),j+k=l.length/\vi=.int .i64 j/\(l.take j).all nY=true/\wr=w.alloc (Obj.cells #[.string (bs []),.string (bs []),.string (bs []),.pointer none] 82))
 case atStart=>exact⟨0,by omega,rfl,by simp,rfl⟩
 case round =>
  obtain⟨j,hj,rfl,ja,hw⟩:=hrel;subst hw;have mi:=aj ja;clear ja
  by_cases aO:j<l.length
  ·have zS:(bs l)[j]'(by rw[fM];omega)=l[j]:=rfl
   have Hd:Z_ (l.drop j=l[j]::l.drop (j+1)):=a0q aO;have Ht:Z_ (l.take (j+1)=l.take j++[l[j]]):=a0I aO;generalize l[j]=c at *;have h61:((c.toNat:Int)==61)=(c==61):=kP c 61;have h33:((c.toNat:Int)==33)=(c==33):=kP c 33;have adq:Z_ (nY c=false->l.takeWhile nY=l.take j/\l.dropWhile nY=l.drop j):=by
    intro bL;have:=IC (l.take j) (l.drop j) mi.o (λc' r' e=>by rw[Hd.o]at e;simp at e;rw[<-e.1];exact bL)
    rwa [a1I]at this
   cases e61:(c==61)
   case true =>
    rw[e61]at h61;have n61:((c.toNat:Int) != 61)=false:=by unfold bne;rw[h61];rfl
    have O0:=adq.o (by unfold nY;rw[e61];rfl);have yC:=aj O0;clear O0 adq mi;have Be:(bs (l.drop j))[0]'(by rw[fM];simp;omega)=c:=by
     have:∀(L:LB) (r:LB) (h:0<(bs L).size),L=c::r->(bs L)[0]'h=c:=by
      intro L r h e;subst e;rfl
     exact this _ _ _ Hd
    have tk:∀y z:UInt8,(c==y)=false->((l.drop j).take 2 == [y,z])=false:=by
     intro y z h;rw[Hd.o,a0k];intro e;simp at e;rw[e.1]at h;simp at h
    have qB:=tk 33 126 (by have:c=61:=by simpa using e61
                           subst this;rfl)
    have qC:=tk 33 61 (by have:c=61:=by simpa using e61
                          subst this;rfl)
    clear tk;have Hh:Z_ (hd (l.drop j)=(c.toNat:Int)):=ZV Hd;have Ym:List.take (l.length-j) (List.drop j l)=List.drop j l:=a0D (by simp)
    by_cases Js:1<l.length-j
    ·have iH:decide ((1:Int)<((l.length-j:Nat):Int))=true:=a0h (by omega)
     have DJ:decide (1<(l.drop j).length)=true:=by simp;omega
     cases qA:((l.drop j).take 2 == [61,126])
     ·have BF:decide ((0:Int)<((l.length-j:Nat):Int))=true:=a0h (by omega)
      have Hm:Z_ (pM l=((l.take j,(l.drop j).take 1,(fK (l.drop (j+1))).1),(fK (l.drop (j+1))).2&&aI (l.take j))):=by
       show _=_;unfold pM;rw[yC.o.1,yC.o.2];dsimp only;have s2:oJ (l.drop j)=false:=by unfold oJ;rw[DJ,qA,qB,qC];rfl
       have s1:zL (l.drop j)=true:=by unfold zL;rw[Hh.o,h61];simp;omega
       rw[s2,s1];simp only[a0n,a0G,a0C];rw[a3b]
      go_wp2_with fail
      have mV:zM ((w.alloc (Obj.cells #[.string (bs []),.string (bs []),.string (bs []),.pointer none] 82)).alloc (Obj.cells #[.string (bs (l.take j)),.string (bs ((l.drop j).take 1)),.string (bs []),.pointer none] 82)) (w.heap.size+1) (l.take j,(l.drop j).take 1,[]):=⟨by have:=bK (w.alloc (Obj.cells #[.string (bs []),.string (bs []),.string (bs []),.pointer none] 82)) (Obj.cells #[.string (bs (l.take j)),.string (bs ((l.drop j).take 1)),.string (bs []),.pointer none] 82);rw[<-this];simp⟩;have j6:=vG.o.aB (S:=[]) ((aA.refl _ _).alloc (Obj.cells #[.string (bs (l.take j)),.string (bs ((l.drop j).take 1)),.string (bs []),.pointer none] 82)) (by simp);refine(sS (l.drop (j+1)) _ (by simp;omega)).mono ?_;rintro e w2 ⟨rfl,hf⟩;have B1:=aj (mV.aB hf (by simp));have B0:=aj (j6.aB hf (by simp));have KF:=aj ((((aA.refl [] w).alloc _).alloc _).trans hf);clear hf mV j6;have gF:w.heap.size+1<w2.heap.size:=B1.o.lt;generalize fK (l.drop (j+1))=u at *;obtain⟨u1,u2⟩:=u;have p0:w2.cell? ⟨w.heap.size+1,0,none⟩=some (.string (bs (l.take j))):=B1.o.cell 0;have p1:w2.cell? ⟨w.heap.size+1,1,none⟩=some (.string (bs ((l.drop j).take 1))):=B1.o.cell 1;have p2:w2.cell? ⟨w.heap.size+1,2,none⟩=some (.string (bs [])):=B1.o.cell 2;have p3:w2.cell? ⟨w.heap.size+1,3,none⟩=some (.pointer none):=B1.o.cell 3;have p4:=B1.o.fz;have r0:w2.cell? ⟨w.heap.size,0,none⟩=some (.string (bs [])):=B0.o.cell 0;have r1:w2.cell? ⟨w.heap.size,1,none⟩=some (.string (bs [])):=B0.o.cell 1;have r2:w2.cell? ⟨w.heap.size,2,none⟩=some (.string (bs [])):=B0.o.cell 2;have r3:w2.cell? ⟨w.heap.size,3,none⟩=some (.pointer none):=B0.o.cell 3;have r4:=B0.o.fz;go_wp2_with fail
      refine(mQ (l.take j) _ (by simp;omega)).mono ?_;rintro e w' ⟨rfl,rfl⟩;generalize l.take j=nm at *;generalize (l.drop j).take 1=sg at *;generalize aI nm=ib at *;cases u2
      all_goals
       go_wp2;refine bodyPost_ret (jd (m:=(nm,sg,u1)) (rb:=w.heap.size) ?_ (by rfl) (by rfl)) rfl ?_
       ·exact(B0.o.aB (S:=[w.heap.size+1]) ((aA.refl _ _).setCell (p:=⟨w.heap.size+1,2,none⟩) (by simp) (.string (bs u1))) (by simp)).Gz (nm,sg,u1)
       rw[Hm.o];exact⟨by simp,aA.Gz (KF.o.setCell (Or.inr (by simp)) _) (by simp) _ _ _ _⟩
     ·
      have Hm:Z_ (pM l=((l.take j,(l.drop j).take 2,(fK (l.drop (j+2))).1),(fK (l.drop (j+2))).2&&aI (l.take j))):=by
       show _=_;unfold pM;rw[yC.o.1,yC.o.2];dsimp only;have s2:oJ (l.drop j)=true:=by unfold oJ;rw[DJ,qA];rfl
       rw[s2];simp only[a0C];rw[a3b]
      go_wp2_with fail
      have mV:zM ((w.alloc (Obj.cells #[.string (bs []),.string (bs []),.string (bs []),.pointer none] 82)).alloc (Obj.cells #[.string (bs (l.take j)),.string (bs ((l.drop j).take 2)),.string (bs []),.pointer none] 82)) (w.heap.size+1) (l.take j,(l.drop j).take 2,[]):=⟨by have:=bK (w.alloc (Obj.cells #[.string (bs []),.string (bs []),.string (bs []),.pointer none] 82)) (Obj.cells #[.string (bs (l.take j)),.string (bs ((l.drop j).take 2)),.string (bs []),.pointer none] 82);rw[<-this];simp⟩;have j6:=vG.o.aB (S:=[]) ((aA.refl _ _).alloc (Obj.cells #[.string (bs (l.take j)),.string (bs ((l.drop j).take 2)),.string (bs []),.pointer none] 82)) (by simp);refine(sS (l.drop (j+2)) _ (by simp;omega)).mono ?_;rintro e w2 ⟨rfl,hf⟩;have B1:=aj (mV.aB hf (by simp));have B0:=aj (j6.aB hf (by simp));have KF:=aj ((((aA.refl [] w).alloc _).alloc _).trans hf);clear hf mV j6;have gF:w.heap.size+1<w2.heap.size:=B1.o.lt;generalize fK (l.drop (j+2))=u at *;obtain⟨u1,u2⟩:=u;have p0:w2.cell? ⟨w.heap.size+1,0,none⟩=some (.string (bs (l.take j))):=B1.o.cell 0;have p1:w2.cell? ⟨w.heap.size+1,1,none⟩=some (.string (bs ((l.drop j).take 2))):=B1.o.cell 1;have p2:w2.cell? ⟨w.heap.size+1,2,none⟩=some (.string (bs [])):=B1.o.cell 2;have p3:w2.cell? ⟨w.heap.size+1,3,none⟩=some (.pointer none):=B1.o.cell 3;have p4:=B1.o.fz;have r0:w2.cell? ⟨w.heap.size,0,none⟩=some (.string (bs [])):=B0.o.cell 0;have r1:w2.cell? ⟨w.heap.size,1,none⟩=some (.string (bs [])):=B0.o.cell 1;have r2:w2.cell? ⟨w.heap.size,2,none⟩=some (.string (bs [])):=B0.o.cell 2;have r3:w2.cell? ⟨w.heap.size,3,none⟩=some (.pointer none):=B0.o.cell 3;have r4:=B0.o.fz;go_wp2_with fail
      refine(mQ (l.take j) _ (by simp;omega)).mono ?_;rintro e w' ⟨rfl,rfl⟩;generalize l.take j=nm at *;generalize (l.drop j).take 2=sg at *;generalize aI nm=ib at *;cases u2
      all_goals
       go_wp2;refine bodyPost_ret (jd (m:=(nm,sg,u1)) (rb:=w.heap.size) ?_ (by rfl) (by rfl)) rfl ?_
       ·exact(B0.o.aB (S:=[w.heap.size+1]) ((aA.refl _ _).setCell (p:=⟨w.heap.size+1,2,none⟩) (by simp) (.string (bs u1))) (by simp)).Gz (nm,sg,u1)
       rw[Hm.o];exact⟨by simp,aA.Gz (KF.o.setCell (Or.inr (by simp)) _) (by simp) _ _ _ _⟩
    have iH:decide ((1:Int)<((l.length-j:Nat):Int))=false:=a0f (by omega);have BF:decide ((0:Int)<((l.length-j:Nat):Int))=true:=a0h (by omega);have DJ:decide (1<(l.drop j).length)=false:=by simp;omega
    have Hm:Z_ (pM l=((l.take j,(l.drop j).take 1,(fK (l.drop (j+1))).1),(fK (l.drop (j+1))).2&&aI (l.take j))):=by
     show _=_;unfold pM;rw[yC.o.1,yC.o.2];dsimp only;have s2:oJ (l.drop j)=false:=by unfold oJ;rw[DJ];rfl
     have s1:zL (l.drop j)=true:=by unfold zL;rw[Hh.o,h61];simp;omega
     rw[s2,s1];simp only[a0n,a0G,a0C];rw[a3b]
    go_wp2_with fail
    have mV:zM ((w.alloc (Obj.cells #[.string (bs []),.string (bs []),.string (bs []),.pointer none] 82)).alloc (Obj.cells #[.string (bs (l.take j)),.string (bs ((l.drop j).take 1)),.string (bs []),.pointer none] 82)) (w.heap.size+1) (l.take j,(l.drop j).take 1,[]):=⟨by have:=bK (w.alloc (Obj.cells #[.string (bs []),.string (bs []),.string (bs []),.pointer none] 82)) (Obj.cells #[.string (bs (l.take j)),.string (bs ((l.drop j).take 1)),.string (bs []),.pointer none] 82);rw[<-this];simp⟩;have j6:=vG.o.aB (S:=[]) ((aA.refl _ _).alloc (Obj.cells #[.string (bs (l.take j)),.string (bs ((l.drop j).take 1)),.string (bs []),.pointer none] 82)) (by simp);refine(sS (l.drop (j+1)) _ (by simp;omega)).mono ?_;rintro e w2 ⟨rfl,hf⟩;have B1:=aj (mV.aB hf (by simp));have B0:=aj (j6.aB hf (by simp));have KF:=aj ((((aA.refl [] w).alloc _).alloc _).trans hf);clear hf mV j6;have gF:w.heap.size+1<w2.heap.size:=B1.o.lt;generalize fK (l.drop (j+1))=u at *;obtain⟨u1,u2⟩:=u;have p0:w2.cell? ⟨w.heap.size+1,0,none⟩=some (.string (bs (l.take j))):=B1.o.cell 0;have p1:w2.cell? ⟨w.heap.size+1,1,none⟩=some (.string (bs ((l.drop j).take 1))):=B1.o.cell 1;have p2:w2.cell? ⟨w.heap.size+1,2,none⟩=some (.string (bs [])):=B1.o.cell 2;have p3:w2.cell? ⟨w.heap.size+1,3,none⟩=some (.pointer none):=B1.o.cell 3;have p4:=B1.o.fz;have r0:w2.cell? ⟨w.heap.size,0,none⟩=some (.string (bs [])):=B0.o.cell 0;have r1:w2.cell? ⟨w.heap.size,1,none⟩=some (.string (bs [])):=B0.o.cell 1;have r2:w2.cell? ⟨w.heap.size,2,none⟩=some (.string (bs [])):=B0.o.cell 2;have r3:w2.cell? ⟨w.heap.size,3,none⟩=some (.pointer none):=B0.o.cell 3;have r4:=B0.o.fz;go_wp2_with fail
    refine(mQ (l.take j) _ (by simp;omega)).mono ?_;rintro e w' ⟨rfl,rfl⟩;generalize l.take j=nm at *;generalize (l.drop j).take 1=sg at *;generalize aI nm=ib at *;cases u2
    all_goals
     go_wp2;refine bodyPost_ret (jd (m:=(nm,sg,u1)) (rb:=w.heap.size) ?_ (by rfl) (by rfl)) rfl ?_
     ·exact(B0.o.aB (S:=[w.heap.size+1]) ((aA.refl _ _).setCell (p:=⟨w.heap.size+1,2,none⟩) (by simp) (.string (bs u1))) (by simp)).Gz (nm,sg,u1)
     rw[Hm.o];exact⟨by simp,aA.Gz (KF.o.setCell (Or.inr (by simp)) _) (by simp) _ _ _ _⟩
   case false =>
   rw[e61]at h61;have n61:((c.toNat:Int) != 61)=true:=by unfold bne;rw[h61];rfl
   cases e33:(c==33)
   case false =>
    rw[e33]at h33;have n33:((c.toNat:Int) != 33)=true:=by unfold bne;rw[h33];rfl
    have xz:Z_ ((l.take (j+1)).all nY=true):=by
     show _=_;rw[Ht.o,a1L,mi.o];simp[nY,e61,e33]
    clear adq;go_wp2;go_roundg (gk-1)
    case measure=>omega
    case rel=>exact⟨j+1,by omega,by go_num,xz,rfl⟩
   case true =>
    rw[e33]at h33;have n33:((c.toNat:Int) != 33)=false:=by unfold bne;rw[h33];rfl
    have O0:=adq.o (by unfold nY;rw[e33];simp);have yC:=aj O0;clear O0 adq mi;have Be:(bs (l.drop j))[0]'(by rw[fM];simp;omega)=c:=by
     have:∀(L:LB) (r:LB) (h:0<(bs L).size),L=c::r->(bs L)[0]'h=c:=by
      intro L r h e;subst e;rfl
     exact this _ _ _ Hd
    have qA:((l.drop j).take 2 == [61,126])=false:=by
     rw[Hd.o,a0k];intro e;simp at e;rw[e.1]at e61;simp at e61
    have Hh:Z_ (hd (l.drop j)=(c.toNat:Int)):=ZV Hd;have Ym:List.take (l.length-j) (List.drop j l)=List.drop j l:=a0D (by simp);have BF:decide ((0:Int)<((l.length-j:Nat):Int))=true:=a0h (by omega)
    by_cases Js:1<l.length-j
    ·have iH:decide ((1:Int)<((l.length-j:Nat):Int))=true:=a0h (by omega)
     have DJ:decide (1<(l.drop j).length)=true:=by simp;omega
     cases qB:((l.drop j).take 2 == [33,126])
     ·cases qC:((l.drop j).take 2 == [33,61])
      ·have s2:Z_ (oJ (l.drop j)=false):=by show _=_;unfold oJ;rw[DJ,qA,qB,qC];rfl
       have s1:Z_ (zL (l.drop j)=false):=by show _=_;unfold zL;rw[Hh.o,h61];simp
       have Hm:Z_ (pM l=((l.take j,[],[]),false)):=by
        show _=_;unfold pM;rw[yC.o.1,yC.o.2];dsimp only;rw[s2.o,s1.o];simp only[a0n,a0G]
       go_wp2;refine bodyPost_ret (jd (m:=(l.take j,[],[])) (ok:=false) (rb:=w.heap.size) ?_ (by rfl) (by rfl)) rfl ?_
       ·exact⟨by rw[Below.heap_alloc _ _ _ (by simp)];exact bK _ _⟩
       rw[Hm.o];exact⟨rfl,((aA.refl [] w).alloc _).alloc _⟩
      have s2:Z_ (oJ (l.drop j)=true):=by show _=_;unfold oJ;rw[DJ,qC];simp
      have Hm:Z_ (pM l=((l.take j,(l.drop j).take 2,(fK (l.drop (j+2))).1),(fK (l.drop (j+2))).2&&aI (l.take j))):=by
       show _=_;unfold pM;rw[yC.o.1,yC.o.2];dsimp only;rw[s2.o];simp only[a0C];rw[a3b]
      go_wp2_with fail
      have mV:zM ((w.alloc (Obj.cells #[.string (bs []),.string (bs []),.string (bs []),.pointer none] 82)).alloc (Obj.cells #[.string (bs (l.take j)),.string (bs ((l.drop j).take 2)),.string (bs []),.pointer none] 82)) (w.heap.size+1) (l.take j,(l.drop j).take 2,[]):=⟨by have:=bK (w.alloc (Obj.cells #[.string (bs []),.string (bs []),.string (bs []),.pointer none] 82)) (Obj.cells #[.string (bs (l.take j)),.string (bs ((l.drop j).take 2)),.string (bs []),.pointer none] 82);rw[<-this];simp⟩;have j6:=vG.o.aB (S:=[]) ((aA.refl _ _).alloc (Obj.cells #[.string (bs (l.take j)),.string (bs ((l.drop j).take 2)),.string (bs []),.pointer none] 82)) (by simp);refine(sS (l.drop (j+2)) _ (by simp;omega)).mono ?_;rintro e w2 ⟨rfl,hf⟩;have B1:=aj (mV.aB hf (by simp));have B0:=aj (j6.aB hf (by simp));have KF:=aj ((((aA.refl [] w).alloc _).alloc _).trans hf);clear hf mV j6;have gF:w.heap.size+1<w2.heap.size:=B1.o.lt;generalize fK (l.drop (j+2))=u at *;obtain⟨u1,u2⟩:=u;have p0:w2.cell? ⟨w.heap.size+1,0,none⟩=some (.string (bs (l.take j))):=B1.o.cell 0;have p1:w2.cell? ⟨w.heap.size+1,1,none⟩=some (.string (bs ((l.drop j).take 2))):=B1.o.cell 1;have p2:w2.cell? ⟨w.heap.size+1,2,none⟩=some (.string (bs [])):=B1.o.cell 2;have p3:w2.cell? ⟨w.heap.size+1,3,none⟩=some (.pointer none):=B1.o.cell 3;have p4:=B1.o.fz;have r0:w2.cell? ⟨w.heap.size,0,none⟩=some (.string (bs [])):=B0.o.cell 0;have r1:w2.cell? ⟨w.heap.size,1,none⟩=some (.string (bs [])):=B0.o.cell 1;have r2:w2.cell? ⟨w.heap.size,2,none⟩=some (.string (bs [])):=B0.o.cell 2;have r3:w2.cell? ⟨w.heap.size,3,none⟩=some (.pointer none):=B0.o.cell 3;have r4:=B0.o.fz;go_wp2_with fail
      refine(mQ (l.take j) _ (by simp;omega)).mono ?_;rintro e w' ⟨rfl,rfl⟩;generalize l.take j=nm at *;generalize (l.drop j).take 2=sg at *;generalize aI nm=ib at *;cases u2
      all_goals
       go_wp2;refine bodyPost_ret (jd (m:=(nm,sg,u1)) (rb:=w.heap.size) ?_ (by rfl) (by rfl)) rfl ?_
       ·exact(B0.o.aB (S:=[w.heap.size+1]) ((aA.refl _ _).setCell (p:=⟨w.heap.size+1,2,none⟩) (by simp) (.string (bs u1))) (by simp)).Gz (nm,sg,u1)
       rw[Hm.o];exact⟨by simp,aA.Gz (KF.o.setCell (Or.inr (by simp)) _) (by simp) _ _ _ _⟩
     have s2:Z_ (oJ (l.drop j)=true):=by show _=_;unfold oJ;rw[DJ,qB];simp
     have Hm:Z_ (pM l=((l.take j,(l.drop j).take 2,(fK (l.drop (j+2))).1),(fK (l.drop (j+2))).2&&aI (l.take j))):=by
      show _=_;unfold pM;rw[yC.o.1,yC.o.2];dsimp only;rw[s2.o];simp only[a0C];rw[a3b]
     go_wp2_with fail
     have mV:zM ((w.alloc (Obj.cells #[.string (bs []),.string (bs []),.string (bs []),.pointer none] 82)).alloc (Obj.cells #[.string (bs (l.take j)),.string (bs ((l.drop j).take 2)),.string (bs []),.pointer none] 82)) (w.heap.size+1) (l.take j,(l.drop j).take 2,[]):=⟨by have:=bK (w.alloc (Obj.cells #[.string (bs []),.string (bs []),.string (bs []),.pointer none] 82)) (Obj.cells #[.string (bs (l.take j)),.string (bs ((l.drop j).take 2)),.string (bs []),.pointer none] 82);rw[<-this];simp⟩;have j6:=vG.o.aB (S:=[]) ((aA.refl _ _).alloc (Obj.cells #[.string (bs (l.take j)),.string (bs ((l.drop j).take 2)),.string (bs []),.pointer none] 82)) (by simp);refine(sS (l.drop (j+2)) _ (by simp;omega)).mono ?_;rintro e w2 ⟨rfl,hf⟩;have B1:=aj (mV.aB hf (by simp));have B0:=aj (j6.aB hf (by simp));have KF:=aj ((((aA.refl [] w).alloc _).alloc _).trans hf);clear hf mV j6;have gF:w.heap.size+1<w2.heap.size:=B1.o.lt;generalize fK (l.drop (j+2))=u at *;obtain⟨u1,u2⟩:=u;have p0:w2.cell? ⟨w.heap.size+1,0,none⟩=some (.string (bs (l.take j))):=B1.o.cell 0;have p1:w2.cell? ⟨w.heap.size+1,1,none⟩=some (.string (bs ((l.drop j).take 2))):=B1.o.cell 1;have p2:w2.cell? ⟨w.heap.size+1,2,none⟩=some (.string (bs [])):=B1.o.cell 2;have p3:w2.cell? ⟨w.heap.size+1,3,none⟩=some (.pointer none):=B1.o.cell 3;have p4:=B1.o.fz;have r0:w2.cell? ⟨w.heap.size,0,none⟩=some (.string (bs [])):=B0.o.cell 0;have r1:w2.cell? ⟨w.heap.size,1,none⟩=some (.string (bs [])):=B0.o.cell 1;have r2:w2.cell? ⟨w.heap.size,2,none⟩=some (.string (bs [])):=B0.o.cell 2;have r3:w2.cell? ⟨w.heap.size,3,none⟩=some (.pointer none):=B0.o.cell 3;have r4:=B0.o.fz;go_wp2_with fail
     refine(mQ (l.take j) _ (by simp;omega)).mono ?_;rintro e w' ⟨rfl,rfl⟩;generalize l.take j=nm at *;generalize (l.drop j).take 2=sg at *;generalize aI nm=ib at *;cases u2
     all_goals
      go_wp2;refine bodyPost_ret (jd (m:=(nm,sg,u1)) (rb:=w.heap.size) ?_ (by rfl) (by rfl)) rfl ?_
      ·exact(B0.o.aB (S:=[w.heap.size+1]) ((aA.refl _ _).setCell (p:=⟨w.heap.size+1,2,none⟩) (by simp) (.string (bs u1))) (by simp)).Gz (nm,sg,u1)
      rw[Hm.o];exact⟨by simp,aA.Gz (KF.o.setCell (Or.inr (by simp)) _) (by simp) _ _ _ _⟩
    have iH:decide ((1:Int)<((l.length-j:Nat):Int))=false:=a0f (by omega);have DJ:decide (1<(l.drop j).length)=false:=by simp;omega
    have s2:Z_ (oJ (l.drop j)=false):=by show _=_;unfold oJ;rw[DJ];rfl
    have s1:Z_ (zL (l.drop j)=false):=by show _=_;unfold zL;rw[Hh.o,h61];simp
    have Hm:Z_ (pM l=((l.take j,[],[]),false)):=by
     show _=_;unfold pM;rw[yC.o.1,yC.o.2];dsimp only;rw[s2.o,s1.o];simp only[a0n,a0G]
    go_wp2;refine bodyPost_ret (jd (m:=(l.take j,[],[])) (ok:=false) (rb:=w.heap.size) ?_ (by rfl) (by rfl)) rfl ?_
    ·exact⟨by rw[Below.heap_alloc _ _ _ (by simp)];exact bK _ _⟩
    rw[Hm.o];exact⟨rfl,((aA.refl [] w).alloc _).alloc _⟩
  have qM:j=l.length:=by omega
  have yC:Z_ (l.takeWhile nY=l.take j/\l.dropWhile nY=l.drop j):=by
   have:=IC (l.take j) (l.drop j) mi.o (λc' r' e=>by rw[a0p (by omega)]at e;cases e)
   rwa [a1I]at this
  have amL:Z_ (l.drop j=[]):=a0p (by omega);have s2:Z_ (oJ (l.drop j)=false):=by show _=_;rw[amL.o];rfl
  have s1:Z_ (zL (l.drop j)=false):=by show _=_;rw[amL.o];rfl
  have iH:decide ((1:Int)<((l.length-j:Nat):Int))=false:=a0f (by omega);have BF:decide ((0:Int)<((l.length-j:Nat):Int))=false:=a0f (by omega);clear qM mi;have Hm:Z_ (pM l=((l.take j,[],[]),false)):=by
   show _=_;unfold pM;rw[yC.o.1,yC.o.2];dsimp only;rw[s2.o,s1.o];simp only[a0n,a0G]
  go_wp2;refine bodyPost_ret (jd (m:=(l.take j,[],[])) (ok:=false) (rb:=w.heap.size) ?_ (by rfl) (by rfl)) rfl ?_
  ·exact⟨by rw[Below.heap_alloc _ _ _ (by simp)];exact bK _ _⟩
  rw[Hm.o];exact⟨rfl,((aA.refl [] w).alloc _).alloc _⟩
theorem aj0:∀(x y:LB),Op.bytesLess x y=decide (x<y):=by
 intro x
 induction x with
 | nil=>intro y;cases y<;>simp[Op.bytesLess]
 | cons a x ih =>
   intro y;cases y with
   | nil=>simp[Op.bytesLess]
   | cons b y =>
     rw[Op.bytesLess,ih y,a0P];simp only[List.cons_lt_cons_iff,a0Y,a0N,a0S,a0X]
def ins(n:LB):List LB->List LB
 | []=>[n]
 | x::L=>if n<x then n::x::L else x::ins n L
theorem ZW(n a:LB)(h:n<a):∀(A:List LB),ins n (A++[a])=ins n A++[a]
 | []=>by simp[ins,h]
 | x::A=>by
   rw[a0J];unfold ins
   by_cases hx:n<x
   ·rw[a0j hx,a0j hx];simp
   rw[a0g hx,a0g hx,ZW n a h A];simp
theorem ZX(n:LB):∀(A:List LB),(∀x∈A,¬ n<x)->ins n A=A++[n]
 | [],_=>rfl
 | x::A,h=>by
   unfold ins;rw[a0g (h x (by simp)),ZX n A (λy hy=>h y (by simp[hy]))];rfl
theorem adr(n:LB):∀(A:List LB) (x:LB),x∈ins n A->x=n\/x∈A
 | [],x,h=>by simp[ins]at h;exact .inl h
 | y::A,x,h=>by
   unfold ins at h
   by_cases hy:n<y
   ·rw[a0j hy]at h
    rw[a0l]at h;exact h
   rw[a0g hy]at h;rw[a0l]at h;rcases h with h|h
   ·exact .inr (by simp[h])
   rcases adr n A x h with h|h
   ·exact .inl h
   exact .inr (by simp[h])
def Asc(A:List LB):Prop:=A.Pairwise (λx y=>x<y)
theorem tri(x y:LB)(h1:¬ x<y)(h2:x≠y):y<x:=by
 have h3:y<=x:=List.not_lt.1 h1;apply Classical.byContradiction;intro h4;exact h2 (List.le_antisymm (List.not_lt.1 h4) h3)
theorem ads(n:LB):∀(A:List LB),Asc A->n∉A->Asc (ins n A)
 | [],_,_=>by simp[ins,Asc]
 | x::A,h,hn=>by
   unfold Asc at h;rw[a1F]at h;unfold ins
   by_cases hx:n<x
   ·rw[a0j hx]
    refine a1F.2 ⟨λy hy=>?_,a1F.2 h⟩;rw[a0l]at hy;rcases hy with rfl|hy
    ·exact hx
    exact List.lt_trans hx (h.1 y hy)
   rw[a0g hx];refine a1F.2 ⟨λy hy=>?_,ads n A h.2 (λhm=>hn (by simp[hm]))⟩;rcases adr n A y hy with rfl|hy
   ·exact tri _ _ hx (λe=>hn (by simp[e]))
   exact h.1 y hy
def gtB(a b:LB):Bool:=!(Op.bytesLess a b||a==b)
def down:Nat->List LB->List LB
 | 0,xs=>xs
 | k+1,xs=>if gtB (xs.getD k []) (xs.getD (k+1) []) then down k ((xs.set (k+1) (xs.getD k [])).set k (xs.getD (k+1) [])) else xs
def jY(out:List LB)(n:LB):List LB:=if out.contains n then out else down out.length (out++[n])
def AL(L:List LB):List LB:=L.foldl jY []
theorem IY:∀(k:Nat) (xs:List LB),(down k xs).length=xs.length
 | 0,xs=>rfl
 | k+1,xs=>by
   unfold down;split
   ·rw[IY k];simp
   rfl
theorem ae8(out:List LB)(n:LB):(jY out n).length<=out.length+1:=by
 unfold jY;split
 ·omega
 rw[IY];simp
theorem SL.cell {base:Nat}(h:SL base w (.slice (some ⟨g,0,none⟩) n cap) xs)(j:Nat)(hj:j<xs.length):w.cell? ⟨g,j,none⟩=some (.string (bs (xs.getD j []))):=by
 have:=World.ownsRow.cells h (g:=g) rfl j (.string (bs (xs.getD j []))) (by simp[sv,hj])
 rwa [add0]at this
theorem SL.set {base:Nat}(h:SL base w (.slice (some ⟨g,0,none⟩) n cap) xs)(hn:n=xs.length)(j:Nat)(s:LB):SL base (w.setCell ⟨g,j,none⟩ (.string (bs s))) (.slice (some ⟨g,0,none⟩) n cap) (xs.set j s):=by
 subst hn;have:=(World.ownsRow.stored h j (.string (bs s))).1;unfold SL;rw[a3k];have e:(sv xs).set j (.string (bs s))=sv (xs.set j s):=by simp[sv]
 rw[<-e];exact this
theorem SL.fz {base:Nat}(h:SL base w (.slice (some ⟨g,0,none⟩) n cap) xs)(hn:n=xs.length)(j:Nat):w.frozen? ⟨g,j,none⟩=false:=by
 subst hn;exact World.ownsRow.frozenAt h j
theorem adt(v:Value)(L:List LB)(w:World)(h:RS 0 w v L)(hL:L.length<=1000) :
 Calls Tryz.prog 35 #[v] w λe w'=>∃v',e=.returned v'/\SL w.heap.size w' v' (AL L)/\aA [] w w':=by
 obtain⟨a,cap,rfl,h1,h2,h3⟩:=h;have H3:=aj h3;clear h3;have hl:=bg;go_enter Tryz.func35,Tryz.ntmps35
 go_wp2;go_loopg [3,4] L.length (λk vo vi wr=>∃(j:Nat) (out:List LB),j+k=L.length/\vi=.int .i64 j/\SL w.heap.size wr vo out/\out.length<=j/\(L.drop j).foldl jY out=AL L/\aA [] w wr)
 case atStart=>exact⟨0,[],by omega,rfl,SL.nil _ _,by simp,by simp[AL],aA.refl _ _⟩
 case round =>
 obtain⟨j,out,hj,rfl,hs,hol,gP,bU⟩:=hrel;obtain⟨ao,co,hv⟩:=hs.shape;subst hv;have Hs:=aj hs;have Hg:=aj gP;have Hf:=aj bU;clear hs gP bU
 by_cases aO:j<L.length
 ·obtain⟨g0,off,ha,_,Kz⟩:=H3.o j aO
  subst ha;have Hc0:=aj Kz;have Hd:Z_ (L.drop j=L[j]::L.drop (j+1)):=a0q aO;generalize L[j]=x at *;have DX:Z_ ((L.drop (j+1)).foldl jY (jY out x)=AL L):=by
   show _=_;rw[<-Hg.o,Hd.o];rfl
  clear Hg Hd Kz;go_wp2_with fail
  go_loopg [6,7] out.length (λk vt vj wq=>∃(jj:Nat),jj+k=out.length/\vj=.int .i64 jj/\vt=.bool ((out.take jj).contains x)/\SL w.heap.size wq (.slice ao out.length co) out/\aA [] w wq)
  case atStart=>exact⟨0,by omega,rfl,rfl,Hs,Hf⟩
  case round =>
   clear Hs Hf;obtain⟨jj,hjj,rfl,rfl,hs,bU⟩:=hrel;have Hs:=aj hs;have Hf:=aj bU;have hc:wr.cell? ⟨g0,off+j,none⟩=some (.string (bs x)):=by
    rw[bU.cell (World.block_lt_of_cell? w _ Hc0.o) (by simp)];exact Hc0
   clear hs bU
   by_cases lL:jj<out.length
   ·obtain⟨gg,hga⟩:∃gg,ao=some ⟨gg,0,none⟩:=by
     rcases Hs.o.2 with⟨e,h⟩|⟨g,c,cur,e,_⟩
     ·omega
     simp at e;exact⟨g,e.1⟩
    subst hga;have Bh:=Hs.o.cell jj lL;have Ht:Z_ ((out.take (jj+1)).contains x=((out.take jj).contains x||(out.getD jj []==x))):=by
     show _=_;have e1:out.getD jj []=out[jj]:=by simp[lL]
     rw[e1,a0I lL,a0P];simp only[a2F,a0b,a0y,a0Y,a1E,a0X]
     constructor
     ·rintro(h|h)
      ·exact Or.inl h
      exact Or.inr h.symm
     rintro(h|h)
     ·exact Or.inl h
     exact Or.inr h.symm
    generalize out.getD jj []=y at *;cases htw:(out.take jj).contains x
    ·rw[htw]at Ht
     go_wp2;go_quiet (fail)
     go_wp2;go_roundg (gk-1)
     case measure=>omega
     case rel=>exact⟨jj+1,by omega,by go_num,by rw[Ht.o];rfl,Hs.o.aB (S:=[]) ((aA.refl _ _).drewN _) (by simp),Hf.o.drewN _⟩
    rw[htw]at Ht;go_wp2;go_quiet (fail)
    go_wp2;go_roundg (gk-1)
    case measure=>omega
    case rel=>exact⟨jj+1,by omega,by go_num,by rw[Ht.o];rfl,Hs.o.aB (S:=[]) ((aA.refl _ _).drewN _) (by simp),Hf.o.drewN _⟩
   have Ht:Z_ (out.take jj=out):=a0D (by omega);rw[Ht.o];have hz:=Hf.o.size;cases Pg:out.contains x
   case true =>
    have Hr:Z_ (jY out x=out):=by show _=_;unfold jY;rw[Pg];rfl
    go_wp2;go_roundg (L.length-j-1)
    case measure=>omega
    case rel =>
     have:=DX.o;rw[Hr.o]at this;exact⟨j+1,out,by omega,by go_num,Hs,by omega,this,Hf⟩
   case false =>
   have Hr:Z_ (jY out x=down out.length (out++[x])):=by show _=_;unfold jY;rw[Pg];rfl
   clear Ht;go_wp2_with (first | (at_builtin;refine o9 _ rfl _ _ rfl w.heap.size (.slice ao out.length co) out x wr.heap.size rfl (Hs.o.aB (S:=[]) ((aA.refl _ _).alloc _) (by simp)) rfl (by simp) (by omega) (by simp;omega) ?_;intro g2 aP w2 nQ kg rD;have l8:=aj ((Hf.o.alloc _).grown kg (λk hk=>Or.inr (Hs.o.lt k hk).1));have pG:=aj nQ))
   clear nQ kg;go_loopg [5] out.length (λk vk wq=>∃(xs:List LB),k<=out.length/\vk=.int .i64 k/\xs.length=out.length+1/\SL w.heap.size wq (.slice (some ⟨g2,0,none⟩) (out.length+1) aP) xs/\down k xs=jY out x/\aA [] w wq)
   case atStart=>exact⟨out++[x],a0a _,rfl,by simp,pG,Hr.o.symm,l8⟩
   case round =>
    clear Hs Hf hc hz rD;obtain⟨xs,hkl,rfl,VT,hs,GA,bU⟩:=hrel;have Hs:=aj hs;have Hf:=aj bU;have Hdn:=aj GA;have Hxl:=aj VT;have MW:=hs.fz VT.symm;clear hs bU GA;cases gk with
    | zero =>
      have Hx:Z_ (jY out x=xs):=Hdn.o.symm;have BF:decide ((0:Int)<((0:Nat):Int))=false:=rfl;clear VT;go_wp2;go_quiet (fail)
      go_wp2;go_roundg (L.length-j-1)
      case measure=>omega
      case rel =>
       have:=DX.o;rw[Hx.o]at this;exact⟨j+1,xs,by omega,by go_num,Hs.o.aB (S:=[]) ((aA.refl _ _).drewN _) (by simp),by have:=Hxl.o;omega,this,Hf.o.drewN _⟩
    | succ k =>
      have BF:decide ((0:Int)<(k:Int)+1)=true:=a0h (by omega);have c1:=Hs.o.cell k (by omega);have c2:=Hs.o.cell (k+1) (by omega);clear VT;have bN:Z_ (jY out x=if gtB (xs.getD k []) (xs.getD (k+1) []) then down k ((xs.set (k+1) (xs.getD k [])).set k (xs.getD (k+1) [])) else xs):=by
       show _=_;rw[<-Hdn.o];rfl
      generalize xs.getD k []=y1 at *;generalize xs.getD (k+1) []=y2 at *;cases dJ:(Op.bytesLess y1 y2||y1==y2)
      case true =>
       have Hx:Z_ (jY out x=xs):=by show _=_;rw[bN.o];unfold gtB;rw[dJ];rfl
       go_wp2;go_quiet (fail)
       go_wp2;go_roundg (L.length-j-1)
       case measure=>omega
       case rel =>
        have:=DX.o;rw[Hx.o]at this;exact⟨j+1,xs,by omega,by go_num,Hs.o.aB (S:=[]) ((aA.refl _ _).drewN _) (by simp),by have:=Hxl.o;omega,this,Hf.o.drewN _⟩
      case false =>
       have Hx:Z_ (down k ((xs.set (k+1) y1).set k y2)=jY out x):=by show _=_;rw[bN.o];unfold gtB;rw[dJ];rfl
       go_wp2;go_quiet (fail)
       go_wp2;go_roundg k
       case measure=>omega
       case rel =>
        refine⟨(xs.set (k+1) y1).set k y2,by omega,by go_num,by simp[Hxl.o],?_,Hx,?_⟩
        ·exact(((Hs.o.aB (S:=[]) ((aA.refl _ _).drewN _) (by simp)).set Hxl.o.symm (k+1) y1).set (by simp[Hxl.o]) k y2)
        exact((Hf.o.drewN _).setCell (Or.inr (Hs.o.lt g2 rfl).1) _).setCell (Or.inr (Hs.o.lt g2 rfl).1) _
 have Hx:Z_ (AL L=out):=by
  show _=_;rw[<-Hg.o,a0p (by omega)];rfl
 go_wp2;go_ret;rw[Hx.o];exact⟨_,rfl,Hs,Hf⟩
theorem Z0(n:LB):∀(k:Nat) (A B:List LB),A.length=k->Asc A->n∉A->down k (A++n::B)=ins n A++B
 | 0,A,B,hk,_,_=>by
   have:A=[]:=a1l hk;subst this;simp[down,ins]
 | k+1,A,B,hk,hA,hn=>by
   obtain⟨A',a,rfl⟩:∃A' a,A=A'++[a]:=⟨A.dropLast,A.getLast (by intro e;simp[e]at hk),(a2w _).symm⟩;have hk':A'.length=k:=by simpa using hk
   unfold Asc at hA;rw[List.pairwise_append]at hA;have e1:(A'++[a]++n::B).getD k []=a:=by simp[<-hk',a0F]
   have e2:(A'++[a]++n::B).getD (k+1) []=n:=by simp[<-hk',a0F]
   have bL:a≠n:=λe=>hn (by simp[e])
   unfold down;rw[e1,e2];have e3:gtB a n=decide (n<a):=by
    unfold gtB;rw[aj0,a0P];simp only[a1m,Bool.or_eq_false_iff,a1i,a0S]
    constructor
    ·intro h;exact tri _ _ h.1 bL
    intro h;exact⟨λh2=>List.lt_irrefl _ (List.lt_trans h h2),by simpa using bL⟩
   rw[e3]
   by_cases h:n<a
   ·rw[a0j (by simp[h])]
    have e4:((A'++[a]++n::B).set (k+1) a).set k n=A'++n::(a::B):=by
     subst hk';simp[List.set_append]
    rw[e4,Z0 n k A' (a::B) hk' hA.1 (λhm=>hn (by simp[hm])),ZW n a h];simp
   rw[a0g (by simp[h])];rw[ZX n (A'++[a])]
   ·simp
   intro x hx;rw[a0b,a0y]at hx;rcases hx with hx|rfl
   ·intro h2
    have h3:=hA.2.2 x hx a (by simp);exact h (List.lt_trans h2 h3)
   exact h
end Go.Proofs.YtgbdcmpmmkfbhaaGreat
