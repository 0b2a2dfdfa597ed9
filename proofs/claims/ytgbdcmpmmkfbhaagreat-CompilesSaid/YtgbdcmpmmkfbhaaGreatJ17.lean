import Derived.Test.YtgbdcmpmmkfbhaaGreatJ16
import Derived.Test.YtgbdcmpmmkfbhaaGreatJ1
set_option linter.unusedVariables false
set_option linter.unusedSimpArgs false
set_option linter.unnecessarySimpa false
set_option maxRecDepth 100000
set_option maxHeartbeats 8000000
namespace Go.Proofs.YtgbdcmpmmkfbhaaGreat
variable {ops:Array Oper} {rest:List Oper} {a:Act} {w:World} {n:Nat}
open Go.RowKit
theorem Rp(l:LB)(w:World)(hl:l.length<=9000) :
 Calls Tryz.prog 20 #[.string (bs l)] w λe w'=>aj2 w e w' (wZ l)/\aA [] w w':=by
 have fM:=bS;have hx:=qF;have EM:=bg;have k0:({ data:=#[] }:ByteArray).toList=[]:=bg _;have j6:pN (w.alloc (Obj.cells (jK.cells ⟨[],.slice none 0 0,-1,-1,-1,.slice none 0 0,false,.slice none 0 0,0,0⟩) 77)) w.heap.size ⟨[],.slice none 0 0,-1,-1,-1,.slice none 0 0,false,.slice none 0 0,0,0⟩:=bK _ _;have vG:=aj j6;clear j6;go_enter Tryz.func20,Tryz.ntmps20
 go_wp2_with fail
 go_loopg [0] l.length (λk vs wr=>∃(l':LB) (d:Nat),l'.length<=k/\d+l'.length<=l.length/\(bD l').1+d=(bD l).1/\(bD l').2=(bD l).2/\vs=.string (bs l')/\pN wr w.heap.size ⟨[],.slice none 0 0,-1,-1,-1,.slice none 0 0,false,.slice none 0 0,d,0⟩/\aA [] w wr)
 case atStart=>exact⟨l,0,a0a _,by omega,by omega,rfl,rfl,vG,(aA.refl _ _).alloc _⟩
 case round =>
 clear vG;obtain⟨l',d,Kv,DJ,iH,kY,rfl,ko,bU⟩:=hrel;have Hd:=aj (And.intro iH kY);have Hr:=aj ko;have Hf:=aj bU;clear iH kY ko bU
 by_cases xX:∃r,l'=32::r
 ·obtain⟨r,rfl⟩:=xX
  have zS:(bs (32::r))[0]'(by rw[fM];simp)=32:=rfl;have bL:((32::r:LB) == [])=false:=rfl;have c6:wr.cell? ⟨w.heap.size,8,none⟩=some (.int .i64 d):=Hr.o.cell 8;have f6:=Hr.o.fz 8;have xZ:Z_ ((bD r).1+(d+1)=(bD l).1/\(bD r).2=(bD l).2):=by
   have:=Hd.o;rw[QU 32 r rfl]at this;exact⟨by have:=this.1;simp only at this;omega,this.2⟩
  simp only[a0o]at Kv DJ;have hex:List.drop 1 (List.take (r.length+1) (32::r))=r:=by simp
  clear Hd;go_wp2;go_roundg (gk-1)
  case measure=>omega
  case rel=>exact⟨r,d+1,by omega,by omega,xZ.o.1,xZ.o.2,by simp,Hr.o.set 8 _ _ (by simp[jK.cells]),Hf.o.setCell (by simp) _⟩
 have xZ:Z_ (d=(bD l).1/\l'=(bD l).2):=by
  have:=Hd.o;cases l' with
  | nil=>exact⟨by have:=this.1;simp[bD]at this;exact this,this.2⟩
  | cons c r =>
    have hc:(c==32)=false:=by
     rw[a0k];intro e;subst e;exact xX ⟨r,rfl⟩
    rw[Vi c r hc]at this;exact⟨by simpa using this.1,by simpa using this.2⟩
 have aqV:l'.length<=9000:=by omega
 have HR:Z_ (wZ l=rtW d (dm true 32 l')):=by show _=_;unfold wZ;rw[<-xZ.o.1,<-xZ.o.2]
 have aqW:d<=9000:=by omega
 have anU:(l' == [])=true\/((l' == [])=false/\∃c,(∀h,(bs l')[0]'h=c)/\((c.toNat:Int)==32)=false):=by
  cases l' with
  | nil=>exact Or.inl rfl
  | cons c r =>
    refine Or.inr ⟨rfl,c,λ_=>rfl,?_⟩;rw[a0k];intro e;have:c=32:=a1w.1 (a2P.1 e);subst this;exact xX ⟨r,rfl⟩
 clear Hd xZ xX DJ Kv;have jO:=Hr.o.lt;have fin:∀(e:Ending) (w':World) (p:Option Addr),wZ l=none->e=.returned (.tuple #[.pointer p,.bool false])->aA [] w w'->aj2 w e w' (wZ l)/\aA [] w w':=by
  intro e w' p h1 h2 h3;rw[h1];exact⟨⟨p,h2⟩,h3⟩
 have Fin:=aj fin;clear fin;rcases anU with he|⟨he,c,hc,hc32⟩
 ·have Tk:l'=[]:=by simpa using he
  subst Tk;have Hn:Z_ (wZ l=none):=by show _=_;rw[HR.o];rfl
  go_wp2_with fail
  refine(Gx [] 32 true wr (by simp)).mono ?_;rintro e w2 ⟨v,rfl,hs,hf⟩;obtain⟨a,cap,rfl⟩:=hs.shape;have hlen:(dm true 32 []).length=1:=rfl;rw[hlen];have l8:=aj (Hf.o.trans hf);clear hs hf hlen;go_wp2;go_ret2;exact Fin.o _ _ _ Hn.o rfl l8
 have hlp:0<(bs l').size:=by
  rw[fM,a1P];intro e;rw[e]at he;cases he
 have Kz:(bs l')[0]'hlp=c:=hc hlp;clear hc;go_wp2_with fail
 refine(Gx l' 32 true wr (by omega)).mono ?_;rintro e w2 ⟨v,rfl,hs,hf⟩;have jX:=GB true 32 l';generalize dm true 32 l'=W at *;obtain⟨hWx,YF,hW1⟩:=jX;obtain⟨a,cap,rfl⟩:=hs.shape;have Hs:=aj ((hs.rs (by omega)).base (base':=w.heap.size+1) (by have:=Hr.o.lt;omega));have Hwl:Z_ (∀x∈W,x.length<=100000):=λx hx=>by have:=hWx x hx;omega
 have MU:=aj (Hr.o.aB hf (by simp));have l8:=aj (Hf.o.trans hf);have gF:w.heap.size+1<=w2.heap.size:=by have:=MU.o.lt;omega
 clear hs hf hWx Hr Hf Kz hc32 he hlp
 by_cases hW2:W.length<2
 ·have Hn:Z_ (wZ l=none):=by show _=_;rw[HR.o];unfold rtW;simp[hW2]
  have kY:decide ((W.length:Int)<2)=true:=a0h (by omega);go_wp2;go_ret2;exact Fin.o _ _ _ Hn.o rfl l8
 have kY:decide ((W.length:Int)<2)=false:=a0f (by omega);obtain⟨g,off,ha,NG,_,hWc,aV⟩:=Hs.o.yg (by omega);subst ha;have c0:w2.cell? ⟨g,off,none⟩=some (.string (bs (W.getD 0 []))):=aV 0 (by omega);have c1:w2.cell? ⟨g,off+1,none⟩=some (.string (bs (W.getD 1 []))):=aV 1 (by omega);have kR:({ data:=#[114,111,117,116,101] }:ByteArray).toList=yN:=bg _;have k45:({ data:=#[45] }:ByteArray).toList=[45]:=bg _;have aqX:(W.getD 1 []).length<=100000:=Hwl.o _ (by rw[a0F,a0c (by omega)];exact a0z _);have nO:Z_ (wZ l=if !(W.getD 0 []==yN) then none
  else if !(aI (W.getD 1 []))&&!(W.getD 1 [] == [45]) then none
  else match oU (W.drop 2) with
   | none=>none
   | some (told,names,W1)=>match lQ 3 (-1,-1,-1) W1 with
     | none=>none
     | some (ts,W2)=>if (dC (W2.length+1) W2 []).2.2 then some ⟨W.getD 1 [],told,names,ts.1,ts.2.1,ts.2.2,(dC (W2.length+1) W2 []).1,(dC (W2.length+1) W2 []).2.1,d⟩ else none):=by
  show _=_;rw[HR.o];unfold rtW;rw[a0f hW2];rfl
 clear aV HR;generalize W.getD 0 []=x0 at *;generalize W.getD 1 []=x1 at *;cases h0:(x0==yN)
 ·have Hn:Z_ (wZ l=none):=by show _=_;rw[nO.o,h0];rfl
  go_wp2;go_ret2;exact Fin.o _ _ _ Hn.o rfl l8
 have p0:w2.cell? ⟨w.heap.size,0,none⟩=some (.string (bs [])):=MU.o.cell 0;have pf:=MU.o.fz 0;go_wp2_with fail
 refine(mQ x1 _ (by omega)).mono ?_;rintro e w' ⟨rfl,rfl⟩;have Hr3:=aj (MU.o.set 0 (.string (bs x1)) ⟨x1,.slice none 0 0,-1,-1,-1,.slice none 0 0,false,.slice none 0 0,d,0⟩ rfl);have SF:=aj ((aA.refl [w.heap.size] w2).setCell (p:=⟨w.heap.size,0,none⟩) (by simp) (.string (bs x1)));generalize w2.setCell ⟨w.heap.size,0,none⟩ (.string (bs x1))=w3 at *;have q0:w3.cell? ⟨w.heap.size,0,none⟩=some (.string (bs x1)):=Hr3.o.cell 0;have Su:Z_ (wZ l=if !(aI x1)&&!(x1 == [45]) then none
  else match oU (W.drop 2) with
   | none=>none
   | some (told,names,W1)=>match lQ 3 (-1,-1,-1) W1 with
     | none=>none
     | some (ts,W2)=>if (dC (W2.length+1) W2 []).2.2 then some ⟨x1,told,names,ts.1,ts.2.1,ts.2.2,(dC (W2.length+1) W2 []).1,(dC (W2.length+1) W2 []).2.1,d⟩ else none):=by
  show _=_;rw[nO.o,h0];rfl
 clear nO c0 c1 p0 pf h0 MU;go_upto_region 10 with fail
 go_cut [6,60] (λv6 vt wc=>wc=w3/\vt=.bool (!(aI x1)&&!(x1 == [45])))
 case first =>
  cases TS:aI x1
  ·cases h45:(x1 == [45])
   all_goals
    go_wp2;go_meet
    case rel=>exact⟨rfl,by rw[TS,h45];rfl⟩
  go_wp2;go_meet
  case rel=>exact⟨rfl,by rw[TS];rfl⟩
 case rest =>
 obtain⟨rfl,rfl⟩:=hcut;cases FU:(!(aI x1)&&!(x1 == [45]))
 case true =>
  have Hn:Z_ (wZ l=none):=by show _=_;rw[Su.o,FU];rfl
  go_wp2;go_ret2;exact Fin.o _ _ _ Hn.o rfl (l8.o.new SF.o (by simp))
 case false =>
 have HR4:=aj Su;rw[FU]at HR4;clear Su FU q0;go_upto_region 12 with fail
 have EU:=aj (Hs.o.drop2 2 (by omega));go_cut [5] (λvw w9=>w9=wc/\RS (w.heap.size+1) w2 vw (W.drop 2))
 case first =>
  by_cases uM:cap=2
  ·have CK:RS (w.heap.size+1) w2 (.slice (some ⟨g,off,none⟩) (W.length-2) 0) (W.drop 2):=⟨some ⟨g,off,none⟩,0,by simp,by simp;omega,by simp;omega,λj hj=>by simp at hj;omega⟩
   have qE:=aj CK;clear CK;go_wp2;go_meet
   case rel=>exact⟨rfl,qE⟩
  go_wp2;go_meet
  case rel=>exact⟨rfl,EU⟩
 case rest =>
 obtain⟨rfl,aj8⟩:=hcut;have amP:∀x∈W.drop 2,x.length<=100000:=λx hx=>Hwl.o x (a1h hx)
 have apv:(W.drop 2).length<=9001:=by simp;omega
 generalize W.drop 2=V at *;clear Hs EU Hwl YF hW1 hW2 kY hWc NG;have Xf:=aj8;obtain⟨a1,aiZ,e1,_,hVc,_⟩:=Xf;subst e1;have agj:=aj aj8;have Xk:=aj amP;clear aj8 amP;have kBY:({ data:=#[98,121] }:ByteArray).toList=wBy:=bg _;have aj9:=SF.o;have M9:1<V.length->∃g off,a1=some ⟨g,off,none⟩/\wc.cell? ⟨g,off,none⟩=some (.string (bs (V.getD 0 [])))/\wc.cell? ⟨g,off+1,none⟩=some (.string (bs (V.getD 1 [])))/\(∀wx,aA [w.heap.size] w2 wx->wx.cell? ⟨g,off+1,none⟩=some (.string (bs (V.getD 1 [])))):=by
  intro h;obtain⟨g,off,ha,NG,_,_,aV⟩:=agj.o.yg (by omega);have d0:=aV 0 (by omega);have d1:=aV 1 (by omega);have aO:=World.block_lt_of_cell? w2 _ d1;refine⟨g,off,ha,(aj9.cell (p:=⟨g,off,none⟩) aO (by simp;omega)).trans d0,(aj9.cell (p:=⟨g,off+1,none⟩) aO (by simp;omega)).trans d1,λwx hwx=>(hwx.cell (p:=⟨g,off+1,none⟩) aO (by simp;omega)).trans d1⟩
 have abq:=aj M9;clear M9 aj9;go_upto_region 13 with fail
 go_cut [71] (λvt w9=>w9=wc/\vt=.bool (decide (1<V.length)&&(V.getD 0 []==wBy)))
 case first =>
  by_cases h1:1<V.length
  ·obtain⟨g,off,rfl,c0,c1,_⟩:=abq.o h1
   have iH:decide ((1:Int)<(V.length:Int))=true:=a0h (by omega);go_wp2;go_meet
   case rel=>exact⟨rfl,by rw[a0h h1];rfl⟩
  have iH:decide ((1:Int)<(V.length:Int))=false:=a0f (by omega);go_wp2;go_meet
  case rel=>exact⟨rfl,by rw[a0f h1];rfl⟩
 case rest =>
 obtain⟨rfl,rfl⟩:=hcut;have k58:({ data:=#[58] }:ByteArray)=bs [58]:=rfl;have EK:w2.heap.size<=wc.heap.size:=SF.o.size;go_upto_if 71 with fail
 go_cut [5,6,7,8] (λvw v6 v7 v8 w9=>∃(told:Bool) (names V1:List LB) (dP:Value),oU V=some (told,names,V1)/\V1.length<=9001/\(∀x∈V1,x.length<=100000)/\RS (w.heap.size+1) w2 vw V1/\pN w9 w.heap.size ⟨x1,dP,-1,-1,-1,.slice none 0 0,false,.slice none 0 0,d,0⟩/\SL w2.heap.size w9 dP (byW told names)/\aA [w.heap.size] w2 w9)
 case first =>
  cases DT:(decide (1<V.length)&&(V.getD 0 []==wBy))
  case false =>
   have Hb:Z_ (oU V=some (false,[],V)):=by show _=_;unfold oU;rw[DT];rfl
   go_wp2;go_meet
   case rel=>exact⟨false,[],V,.slice none 0 0,Hb,apv,Xk,agj,Hr3,SL.nil _ _,SF⟩
  case true =>
  have h1:1<V.length:=by
   rw[a0N,a1E]at DT;exact DT.1
  obtain⟨g,off,rfl,c0,c1,cx⟩:=abq.o h1;have Hcx:=aj cx;clear cx;have p1:wc.cell? ⟨w.heap.size,1,none⟩=some (.slice none 0 0):=Hr3.o.cell 1;have pf:=Hr3.o.fz 1;have Ns:=Hr3.o.lt;have aka:(V.getD 1 []).length<=100000:=Xk.o _ (by rw[a0F,a0c h1];exact a0z _);have bN:Z_ (oU V=if V.getD 1 [] == [45] then some (true,[],V.drop 2)
   else if (dm false 44 (V.getD 1 [])).all aI&&decide ((dm false 44 (V.getD 1 [])).length<=4) then some (true,AL (dm false 44 (V.getD 1 [])),V.drop 2) else none):=by
   show _=_;unfold oU;rw[DT];rfl
  have EU:=aj (agj.o.drop2 2 (by omega));generalize V.getD 1 []=x2 at *;go_upto_region 15 with fail
  have Hrd:=aj ((Hr3.o.set 1 (.slice (some ⟨wc.heap.size,0,none⟩) 1 1) ⟨x1,.slice (some ⟨wc.heap.size,0,none⟩) 1 1,-1,-1,-1,.slice none 0 0,false,.slice none 0 0,d,0⟩ rfl).aB (S:=[]) ((aA.refl _ _).alloc (.cells #[.string (bs [58])] 9)) (by simp));have Fd:=aj ((SF.o.setCell (p:=⟨w.heap.size,1,none⟩) (by simp) (.slice (some ⟨wc.heap.size,0,none⟩) 1 1)).alloc (.cells #[.string (bs [58])] 9));have Hsd:Z_ (SL w2.heap.size ((wc.setCell ⟨w.heap.size,1,none⟩ (.slice (some ⟨wc.heap.size,0,none⟩) 1 1)).alloc (.cells #[.string (bs [58])] 9)) (.slice (some ⟨wc.heap.size,0,none⟩) 1 1) [[58]]):=by
   have:=World.ownsRow_lit (base:=w2.heap.size) (e:=9) (size:=1) (wc.setCell ⟨w.heap.size,1,none⟩ (.slice (some ⟨wc.heap.size,0,none⟩) 1 1)) #[.string (bs [58])] 1 (by simp[World.setCell];exact EK) (by unfold maxLen;omega) (by simp);have e:(wc.setCell ⟨w.heap.size,1,none⟩ (.slice (some ⟨wc.heap.size,0,none⟩) 1 1)).heap.size=wc.heap.size:=by simp[World.setCell]
   rw[e]at this;exact this
  generalize apw:wc.heap.size=bb at *;generalize (wc.setCell ⟨w.heap.size,1,none⟩ (.slice (some ⟨bb,0,none⟩) 1 1)).alloc (.cells #[.string (bs [58])] 9)=w5 at *;have c1':w5.cell? ⟨g,off+1,none⟩=some (.string (bs x2)):=Hcx.o w5 Fd;have yA:w2.heap.size<=w5.heap.size:=Fd.o.size;clear p1 pf c0 c1 apw;have slc:∀(v5:Value) (w9:World),pN w9 w.heap.size ⟨x1,v5,-1,-1,-1,.slice none 0 0,false,.slice none 0 0,d,0⟩->True:=λ_ _ _=>trivial
  clear slc;cases h45:(x2 == [45])
  case true =>
   have Hb:Z_ (oU V=some (true,[],V.drop 2)):=by show _=_;rw[bN.o,h45];rfl
   by_cases uM:aiZ=2
   ·have CK:RS (w.heap.size+1) w2 (.slice (some ⟨g,off,none⟩) (V.length-2) 0) (V.drop 2):=⟨some ⟨g,off,none⟩,0,by simp,by simp;omega,by simp;omega,λj hj=>by simp at hj;omega⟩
    have qE:=aj CK;clear CK;go_wp2;go_meet
    case rel=>exact⟨true,[],V.drop 2,_,Hb,by simp;omega,λx hx=>Xk.o x (a1h hx),qE,Hrd,Hsd,Fd⟩
   go_wp2;go_meet
   case rel=>exact⟨true,[],V.drop 2,_,Hb,by simp;omega,λx hx=>Xk.o x (a1h hx),EU,Hrd,Hsd,Fd⟩
  case false =>
  go_wp2_with fail
  refine(Gx x2 44 false w5 (by omega)).mono ?_;rintro e w6 ⟨v6,rfl,hs6,Bi⟩;have jX:=GB false 44 x2;obtain⟨hNx,hNl,hN1⟩:=jX;have HNx:=aj hNx;have oF:Z_ (oU V=if (dm false 44 x2).all aI&&decide ((dm false 44 x2).length<=4) then some (true,AL (dm false 44 x2),V.drop 2) else none):=by
   show _=_;rw[bN.o,h45];rfl
  clear bN hNx h45;generalize dm false 44 x2=N at *;obtain⟨aN,aqY,rfl⟩:=hs6.shape;have HsN:=aj ((hs6.rs (by omega)).base (base':=0) (a1C _));have Hr6:=aj (Hrd.o.aB Bi (by simp));have Hs6:=aj (Hsd.o.aB Bi (by simp));have F6:=aj (Fd.o.trans Bi.nil);clear hs6 Bi;have amQ:Z_ (((N.all aI&&decide (N.length<=4))=false)->wZ l=none):=by
   intro h;rw[HR4.o,oF.o,h];rfl
  have hfw:Z_ (∀wx,aA [w.heap.size] w2 wx->aA [] w wx):=λwx h=>l8.o.new h (by simp)
  go_wp2_with fail
  go_loopg [6,8] N.length (λk v6 vi wr=>∃(j:Nat),j+k=N.length/\vi=.int .i64 j/\(N.take j).all aI=true/\wr=w6)
  case atStart=>exact⟨0,by omega,rfl,by simp,rfl⟩
  case round =>
   obtain⟨j,hj,rfl,ja,hw6⟩:=hrel;subst hw6;have mi:=aj ja;clear ja
   by_cases aO:j<N.length
   ·obtain⟨a',xJ,e,_,_,h3⟩:=HsN.o
    simp at e;obtain⟨e1,e2⟩:=e;subst e1 e2;obtain⟨gN,aqZ,h4,_,h6⟩:=h3 j aO;subst h4;clear h3;have hyl:=HNx.o _ (a0z aO);have Ht:Z_ (N.take (j+1)=N.take j++[N[j]]):=a0I aO;have Hm:Z_ (N[j]∈N):=a0z aO;generalize N[j]=y at *;go_wp2_with fail
    refine(mQ y _ (by omega)).mono ?_;rintro e w' ⟨rfl,rfl⟩;cases hny:aI y
    ·have Hn:Z_ (wZ l=none):=amQ.o (by
      have:N.all aI=false:=by
       rw[a2E];intro ha;have:=a1e.1 ha y Hm;rw[hny]at this;cases this
      rw[this];rfl)
     go_wp2;go_ret2;exact Fin.o _ _ _ Hn.o rfl (hfw.o _ F6)
    have xz:Z_ ((N.take (j+1)).all aI=true):=by
     show _=_;rw[Ht.o,a1L,mi.o];simp[hny]
    go_wp2;go_roundg (gk-1)
    case measure=>omega
    case rel=>exact⟨j+1,by omega,by go_num,xz,rfl⟩
   have ZU:Z_ (N.all aI=true):=by
    have:=mi.o;rw[a0D (by omega)]at this;exact this
   by_cases h4:4<N.length
   ·have Hn:Z_ (wZ l=none):=amQ.o (by rw[a0f (by omega)];simp)
    have hd4:decide ((4:Int)<(N.length:Int))=true:=a0h (by omega);go_wp2;go_ret2;exact Fin.o _ _ _ Hn.o rfl (hfw.o _ F6)
   have hd4:decide ((4:Int)<(N.length:Int))=false:=a0f (by omega);have Hb:Z_ (oU V=some (true,AL N,V.drop 2)):=by
    show _=_;rw[oF.o,ZU.o,a0h (by omega)];rfl
   have pF:=ahC N;obtain⟨aq0,Wx⟩:=pF;have xX:=Wx hN1;go_wp2_with fail
   refine(adt _ N wr HsN.o (by omega)).mono ?_;rintro e w7 ⟨v7,rfl,hs7,xV⟩;have Hr7:=aj (Hr6.o.aB xV (by simp));have Hs7:=aj (Hs6.o.aB xV (by simp));have F7:=aj (F6.o.trans xV.nil);obtain⟨a7,c7,e7⟩:=hs7.shape;obtain⟨g7,hg7⟩:∃g7,a7=some ⟨g7,0,none⟩:=by
    rcases hs7.2 with⟨e,h⟩|⟨g,c,cur,e,_⟩
    ·omega
    rw[e7]at e;simp at e;exact⟨g,e.1⟩
   subst hg7 e7;have HN7:=aj hs7;have Jj:w2.heap.size<=w7.heap.size:=F7.o.size;have p1:w7.cell? ⟨w.heap.size,1,none⟩=some (.slice (some ⟨bb,0,none⟩) 1 1):=Hr7.o.cell 1;clear hs7 xV;generalize AL N=M at *;have FU:=(Hs7.o.lt bb rfl).1
   by_cases uM:aiZ=2
   ·have CK:RS (w.heap.size+1) w2 (.slice (some ⟨g,off,none⟩) (V.length-2) 0) (V.drop 2):=⟨some ⟨g,off,none⟩,0,by simp,by simp;omega,by simp;omega,λj hj=>by simp at hj;omega⟩
    have qE:=aj CK;clear CK;go_wp2_with (first | (at_builtin;refine Z6 _ rfl _ _ rfl w2.heap.size wr.heap.size (.slice (some ⟨bb,0,none⟩) 1 1) [[58]] M g7 c7 rfl Hs7.o rfl HN7.o (by omega) (by simp;omega) Jj ?_;intro gb Ex w8 hs8 hg8 hb8;have Hs8:=aj hs8;have F78:=aA.yR hg8;have Hr8:=aj (Hr7.o.aB F78 (by simp;omega));have F8:=aj (F7.o.grown hg8 (λk hk=>by simp[Value.ownBlock]at hk;omega));have p8:=Hr8.o.cell 1;have f8:=Hr8.o.fz 1;clear hs8 hg8 F78))
    go_meet
    case rel=>exact⟨true,M,V.drop 2,.slice (some ⟨gb,0,none⟩) (1+M.length) Ex,Hb,by simp;omega,λx hx=>Xk.o x (a1h hx),qE,Hr8.o.set 1 _ _ rfl,(Hs8.o.aB (S:=[w.heap.size]) ((aA.refl _ _).setCell (by simp) _) (by simp;omega)),F8.o.setCell (by simp) _⟩
   skip
   go_wp2_with (first | (at_builtin;refine Z6 _ rfl _ _ rfl w2.heap.size wr.heap.size (.slice (some ⟨bb,0,none⟩) 1 1) [[58]] M g7 c7 rfl Hs7.o rfl HN7.o (by omega) (by simp;omega) Jj ?_;intro gb Ex w8 hs8 hg8 hb8;have Hs8:=aj hs8;have F78:=aA.yR hg8;have Hr8:=aj (Hr7.o.aB F78 (by simp;omega));have F8:=aj (F7.o.grown hg8 (λk hk=>by simp[Value.ownBlock]at hk;omega));have p8:=Hr8.o.cell 1;have f8:=Hr8.o.fz 1;clear hs8 hg8 F78))
   go_meet
   case rel=>exact⟨true,M,V.drop 2,.slice (some ⟨gb,0,none⟩) (1+M.length) Ex,Hb,by simp;omega,λx hx=>Xk.o x (a1h hx),EU,Hr8.o.set 1 _ _ rfl,(Hs8.o.aB (S:=[w.heap.size]) ((aA.refl _ _).setCell (by simp) _) (by simp;omega)),F8.o.setCell (by simp) _⟩
 case rest =>
 obtain⟨told,names,V1,dP,Xl,apx,amR,wR,ko,pF,hfc⟩:=hcut;have F:=aj hfc;have rX:=aj ko;have GH:=aj pF;have Eg:Z_ (wZ l=match lQ 3 (-1,-1,-1) V1 with
       | none=>none
       | some (ts,W2)=>if (dC (W2.length+1) W2 []).2.2 then some ⟨x1,told,names,ts.1,ts.2.1,ts.2.2,(dC (W2.length+1) W2 []).1,(dC (W2.length+1) W2 []).2.1,d⟩ else none):=by
  show _=_;rw[HR4.o,Xl];rfl
 clear HR4 Xl hfc ko pF abq agj Xk SF Hr3 EK;have kw0:({ data:=#[119,97,105,116] }:ByteArray)=bs yh:=rfl;have kw1:({ data:=#[101,118,101,114,121] }:ByteArray)=bs tL:=rfl;have kw2:({ data:=#[114,101,112,101,97,116] }:ByteArray)=bs pO:=rfl;have amS:=bK wc (Obj.cells #[.string (bs yh),.string (bs tL),.string (bs pO)] 9);have amT:=aj amS;have EK:w2.heap.size<=wc.heap.size:=F.o.size;have Frb:=aj (rX.o.aB (S:=[]) ((aA.refl _ _).alloc (Obj.cells #[.string (bs yh),.string (bs tL),.string (bs pO)] 9)) (by simp));have Fsl:=aj (GH.o.aB (S:=[]) ((aA.refl _ _).alloc (Obj.cells #[.string (bs yh),.string (bs tL),.string (bs pO)] 9)) (by simp));have FF:=aj (F.o.alloc (Obj.cells #[.string (bs yh),.string (bs tL),.string (bs pO)] 9));clear amS rX GH F;have Xf:=aj wR;have akb:=aj amR;clear wR amR;go_wp2_with fail
 generalize apy:wc.heap.size=bw at *;have aq1:w.heap.size<bw:=by omega
 clear apy;go_loopg [5,10] 3 (λk vw vi wr=>∃(t0 t1 t2:Int) (W':List LB),k<=3/\vi=.int .i64 (3-k:Nat)/\W'.length<=9001/\(∀x∈W',x.length<=100000)/\RS (w.heap.size+1) w2 vw W'/\pN wr w.heap.size ⟨x1,dP,t0,t1,t2,.slice none 0 0,false,.slice none 0 0,d,0⟩/\SL w2.heap.size wr dP (byW told names)/\aA [w.heap.size] w2 wr/\wr.heap[bw]?=some (.cells #[.string (bs yh),.string (bs tL),.string (bs pO)] 9 (0,0))/\lQ k (t0,t1,t2) W'=lQ 3 (-1,-1,-1) V1)
 case atStart=>exact⟨-1,-1,-1,V1,a0a _,rfl,apx,akb,Xf,Frb,Fsl,FF,amT,rfl⟩
 case round =>
  clear Frb Fsl FF amT Xf akb;obtain⟨t0,t1,t2,W',Py,rfl,YF,hwx,wR,ko,pF,hf,UM,htm⟩:=hrel;have EW:=aj hwx;have Bq:=aj wR;have rX:=aj ko;have GH:=aj pF;have F:=aj hf;have Bw:=aj UM;have Htm:=aj htm;have Vd:=ko.lt;obtain⟨aw,akc,ew,_,hWc,_⟩:=wR;subst ew;clear hwx ko pF hf UM htm;rcases(show gk=3\/gk=2\/gk=1\/gk=0 by omega) with rfl|rfl|rfl|rfl
  ·have q0:wr.cell? ⟨bw,0,none⟩=some (.string (bs yh)):=by simp[World.cell?,Bw.o]
   have pt:wr.cell? ⟨w.heap.size,2,none⟩=some (.int .i64 t0):=rX.o.cell 2;have pf:=rX.o.fz 2;have bN:Z_ (lQ 3 (-1,-1,-1) V1=if decide (1<W'.length)&&(W'.getD 0 []==yh) then
    (if decide (fZ (W'.getD 1 [])<0) then none else lQ 2 (fZ (W'.getD 1 []),t1,t2) (W'.drop 2)) else lQ 2 (t0,t1,t2) W'):=by
    show _=_;rw[<-Htm.o];rfl
   by_cases h1:1<W'.length
   case neg =>
    have iH:decide ((1:Int)<(W'.length:Int))=false:=a0f (by omega);have Hx:Z_ (lQ 2 (t0,t1,t2) W'=lQ 3 (-1,-1,-1) V1):=by show _=_;rw[bN.o,a0f h1];rfl
    go_wp2;go_quiet (fail)
    go_wp2;go_roundg 2
    case measure=>omega
    case rel=>exact⟨t0,t1,t2,W',by omega,by go_num,YF,EW,Bq,rX,GH,F.o.drewN _,Bw,Hx⟩
   case pos =>
   have iH:decide ((1:Int)<(W'.length:Int))=true:=a0h (by omega);obtain⟨g,off,ha,NG,_,_,aV⟩:=Bq.o.yg (by omega);subst ha;have d0:=aV 0 (by omega);have d1:=aV 1 (by omega);have Rq:=World.block_lt_of_cell? w2 _ d1;have c0:wr.cell? ⟨g,off,none⟩=some (.string (bs (W'.getD 0 []))):=(F.o.cell (p:=⟨g,off,none⟩) Rq (by simp;omega)).trans d0;have c1:wr.cell? ⟨g,off+1,none⟩=some (.string (bs (W'.getD 1 []))):=(F.o.cell (p:=⟨g,off+1,none⟩) Rq (by simp;omega)).trans d1;have aka:(W'.getD 1 []).length<=100000:=EW.o _ (by rw[a0F,a0c h1];exact a0z _);have EU:=aj (Bq.o.drop2 2 (by omega));clear aV d0 d1;generalize W'.getD 0 []=y0 at *;generalize W'.getD 1 []=y1 at *;cases hy:(y0==yh)
   case false =>
    have Hx:Z_ (lQ 2 (t0,t1,t2) W'=lQ 3 (-1,-1,-1) V1):=by show _=_;rw[bN.o,hy];simp
    go_wp2;go_quiet (fail)
    go_wp2;go_roundg 2
    case measure=>omega
    case rel=>exact⟨t0,t1,t2,W',by omega,by go_num,YF,EW,Bq,rX,GH,F.o.drewN _,Bw,Hx⟩
   case true =>
   have oF:Z_ (lQ 3 (-1,-1,-1) V1=if decide (fZ y1<0) then none else lQ 2 (fZ y1,t1,t2) (W'.drop 2)):=by
    show _=_;rw[bN.o,hy,a0h h1];rfl
   generalize ER:fZ y1=nn at *
   by_cases zJ:nn<0
   ·have GA:decide (nn<0)=true:=a0h zJ
    have Hn:Z_ (wZ l=none):=by show _=_;rw[Eg.o,oF.o,GA];rfl
    go_wp2;go_quiet (fail)
    go_wp2_with fail
    go_region_with (go_at_call 36;refine(ll y1 _ (by omega)).mono ?_;rintro e w' ⟨rfl,rfl⟩;rw[ER])
    go_wp2;go_ret2;exact Fin.o _ _ _ Hn.o rfl (l8.o.new ((F.o.drewN _).setCell (by simp) _) (by simp))
   have GA:decide (nn<0)=false:=a0f zJ;have Hx:Z_ (lQ 2 (nn,t1,t2) (W'.drop 2)=lQ 3 (-1,-1,-1) V1):=by
    show _=_;rw[oF.o,GA];rfl
   by_cases uM:akc=2
   ·have CK:RS (w.heap.size+1) w2 (.slice (some ⟨g,off,none⟩) (W'.length-2) 0) (W'.drop 2):=⟨some ⟨g,off,none⟩,0,by simp,by simp;omega,by simp;omega,λj hj=>by simp at hj;omega⟩
    have qE:=aj CK;clear CK;go_wp2;go_quiet (fail)
    go_wp2_with fail
    go_region_with (go_at_call 36;refine(ll y1 _ (by omega)).mono ?_;rintro e w' ⟨rfl,rfl⟩;rw[ER])
    go_wp2;go_roundg 2
    case measure=>omega
    case rel=>exact⟨nn,t1,t2,W'.drop 2,by omega,by go_num,by simp;omega,λx hx=>EW.o x (a1h hx),qE,(rX.o.set 2 _ ⟨x1,dP,nn,t1,t2,.slice none 0 0,false,.slice none 0 0,d,0⟩ rfl),(GH.o.aB (S:=[w.heap.size]) (((aA.refl [w.heap.size] wr).drewN _).setCell (p:=⟨w.heap.size,2,none⟩) (by simp) (.int .i64 nn)) (by simp;omega)),(F.o.drewN _).setCell (by simp) _,(((aA.refl [w.heap.size] wr).setCell (p:=⟨w.heap.size,2,none⟩) (by simp) (.int .i64 nn)).block bw (a0d.1 Bw).1 (by simp;omega)).trans Bw,Hx⟩
   go_wp2;go_quiet (fail)
   go_wp2_with fail
   go_region_with (go_at_call 36;refine(ll y1 _ (by omega)).mono ?_;rintro e w' ⟨rfl,rfl⟩;rw[ER])
   go_wp2;go_roundg 2
   case measure=>omega
   case rel=>exact⟨nn,t1,t2,W'.drop 2,by omega,by go_num,by simp;omega,λx hx=>EW.o x (a1h hx),EU,(rX.o.set 2 _ ⟨x1,dP,nn,t1,t2,.slice none 0 0,false,.slice none 0 0,d,0⟩ rfl),(GH.o.aB (S:=[w.heap.size]) (((aA.refl [w.heap.size] wr).drewN _).setCell (p:=⟨w.heap.size,2,none⟩) (by simp) (.int .i64 nn)) (by simp;omega)),(F.o.drewN _).setCell (by simp) _,(((aA.refl [w.heap.size] wr).setCell (p:=⟨w.heap.size,2,none⟩) (by simp) (.int .i64 nn)).block bw (a0d.1 Bw).1 (by simp;omega)).trans Bw,Hx⟩
  ·have q0:wr.cell? ⟨bw,1,none⟩=some (.string (bs tL)):=by simp[World.cell?,Bw.o]
   have pt:wr.cell? ⟨w.heap.size,3,none⟩=some (.int .i64 t1):=rX.o.cell 3;have pf:=rX.o.fz 3;have bN:Z_ (lQ 3 (-1,-1,-1) V1=if decide (1<W'.length)&&(W'.getD 0 []==tL) then
    (if decide (fZ (W'.getD 1 [])<0) then none else lQ 1 (t0,fZ (W'.getD 1 []),t2) (W'.drop 2)) else lQ 1 (t0,t1,t2) W'):=by
    show _=_;rw[<-Htm.o];rfl
   by_cases h1:1<W'.length
   case neg =>
    have iH:decide ((1:Int)<(W'.length:Int))=false:=a0f (by omega);have Hx:Z_ (lQ 1 (t0,t1,t2) W'=lQ 3 (-1,-1,-1) V1):=by show _=_;rw[bN.o,a0f h1];rfl
    go_wp2;go_quiet (fail)
    go_wp2;go_roundg 1
    case measure=>omega
    case rel=>exact⟨t0,t1,t2,W',by omega,by go_num,YF,EW,Bq,rX,GH,F.o.drewN _,Bw,Hx⟩
   case pos =>
   have iH:decide ((1:Int)<(W'.length:Int))=true:=a0h (by omega);obtain⟨g,off,ha,NG,_,_,aV⟩:=Bq.o.yg (by omega);subst ha;have d0:=aV 0 (by omega);have d1:=aV 1 (by omega);have Rq:=World.block_lt_of_cell? w2 _ d1;have c0:wr.cell? ⟨g,off,none⟩=some (.string (bs (W'.getD 0 []))):=(F.o.cell (p:=⟨g,off,none⟩) Rq (by simp;omega)).trans d0;have c1:wr.cell? ⟨g,off+1,none⟩=some (.string (bs (W'.getD 1 []))):=(F.o.cell (p:=⟨g,off+1,none⟩) Rq (by simp;omega)).trans d1;have aka:(W'.getD 1 []).length<=100000:=EW.o _ (by rw[a0F,a0c h1];exact a0z _);have EU:=aj (Bq.o.drop2 2 (by omega));clear aV d0 d1;generalize W'.getD 0 []=y0 at *;generalize W'.getD 1 []=y1 at *;cases hy:(y0==tL)
   case false =>
    have Hx:Z_ (lQ 1 (t0,t1,t2) W'=lQ 3 (-1,-1,-1) V1):=by show _=_;rw[bN.o,hy];simp
    go_wp2;go_quiet (fail)
    go_wp2;go_roundg 1
    case measure=>omega
    case rel=>exact⟨t0,t1,t2,W',by omega,by go_num,YF,EW,Bq,rX,GH,F.o.drewN _,Bw,Hx⟩
   case true =>
   have oF:Z_ (lQ 3 (-1,-1,-1) V1=if decide (fZ y1<0) then none else lQ 1 (t0,fZ y1,t2) (W'.drop 2)):=by
    show _=_;rw[bN.o,hy,a0h h1];rfl
   generalize ER:fZ y1=nn at *
   by_cases zJ:nn<0
   ·have GA:decide (nn<0)=true:=a0h zJ
    have Hn:Z_ (wZ l=none):=by show _=_;rw[Eg.o,oF.o,GA];rfl
    go_wp2;go_quiet (fail)
    go_wp2_with fail
    go_region_with (go_at_call 36;refine(ll y1 _ (by omega)).mono ?_;rintro e w' ⟨rfl,rfl⟩;rw[ER])
    go_wp2;go_ret2;exact Fin.o _ _ _ Hn.o rfl (l8.o.new ((F.o.drewN _).setCell (by simp) _) (by simp))
   have GA:decide (nn<0)=false:=a0f zJ;have Hx:Z_ (lQ 1 (t0,nn,t2) (W'.drop 2)=lQ 3 (-1,-1,-1) V1):=by
    show _=_;rw[oF.o,GA];rfl
   by_cases uM:akc=2
   ·have CK:RS (w.heap.size+1) w2 (.slice (some ⟨g,off,none⟩) (W'.length-2) 0) (W'.drop 2):=⟨some ⟨g,off,none⟩,0,by simp,by simp;omega,by simp;omega,λj hj=>by simp at hj;omega⟩
    have qE:=aj CK;clear CK;go_wp2;go_quiet (fail)
    go_wp2_with fail
    go_region_with (go_at_call 36;refine(ll y1 _ (by omega)).mono ?_;rintro e w' ⟨rfl,rfl⟩;rw[ER])
    go_wp2;go_roundg 1
    case measure=>omega
    case rel=>exact⟨t0,nn,t2,W'.drop 2,by omega,by go_num,by simp;omega,λx hx=>EW.o x (a1h hx),qE,(rX.o.set 3 _ ⟨x1,dP,t0,nn,t2,.slice none 0 0,false,.slice none 0 0,d,0⟩ rfl),(GH.o.aB (S:=[w.heap.size]) (((aA.refl [w.heap.size] wr).drewN _).setCell (p:=⟨w.heap.size,3,none⟩) (by simp) (.int .i64 nn)) (by simp;omega)),(F.o.drewN _).setCell (by simp) _,(((aA.refl [w.heap.size] wr).setCell (p:=⟨w.heap.size,3,none⟩) (by simp) (.int .i64 nn)).block bw (a0d.1 Bw).1 (by simp;omega)).trans Bw,Hx⟩
   go_wp2;go_quiet (fail)
   go_wp2_with fail
   go_region_with (go_at_call 36;refine(ll y1 _ (by omega)).mono ?_;rintro e w' ⟨rfl,rfl⟩;rw[ER])
   go_wp2;go_roundg 1
   case measure=>omega
   case rel=>exact⟨t0,nn,t2,W'.drop 2,by omega,by go_num,by simp;omega,λx hx=>EW.o x (a1h hx),EU,(rX.o.set 3 _ ⟨x1,dP,t0,nn,t2,.slice none 0 0,false,.slice none 0 0,d,0⟩ rfl),(GH.o.aB (S:=[w.heap.size]) (((aA.refl [w.heap.size] wr).drewN _).setCell (p:=⟨w.heap.size,3,none⟩) (by simp) (.int .i64 nn)) (by simp;omega)),(F.o.drewN _).setCell (by simp) _,(((aA.refl [w.heap.size] wr).setCell (p:=⟨w.heap.size,3,none⟩) (by simp) (.int .i64 nn)).block bw (a0d.1 Bw).1 (by simp;omega)).trans Bw,Hx⟩
  ·have q0:wr.cell? ⟨bw,2,none⟩=some (.string (bs pO)):=by simp[World.cell?,Bw.o]
   have pt:wr.cell? ⟨w.heap.size,4,none⟩=some (.int .i64 t2):=rX.o.cell 4;have pf:=rX.o.fz 4;have bN:Z_ (lQ 3 (-1,-1,-1) V1=if decide (1<W'.length)&&(W'.getD 0 []==pO) then
    (if decide (fZ (W'.getD 1 [])<0) then none else lQ 0 (t0,t1,fZ (W'.getD 1 [])) (W'.drop 2)) else lQ 0 (t0,t1,t2) W'):=by
    show _=_;rw[<-Htm.o];rfl
   by_cases h1:1<W'.length
   case neg =>
    have iH:decide ((1:Int)<(W'.length:Int))=false:=a0f (by omega);have Hx:Z_ (lQ 0 (t0,t1,t2) W'=lQ 3 (-1,-1,-1) V1):=by show _=_;rw[bN.o,a0f h1];rfl
    go_wp2;go_quiet (fail)
    go_wp2;go_roundg 0
    case measure=>omega
    case rel=>exact⟨t0,t1,t2,W',by omega,by go_num,YF,EW,Bq,rX,GH,F.o.drewN _,Bw,Hx⟩
   case pos =>
   have iH:decide ((1:Int)<(W'.length:Int))=true:=a0h (by omega);obtain⟨g,off,ha,NG,_,_,aV⟩:=Bq.o.yg (by omega);subst ha;have d0:=aV 0 (by omega);have d1:=aV 1 (by omega);have Rq:=World.block_lt_of_cell? w2 _ d1;have c0:wr.cell? ⟨g,off,none⟩=some (.string (bs (W'.getD 0 []))):=(F.o.cell (p:=⟨g,off,none⟩) Rq (by simp;omega)).trans d0;have c1:wr.cell? ⟨g,off+1,none⟩=some (.string (bs (W'.getD 1 []))):=(F.o.cell (p:=⟨g,off+1,none⟩) Rq (by simp;omega)).trans d1;have aka:(W'.getD 1 []).length<=100000:=EW.o _ (by rw[a0F,a0c h1];exact a0z _);have EU:=aj (Bq.o.drop2 2 (by omega));clear aV d0 d1;generalize W'.getD 0 []=y0 at *;generalize W'.getD 1 []=y1 at *;cases hy:(y0==pO)
   case false =>
    have Hx:Z_ (lQ 0 (t0,t1,t2) W'=lQ 3 (-1,-1,-1) V1):=by show _=_;rw[bN.o,hy];simp
    go_wp2;go_quiet (fail)
    go_wp2;go_roundg 0
    case measure=>omega
    case rel=>exact⟨t0,t1,t2,W',by omega,by go_num,YF,EW,Bq,rX,GH,F.o.drewN _,Bw,Hx⟩
   case true =>
   have oF:Z_ (lQ 3 (-1,-1,-1) V1=if decide (fZ y1<0) then none else lQ 0 (t0,t1,fZ y1) (W'.drop 2)):=by
    show _=_;rw[bN.o,hy,a0h h1];rfl
   generalize ER:fZ y1=nn at *
   by_cases zJ:nn<0
   ·have GA:decide (nn<0)=true:=a0h zJ
    have Hn:Z_ (wZ l=none):=by show _=_;rw[Eg.o,oF.o,GA];rfl
    go_wp2;go_quiet (fail)
    go_wp2_with fail
    go_region_with (go_at_call 36;refine(ll y1 _ (by omega)).mono ?_;rintro e w' ⟨rfl,rfl⟩;rw[ER])
    go_wp2;go_ret2;exact Fin.o _ _ _ Hn.o rfl (l8.o.new ((F.o.drewN _).setCell (by simp) _) (by simp))
   have GA:decide (nn<0)=false:=a0f zJ;have Hx:Z_ (lQ 0 (t0,t1,nn) (W'.drop 2)=lQ 3 (-1,-1,-1) V1):=by
    show _=_;rw[oF.o,GA];rfl
   by_cases uM:akc=2
   ·have CK:RS (w.heap.size+1) w2 (.slice (some ⟨g,off,none⟩) (W'.length-2) 0) (W'.drop 2):=⟨some ⟨g,off,none⟩,0,by simp,by simp;omega,by simp;omega,λj hj=>by simp at hj;omega⟩
    have qE:=aj CK;clear CK;go_wp2;go_quiet (fail)
    go_wp2_with fail
    go_region_with (go_at_call 36;refine(ll y1 _ (by omega)).mono ?_;rintro e w' ⟨rfl,rfl⟩;rw[ER])
    go_wp2;go_roundg 0
    case measure=>omega
    case rel=>exact⟨t0,t1,nn,W'.drop 2,by omega,by go_num,by simp;omega,λx hx=>EW.o x (a1h hx),qE,(rX.o.set 4 _ ⟨x1,dP,t0,t1,nn,.slice none 0 0,false,.slice none 0 0,d,0⟩ rfl),(GH.o.aB (S:=[w.heap.size]) (((aA.refl [w.heap.size] wr).drewN _).setCell (p:=⟨w.heap.size,4,none⟩) (by simp) (.int .i64 nn)) (by simp;omega)),(F.o.drewN _).setCell (by simp) _,(((aA.refl [w.heap.size] wr).setCell (p:=⟨w.heap.size,4,none⟩) (by simp) (.int .i64 nn)).block bw (a0d.1 Bw).1 (by simp;omega)).trans Bw,Hx⟩
   go_wp2;go_quiet (fail)
   go_wp2_with fail
   go_region_with (go_at_call 36;refine(ll y1 _ (by omega)).mono ?_;rintro e w' ⟨rfl,rfl⟩;rw[ER])
   go_wp2;go_roundg 0
   case measure=>omega
   case rel=>exact⟨t0,t1,nn,W'.drop 2,by omega,by go_num,by simp;omega,λx hx=>EW.o x (a1h hx),EU,(rX.o.set 4 _ ⟨x1,dP,t0,t1,nn,.slice none 0 0,false,.slice none 0 0,d,0⟩ rfl),(GH.o.aB (S:=[w.heap.size]) (((aA.refl [w.heap.size] wr).drewN _).setCell (p:=⟨w.heap.size,4,none⟩) (by simp) (.int .i64 nn)) (by simp;omega)),(F.o.drewN _).setCell (by simp) _,(((aA.refl [w.heap.size] wr).setCell (p:=⟨w.heap.size,4,none⟩) (by simp) (.int .i64 nn)).block bw (a0d.1 Bw).1 (by simp;omega)).trans Bw,Hx⟩
  have HR6:Z_ (wZ l=if (dC (W'.length+1) W' []).2.2 then some ⟨x1,told,names,t0,t1,t2,(dC (W'.length+1) W' []).1,(dC (W'.length+1) W' []).2.1,d⟩ else none):=by
   show _=_;rw[Eg.o,<-Htm.o];rfl
  clear Eg;have apz:=aj (Bq.o.aB F.o (by simp));go_wp2_with fail
  refine(ahB w.heap.size (w.heap.size+1) _ W' ⟨x1,dP,t0,t1,t2,.slice none 0 0,false,.slice none 0 0,d,0⟩ wr rX.o apz.o (by omega) rfl rfl (by omega) EW).mono ?_;rintro e w' ⟨rfl,⟨vi',Jf,hi'⟩,hf'⟩;have Hb':=aj Jf;have Hi':=aj hi';have F':=aj hf';have hzr:w.heap.size<=wr.heap.size:=by omega
  clear Jf hi' hf';generalize dC (W'.length+1) W' []=RES at *;obtain⟨ra,ro,rk⟩:=RES;go_wp2;go_ret2;have hF:aA [] w w':=l8.o.new (F.o.trans F') (by simp);refine⟨?_,hF⟩;rw[HR6.o];cases rk with
  | false=>exact⟨_,rfl⟩
  | true=>exact⟨w.heap.size,_,a0a _,rfl,⟨Hb',rfl,uF (GH.o.aB F'.o (by simp;omega)) (by omega),rfl,rfl,rfl,uF Hi'.o hzr,rfl,rfl,rfl,rfl⟩⟩
theorem agk:(Tryz.prog.info? 68).map (λi=>(i.zero,i.size,i.bytes))=some (some (.pointer none),1,8):=by kernel_rfl
theorem Xm {o:Oper} {Q:Exit->Act->World->Prop}(w:World)(nJ:o.guard=none)(s x:Operand)
 (ho:o.op=.call { callee:=.builtin .append,args:=#[s,x],argTypes:=#[69,69] })
 (base:Nat) (v:Value) (B:LN) (b b1:Nat) (hs:a.eval s=v) (aQ:LP base w v B) (hx:a.eval x=.slice (some ⟨b1,0,none⟩) 1 1)
 (hc:w.cell? ⟨b1,0,none⟩=some (sU b)) (hlen:B.length<=1048576) (iW:base<=w.heap.size)
 (h:∀g cap w',LP base w' (.slice (some ⟨g,0,none⟩) (B.length+1) cap) (B++[b])->w.grownBy w' v.ownBlock->(v.ownBlock=some g\/g=w.heap.size)->wpList Tryz.prog ops Q rest (a.put o.dst (.slice (some ⟨g,0,none⟩) (B.length+1) cap)) w') :
 wpList Tryz.prog ops Q (o::rest) a w:=by
 obtain⟨i0,hi,iA,fT,gF⟩:=info_parts agk;refine wpList_append_lies w nJ s x 69 ho base 68 i0 (.pointer none) 1 8 Tryz.underlying69 hi iA fT gF rfl (by decide) v B.length (B.map sU) hs aQ ⟨b1,0,none⟩ 1 1 [sU b] hx rfl ?_ (λx hx=>by simp at hx;subst hx;rfl) (by decide) (by unfold maxLen;omega) (by omega) iW w.heap.size rfl ?_
 ·intro j u hj
  have:j=0:=by
   cases j with
   | zero=>rfl
   | succ j=>simp at hj
  subst this;rw[add0];simp at hj;rw[<-hj];exact hc
 intro g cap w' h1 h2 h3 h4;exact h g cap w' (by unfold LP;simpa using h1) h2 h3
def grE(cb:Nat)(f:Nat × Nat):Ending:=.returned (.tuple #[if f.1=0 then sU cb else .pointer none,.int .i64 f.1,.int .i64 f.2])
theorem Z8(L:List LB)(R:List RR)(n:Nat)(h:rG R=n)(hn:n≠0):uQ L R=(3,n):=by
 unfold uQ;rw[h,a0j hn]
theorem akd(L:List LB)(R:List RR)(h:rG R=0)(hd:kM [] L=true):uQ L R=(4,1):=by
 unfold uQ;rw[h,a0g (by simp),a0j hd]
theorem ahF(L:List LB)(R:List RR)(n:Nat)(h:rG R=0)(hd:kM [] L=false)(hn:jZ L R 0=n)(h0:n≠0):uQ L R=(4,n):=by
 unfold uQ;rw[h,a0g (by simp),hd,hn,a0j h0];rfl
theorem alU(L:List LB)(R:List RR)(h:rG R=0)(hd:kM [] L=false)(hn:jZ L R 0=0):uQ L R=(0,0):=by
 unfold uQ;rw[h,a0g (by simp),hd,hn];rfl
theorem Xn(R:List RR)(h:0<R.length):rG R=nI R 0 0:=by
 unfold rG;cases R with
 | nil=>simp at h
 | cons=>rfl
theorem Rs {X:List (Nat × jK × RR)} {j:Nat} {x:Nat × jK × RR}(h:X[j]?=some x):Bv (xd (X.take (j+1)))=afa (Bv (xd (X.take j))) (x.1,x.2.2.d):=by
 unfold Bv xd;rw[a1n,h];simp
def GP(w:World)(cb:Nat)(vr vl:Value)(L:List LB)(X:List (Nat × jK × RR))(e:Ending)(w':World):Prop :=
 e=grE cb (uQ L (X.map (·.2.2)))/\aA (cb::X.map (·.1)) w w'/\((uQ L (X.map (·.2.2))).1=0->∃K:Nat->Value,oV w' cb vr (sU ((X.map (·.1)).getD 0 0)) vl/\(∀x∈X,pN w' x.1 { x.2.1 with vk:=K x.1 })/\∀x∈X,LP w.heap.size w' (K x.1) ((Bv (xd X)).2 x.1))
theorem GP.bad{w':World} {cb:Nat} {vr vl:Value} {L:List LB} {X:List (Nat × jK × RR)} {e:Ending}{l:Nat}(h:uQ L (X.map (·.2.2))=(n+1,l))(he:e=grE cb (n+1,l))(hf:aA (cb::X.map (·.1)) w w'):GP w cb vr vl L X e w' :=
 ⟨by rw[h];exact he,hf,λh0=>by rw[h]at h0;simp at h0⟩
theorem abr:∀(L:List LB) (x:LB) (j:Nat),(∃k,L.findIdx? (·==x)=some k/\k<j)↔x∈L.take j
 | [],x,j=>by simp
 | y::L,x,0=>by simp
 | y::L,x,j+1=>by
   rw[List.findIdx?_cons,a2N]
   by_cases h:(y==x)=true
   ·rw[a0j h]
    have:y=x:=by simpa using h
    subst this;simp
   rw[a0g h];have hn:x≠y:=λe=>h (by simp[e])
   rw[a0l,<-abr L x j]
   constructor
   ·rintro⟨k,hk,hl⟩
    cases hh:L.findIdx? (·==x) with
    | none=>simp[hh]at hk
    | some k'=>simp[hh]at hk;exact .inr ⟨k',rfl,by omega⟩
   rintro(e|⟨k,hk,hl⟩)
   ·exact(hn e).elim
   exact⟨k+1,by simp[hk],by omega⟩
theorem ahG(L:List LB)(j:Nat)(x:LB)(hx:x∈L):decide (ma L x<(j:Int))=(L.take j).contains x:=by
 have h:=abr L x j;rw[a0P,a1E,List.contains_iff_mem,<-h];unfold ma;cases hh:L.findIdx? (·==x) with
 | none =>
   have:=a2k.1 hh x hx;simp at this
 | some k=>simp
theorem ahH(L:List LB)(x:LB):decide (ma L x<0)=!(L.contains x):=by
 have h:=abr L x L.length;rw[a2i]at h;unfold ma;cases hh:L.findIdx? (·==x) with
 | none =>
   have:x∉L:=λhx=>by obtain⟨k,hk,_⟩:=h.2 hx;rw[hh]at hk;simp at hk
   simp[this]
 | some k =>
   have hk:k<L.length:=by have:=(List.findIdx?_eq_some_iff_findIdx_eq.1 hh).1;exact this
   have:x∈L:=h.1 ⟨k,hh,hk⟩;simp[this]
theorem ake {o:Oper} {Q:Exit->Act->World->Prop}(w:World)(nJ:o.guard=none)(s x:Operand)
 (ho:o.op=.call { callee:=.builtin .append,args:=#[s,x],argTypes:=#[69,69] })
 (base:Nat) (v:Value) (n:Nat) (xs:List Value) (b b1:Nat) (hs:a.eval s=v) (aQ:w.ownsRow base 68 1 v n xs) (hx:a.eval x=.slice (some ⟨b1,0,none⟩) 1 1)
 (hc:w.cell? ⟨b1,0,none⟩=some (sU b)) (hlen:n<=1048576) (iW:base<=w.heap.size)
 (h:∀g cap w',w'.ownsRow base 68 1 (.slice (some ⟨g,0,none⟩) (n+1) cap) (n+1) (xs++[sU b])->w.grownBy w' v.ownBlock->(v.ownBlock=some g\/g=w.heap.size)->wpList Tryz.prog ops Q rest (a.put o.dst (.slice (some ⟨g,0,none⟩) (n+1) cap)) w') :
 wpList Tryz.prog ops Q (o::rest) a w:=by
 obtain⟨i0,hi,iA,fT,gF⟩:=info_parts agk;refine wpList_append_lies w nJ s x 69 ho base 68 i0 (.pointer none) 1 8 Tryz.underlying69 hi iA fT gF rfl (by decide) v n xs hs aQ ⟨b1,0,none⟩ 1 1 [sU b] hx rfl ?_ (λx hx=>by simp at hx;subst hx;rfl) (by decide) (by unfold maxLen;omega) (by omega) iW w.heap.size rfl ?_
 ·intro j u hj
  have:j=0:=by
   cases j with
   | zero=>rfl
   | succ j=>simp at hj
  subst this;rw[add0];simp at hj;rw[<-hj];exact hc
 intro g cap w' h1 h2 h3 h4;exact h g cap w' h1 h2 h3
theorem Ei(w:World)(v:Value)(t:TypeId)(n:Nat)(h:w.heap.size=n):(w.alloc (.cells #[v] t)).cell? ⟨n,0,none⟩=some v:=by subst h;simp
theorem jL(w:World)(a:Addr)(v:Value):(w.setCell a v).heap.size=w.heap.size:=by simp[World.setCell]
theorem oV.set1 {b:Nat} {x y z:Value}(h:oV w b x y z)(v:Value):oV (w.setCell ⟨b,1,none⟩ v) b x v z:=by
 unfold oV at *;simp[World.setCell,a0t,h]
theorem LP.some {base:Nat} {a:Option Addr}{cap:Nat} {B:LN}(h:LP base w (.slice a n cap) B)(h0:0<B.length):∃g,a=some ⟨g,0,none⟩/\n=B.length/\B.length<=cap:=by
 rcases h.2 with⟨_,e⟩|⟨g,c,cur,e,_,_,h3,_⟩
 ·omega
 simp at e;obtain⟨rfl,rfl,rfl⟩:=e;exact⟨g,rfl,rfl,h3⟩
theorem afc(cb base:Nat)(vr vl:Value)(L:List LB)(X:List (Nat × jK × RR))(w:World)(hc:oV w cb vr (.pointer none) vl)
 (hs:∀w',aA (cb::X.map (·.1)) w w'->RS 0 w' vr L/\LP base w' vl (X.map (·.1)))
 (hx:∀x∈X,zZ base w x.1 x.2.1 x.2.2/\x.2.1.vk=.slice none 0 0) (iN:∀(i:Nat) x,X[i]?=some x->x.2.1.row=(i:Int)+2) (hcx:∀x∈X,x.1≠cb) (oo:(X.map (·.1)).Nodup) (hL:L.length<=9000) (hX:X.length<=9000) (nA:∀x∈X,x.2.2.d<=9000) :
 Calls Tryz.prog 21 #[sU cb] w (GP w cb vr vl L X):=by
 have EM:=bg;have k45:({ data:=#[45] }:ByteArray).toList=[45]:=bg _;have Hc:=aj hc;have Hs:=aj hs;have Hx:=aj hx;have agh:=aj iN;have Hcx:=aj hcx;have Hdd:=aj nA;have yx:=hc.lt;have G0:GI w w cb X (λ_=>.slice none 0 0) (λ_=>[]) [] (.slice none 0 0) 0:=by
  refine⟨λx hx=>(Hx.o x hx).1.at_.lt,λx hx=>?_,λx hx=>⟨a0a _,World.ownsRow_nil _ _ _ _⟩,by simp[Value.ownBlock],by simp[Value.ownBlock],World.ownsRow_nil _ _ _ _,by simp,aA.refl _ _⟩;have h1:=(Hx.o x hx).1.at_;have h2:=(Hx.o x hx).2;rw[show({ x.2.1 with vk:=.slice none 0 0 }:jK)=x.2.1 by rw[<-h2]];exact h1
 have HG0:=aj G0;obtain⟨b0,j6⟩:∃b0,(X.map (·.1)).getD 0 0=b0:=⟨_,rfl⟩;have vG:=aj j6;clear j6;obtain⟨⟨ar,cr,hvr,-,qQ,-⟩,Tk⟩:=hs w (aA.refl _ _);obtain⟨al,cl,Dy⟩:=aT Tk;rw[a0B]at Dy;subst hvr Dy;clear hc hs hx iN hcx nA G0 Tk oo;show Calls Tryz.prog 21 #[.pointer (some ⟨cb,0,none⟩)] w _;go_enter Tryz.func21,Tryz.ntmps21
 go_wp2_with fail
 go_loopg [5,6] X.length (λk vw vi wr=>∃(j:Nat) (K:Nat->Value) (C:Nat->LN) (B:LN) (vt:Value),j+k=X.length/\vi=.int .i64 j/\(∃aw cw,vw=.slice aw B.length cw)/\GI w wr cb X K C B vw j/\Bv (xd (X.take j))=(B,C)/\oV wr cb (.slice ar L.length cr) vt (.slice al X.length cl)/\(j=0->vt=.pointer none/\vw=.slice none 0 0)/\(0<j->vt=.pointer (some ⟨b0,0,none⟩))/\nI ((X.map (·.2.2)).drop j) j B.length=nI (X.map (·.2.2)) 0 0)
 case atStart=>exact⟨0,_,_,[],_,by omega,rfl,⟨_,_,rfl⟩,HG0,rfl,Hc,λ_=>⟨rfl,rfl⟩,λh=>by omega,by simp⟩
 case round =>
 obtain⟨j,K,C,B,vt,sI,DV,⟨aw,cw,hvw⟩,hgi,Je,jX,h0,h1,gP⟩:=hrel;subst DV hvw;clear HG0 Hc;have zO:=aj hgi;have HBC:=aj Je;clear Je;have Hcb:=aj jX;have H0:=aj h0;have H1:=aj h1;have CU:=aj gP;have hzr:=hgi.aB.size;have hcw:=jX.lt;have SV:=(Hs.o _ hgi.aB).2;have c0:wr.cell? ⟨cb,0,none⟩=some (.slice ar L.length cr):=jX.cell 0;have c1:wr.cell? ⟨cb,1,none⟩=some vt:=jX.cell 1;have c2:wr.cell? ⟨cb,2,none⟩=some (.slice al X.length cl):=jX.cell 2;have f1:=jX.fz 1
 by_cases aO:j<X.length
 ·obtain⟨m,rfl⟩:∃m,gk=m+1:=⟨gk-1,by omega⟩
  have iH:decide ((j:Int)<(X.length:Int))=true:=a0h (by omega);obtain⟨gl,ja,-,hlc⟩:=SV.some (by simp;omega);subst ja;rw[a0B]at hlc;have cj:wr.cell? ⟨gl,j,none⟩=some (sU X[j].1):=by
   have:=SV.cell j (by simpa using aO);simpa using this
  have GG:X[j]∈X:=a0z aO;have hq:=(Hx.o _ GG).1;have iN:=agh.o j _ (a0c aO);have ko:=hgi.rb _ GG;have nJ:=Hdd.o _ GG;have bN:Z_ (nI (X.map (·.2.2)) 0 0=if (!(rY j X[j].2.2)&&!(oW j B.length X[j].2.2))||decide (5<X[j].2.2.d)||decide (16<=j) then j+2 else nI ((X.map (·.2.2)).drop (j+1)) (j+1) (X[j].2.2.d+1)):=by
   show _=_;have e:(X.map (·.2.2)).drop j=X[j].2.2::(X.map (·.2.2)).drop (j+1):=by
    rw[a0q (by simpa using aO)];simp
   rw[<-CU.o,e]
   conv=>lhs;unfold nI
  have hTF:Z_ (rG (X.map (·.2.2))=nI (X.map (·.2.2)) 0 0):=Xn _ (by simp;omega);generalize hXj:X[j]=x at *;have HXj:=aj hXj;clear hgi jX h0 h1 gP SV hXj;obtain⟨b,⟨GJ,dP,vt0,vt1,vt2,iB,Xp,vk,vd,akf⟩,⟨rc,told,names,t0,t1,t2,ifs,on,dn⟩⟩:=x;obtain⟨-,e1,-,-,-,-,jf,e2,e3⟩:=hq;simp only at e1 e2 e3 iN ko jf nJ;subst e1 e2 e3 iN;obtain⟨ai,ci,apA⟩:=aT jf;subst apA;clear jf;have rX:=aj ko;have jO:b<w.heap.size:=zO.o.lt _ GG;have d0:wr.cell? ⟨b,0,none⟩=some (.string (bs GJ)):=ko.cell 0;have d5:wr.cell? ⟨b,5,none⟩=some (.slice ai ifs.length ci):=ko.cell 5;have d6:wr.cell? ⟨b,6,none⟩=some (.bool Xp):=ko.cell 6;have d8:wr.cell? ⟨b,8,none⟩=some (.int .i64 (dn:Int)):=ko.cell 8;have d9:wr.cell? ⟨b,9,none⟩=some (.int .i64 ((j:Int)+2)):=ko.cell 9;unfold sU at cj;clear ko;have HF:Z_ ((((!(rY j ⟨GJ,told,names,t0,t1,t2,ifs,Xp,dn⟩)&&!(oW j B.length ⟨GJ,told,names,t0,t1,t2,ifs,Xp,dn⟩))||decide (5<dn)||decide (16<=j))=true)->uQ L (X.map (·.2.2))=(3,j+2)):=by
   intro hh;refine Z8 _ _ _ ?_ (by omega);rw[hTF.o,bN.o];exact a0j hh
  have HN:Z_ ((((!(rY j ⟨GJ,told,names,t0,t1,t2,ifs,Xp,dn⟩)&&!(oW j B.length ⟨GJ,told,names,t0,t1,t2,ifs,Xp,dn⟩))||decide (5<dn)||decide (16<=j))=false)->nI ((X.map (·.2.2)).drop (j+1)) (j+1) (dn+1)=nI (X.map (·.2.2)) 0 0):=by
   intro hh;rw[bN.o];exact(a0g (by simp only[hh];simp)).symm
  clear bN hTF
  by_cases si:j=0
  ·have j1:((j:Int)==0)=true:=by simp[si]
   have j2:decide ((0:Int)<(j:Int))=false:=a0f (by omega);have j3:decide ((16:Int)<=(j:Int))=false:=a0f (by omega);have Hj0:=aj si;have j4:j<=0:=by omega
   clear si;cases g1:((dn:Int)==0)
   ·have n1:(dn==0)=false:=a0k.2 (by intro e;subst e;simp at g1)
    have Hn1:=aj n1;clear n1;go_wp2_with fail
    go_quiet (fail)
    go_wp2;go_ret3
    exact GP.bad (HF.o (by simp[rY,oW,Hj0.o,Hn1.o])) (by simp[grE]) (zO.o.aB.drewN _)
   have dn0:dn=0:=by simpa using g1
   subst dn0;clear g1;cases g2:((ifs.length:Int)==0)
   ·have n1:Z_ (ifs.isEmpty=false):=by
     show _=_;cases ifs with
     | nil=>simp at g2
     | cons=>rfl
    go_wp2_with fail
    go_quiet (fail)
    go_wp2;go_ret3
    exact GP.bad (HF.o (by simp[rY,oW,Hj0.o,n1.o])) (by simp[grE]) (zO.o.aB.drewN _)
   have n2:Z_ (ifs.isEmpty=true):=by
    show _=_;cases ifs with
    | nil=>rfl
    | cons=>simp at g2;omega
   cases Xp
   case true =>
    go_wp2_with fail
    go_quiet (fail)
    go_wp2;go_ret3
    exact GP.bad (HF.o (by simp[rY,oW,Hj0.o])) (by simp[grE]) (zO.o.aB.drewN _)
   cases g4:(GJ == [45])
   case true =>
    go_wp2_with fail
    go_quiet (fail)
    go_wp2;go_ret3
    exact GP.bad (HF.o (by simp[rY,oW,Hj0.o,g4])) (by simp[grE]) (zO.o.aB.drewN _)
   obtain⟨hvt,hvw⟩:=H0.o Hj0;simp only[Value.slice.injEq]at hvw;obtain⟨haw,hB0,apB⟩:=hvw;subst haw apB hvt;have hBn:B=[]:=a1l hB0;subst hBn;have gI:=HN.o (by simp[rY,Hj0.o,n2.o,g4]);have HX2:=aj gI;clear gI;have akg:Z_ (Bv (xd (X.take (j+1)))=([b],C)):=by
    show _=_;rw[Rs (a0c aO),HXj.o,HBC.o];rfl
   have HBb:Z_ (b0=b):=by
    show _=_;have h1:=HXj.o;have h2:=Hj0.o;subst h2;rw[<-vG.o,a0F,a1d,a0c aO,h1];rfl
   have Be:b<wr.heap.size:=by omega
   have bL:cb≠b:=λe=>(Hcx.o _ GG) e.symm
   go_wp2_with (first | (at_builtin;refine Xm _ rfl _ _ rfl w.heap.size (.slice none 0 0) [] b wr.heap.size rfl (World.ownsRow_nil _ _ _ _) rfl (Ei _ _ _ _ (jL _ _ _)) (by simp) (by simp;omega) ?_;intro g2 aP w2 nQ kg rD))
   go_roundg m
   case measure=>omega
   case rel =>
    have G1:=((zO.o.root yx Hcx.o (.pointer (some ⟨b,0,none⟩))).NJ ((aA.refl _ _).alloc (Obj.cells #[.pointer (some ⟨b,0,none⟩)] 68))).adu ⟨_,GG,rfl⟩ kg nQ rD;exact⟨j+1,K,C,[b],.pointer (some ⟨b,0,none⟩),by omega,by go_num,⟨_,_,rfl⟩,G1.up,akg,((Hcb.o.set1 _).aB (S:=[]) ((aA.refl _ _).alloc _) (by simp)).aB (S:=[]) (aA.dS kg) (by simp),λh=>by omega,λ_=>by rw[HBb.o],HX2⟩
  have j1:((j:Int)==0)=false:=a0k.2 (by omega);have j2:decide ((0:Int)<(j:Int))=true:=a0h (by omega)
  by_cases g1:0<dn
  case neg =>
   have g1':decide ((0:Int)<(dn:Int))=false:=a0f (by omega);go_wp2_with fail
   go_quiet (fail)
   go_wp2;go_ret3
   exact GP.bad (HF.o (by simp[rY,oW,si,g1])) (by simp[grE]) (zO.o.aB.drewN _)
  have g1':decide ((0:Int)<(dn:Int))=true:=a0h (by omega)
  by_cases g2:dn<=B.length
  case neg =>
   have g2':decide ((dn:Int)<=(B.length:Int))=false:=a0f (by omega);go_wp2_with fail
   go_quiet (fail)
   go_wp2;go_ret3
   exact GP.bad (HF.o (by simp[rY,oW,si,g2])) (by simp[grE]) (zO.o.aB.drewN _)
  have g2':decide ((dn:Int)<=(B.length:Int))=true:=a0h (by omega)
  by_cases g3:5<dn
  case pos =>
   have g3':decide ((5:Int)<(dn:Int))=true:=a0h (by omega);go_wp2_with fail
   go_quiet (fail)
   go_wp2;go_ret3
   exact GP.bad (HF.o (by simp[g3])) (by simp[grE]) (zO.o.aB.drewN _)
  have g3':decide ((5:Int)<(dn:Int))=false:=a0f (by omega)
  by_cases g4:16<=j
  case pos =>
   have g4':decide ((16:Int)<=(j:Int))=true:=a0h (by omega);go_wp2_with fail
   go_quiet (fail)
   go_wp2;go_ret3
   exact GP.bad (HF.o (by simp[g4])) (by simp[grE]) (zO.o.aB.drewN _)
  have g4':decide ((16:Int)<=(j:Int))=false:=a0f (by omega);obtain⟨gw,haw,-,hBc⟩:=zO.o.way.some (by omega);subst haw;obtain⟨d1,apC⟩:∃d1,dn=d1+1:=⟨dn-1,by omega⟩;subst apC;have hB1:d1<B.length:=by omega
  have cu:wr.cell? ⟨gw,d1,none⟩=some (sU B[d1]):=LP.cell zO.o.way d1 hB1;obtain⟨⟨bu,vu,ru⟩,VR,hyb⟩:=zO.o.Xh _ (a0z hB1);simp only at hyb;have akg:Z_ (Bv (xd (X.take (j+1)))=(B.take (d1+1)++[b],λk=>if k=bu then C k++[b] else C k)):=by
   show _=_;have iD:(B.take (d1+1)).getLast?=some bu:=by
    rw[List.getLast?_eq_getElem?,a1q,a2S (by omega),List.getElem?_take];simp[a0c hB1,hyb]
   rw[Rs (a0c aO),HXj.o,HBC.o];simp only[afa,iD]
  generalize B[d1]=bu' at *;subst hyb;have HGc:=aj (zO.o.cut (d1+1) g2);have hB':(B.take (d1+1)).length=d1+1:=by rw[a1q];omega
  obtain⟨hnk,jT⟩:=zO.o.PU _ VR;simp only at jT hnk;unfold LP at jT;obtain⟨nk,agl⟩:∃nk,nk=(C bu).length:=⟨_,rfl⟩;obtain⟨xk,akh⟩:∃xk,xk=(C bu).map sU:=⟨_,rfl⟩;rw[<-agl,<-akh]at jT;rw[<-agl]at hnk;have apD:=aj agl;have apE:=aj akh;clear agl akh;obtain⟨ak,ck,JA⟩:=aT jT;have hru:=zO.o.rb _ VR;have e7:wr.cell? ⟨bu,7,none⟩=some (.slice ak nk ck):=(hru.cell 7).trans (by rw[<-JA];rfl);have z7:wr.frozen? ⟨bu,7,none⟩=false:=hru.fz 7;have hbu:bu<w.heap.size:=zO.o.lt _ VR;have Hok:Z_ (wr.ownsRow w.heap.size 68 1 (.slice ak nk ck) nk xk):=by
   show World.ownsRow _ _ _ _ _ _ _;rw[<-JA];exact jT
  have Hvk:=aj JA;have hdm:((d1+1:Nat):Int)-1=(d1:Int):=by omega
  have Hgw:Z_ (w.heap.size<=gw):=(zO.o.way.lt gw rfl).1;have Be:b<wr.heap.size:=by omega
  have Hne:Z_ (cb≠bu):=λe=>(Hcx.o _ VR) e.symm
  have gI:=HN.o (by simp[rY,oW,si,g2,g3,g4,j2];omega);have HX2:=aj gI;clear gI JA hru jT;generalize B.take (d1+1)=B' at *;unfold sU at cu;have ag:Value.ownBlock (.slice ak nk ck)≠some bu:=λe=>by have:=Hok.o.lt _ e;omega
  go_wp2_with (first | (at_builtin;refine ake _ rfl _ _ rfl w.heap.size (.slice ak nk ck) nk xk b wr.heap.size rfl (Hok.o.alloc _) rfl (Ei _ _ _ _ rfl) (by omega) (by simp;omega) ?_;intro gg aP w4 bF aG aX;have e8:w4.cell? ⟨bu,7,none⟩=some (.slice ak nk ck):=(aG.cell_far ⟨bu,7,none⟩ (by simp;omega) (Ne.symm ag)).trans ((((aA.refl [] wr).alloc _).cell (p:=⟨bu,7,none⟩) (by simp;omega) (by simp)).trans e7);have z8:=(aG.frozen_far ⟨bu,7,none⟩ (by simp;omega) (Ne.symm ag)).trans (((aA.refl [] wr).alloc _).frozen (p:=⟨bu,7,none⟩) (by simp;omega) (by simp));rw[z7]at z8;have HO:=aj aG;have HO4:=aj bF;have Hat:=aj aX;have Vk:=aG.size;simp at Vk;have HG4:=aj ((HGc.o.NJ ((aA.refl _ _).alloc _)).aj3 VR hnk apD.o (b:=b) (by rw[apE.o];simp[sU]) (by rw[Hvk.o];exact aG) bF (by rw[Hvk.o];exact aX));clear aG bF aX)|(at_builtin;refine Xm _ rfl _ _ rfl w.heap.size (.slice (some ⟨gw,0,none⟩) (d1+1) cw) B' b w4.heap.size rfl ((HG4.o.NJ ((aA.refl _ _).alloc _)).way) rfl (Ei _ _ _ _ (jL _ _ _)) (by omega) (by simp;omega) ?_;intro g2 Zi w5 hs5 hg5 hb5))
  go_roundg m
  case measure=>omega
  case rel =>
   have G1:=(HG4.o.NJ ((aA.refl _ _).alloc (Obj.cells #[.pointer (some ⟨b,0,none⟩)] 68))).adu ⟨_,GG,rfl⟩ hg5 hs5 hb5;have hp:=H1.o (by omega);refine⟨j+1,_,_,B'++[b],vt,by omega,by go_num,⟨some ⟨g2,0,none⟩,Zi,by simp[hB']⟩,by rw[hB']at G1;exact G1,akg,?_,λh=>by omega,λ_=>hp,?_⟩
   ·have C4:oV w4 cb (.slice ar L.length cr) vt (.slice (some ⟨gl,0,none⟩) X.length cl):=(Hcb.o.aB (S:=[]) ((aA.refl _ _).alloc _) (by simp)).aB (aA.dS HO) (by rw[a0H];intro e;have:=Hok.o.lt _ e;omega)
    have C5:=C4.aB (S:=[bu]) (((aA.refl _ _).setCell (p:=⟨bu,7,none⟩) (by simp) (.slice (some ⟨gg,0,none⟩) (nk+1) aP)).alloc (Obj.cells #[.pointer (some ⟨b,0,none⟩)] 68)) (by simpa using Hne.o);exact C5.aB (aA.dS hg5) (by simp[Value.ownBlock];have:=Hgw.o;omega)
   rw[a0v,hB'];exact HX2
 have iH:decide ((j:Int)<(X.length:Int))=false:=a0f (by omega);have hjX:j=X.length:=by omega
 have hg0:nI (X.map (·.2.2)) 0 0=0:=by
  rw[<-CU.o,a0p (by simp;omega)];rfl
 clear SV CU
 by_cases hX0:X.length=0
 ·have si:j=0:=by omega
  obtain⟨hvt,hvw⟩:=H0.o si;subst hvt;have HF:Z_ (uQ L (X.map (·.2.2))=(3,2)):=by
   refine Z8 _ _ _ ?_ (by omega);have:X=[]:=a1l hX0;rw[this];rfl
  clear hX0 si hjX hvw hg0 hgi jX h0 h1 gP;go_wp2;go_ret3
  exact GP.bad (HF.o) (by simp[grE]) (zO.o.aB)
 have hp:=H1.o (by omega);subst hp;have HBX:Z_ ((Bv (xd X)).2=C):=by
  show _=_;have:=HBC.o;rw[a0D (by omega)]at this;rw[this]
 have HT:Z_ (rG (X.map (·.2.2))=0):=by
  show _=_;rw[Xn _ (by simp;omega)];exact hg0
 clear hg0 hgi jX h0 h1 gP H0 H1;obtain⟨wl,EH⟩:∃wl,wl=wr:=⟨_,rfl⟩;subst EH;go_wp2_with fail
 go_loopg [13] L.length (λk vi wq=>∃(i:Nat),i+k=L.length/\vi=.int .i64 i/\kM (L.take i) (L.drop i)=kM [] L/\aA [] wl wq)
 case atStart=>exact⟨0,by omega,rfl,by simp,aA.refl _ _⟩
 case round =>
 obtain⟨i,hik,DV,gP,bU⟩:=hrel;subst DV;have CU:=aj gP;have DL:=aj bU;have JW:=aj (Hcb.o.aB bU (by simp));have c0':wr.cell? ⟨cb,0,none⟩=some (.slice ar L.length cr):=JW.o.cell 0;have qE:=aj (Hs.o _ (zO.o.aB.trans bU.nil)).1;clear gP bU
 by_cases jf:i<L.length
 ·obtain⟨m,rfl⟩:∃m,gk=m+1:=⟨gk-1,by omega⟩
  have kY:decide ((i:Int)<(L.length:Int))=true:=a0h (by omega);obtain⟨ga,oa,har,-,-,-,aV⟩:=qE.o.yg (by omega);subst har;have ci:wr.cell? ⟨ga,oa+i,none⟩=some (.string (bs L[i])):=by
   have:=aV i jf;rwa [a0F,a0c jf]at this
  have bN:Z_ (kM [] L=if decide (ma L L[i]<(i:Int)) then true else kM (L.take (i+1)) (L.drop (i+1))):=by
   show _=_;rw[<-CU.o,a0q jf,ahG _ _ _ (a0z jf)]
   conv=>lhs;unfold kM
   rw[a0I jf]
  clear aV CU;generalize L[i]=n at *
  by_cases hk:ma L n<(i:Int)
  ·have HF:Z_ (uQ L (X.map (·.2.2))=(4,1)):=akd _ _ HT.o (by rw[bN.o,a0h hk];rfl)
   clear bN;go_wp2_with fail
   go_region_with (go_at_call 38;refine(ui _ L n wr.drew (by exact qE)).mono ?_;rintro e w' ⟨rfl,rfl⟩)
   all_goals
    go_wp2_with fail
    go_ret3
    exact GP.bad HF.o (by simp[grE]) (zO.o.aB.trans (DL.o.drew).nil)
  have Hn:Z_ (kM (L.take (i+1)) (L.drop (i+1))=kM [] L):=by show _=_;rw[bN.o,a0f hk];rfl
  clear bN;go_wp2_with fail
  go_region_with (go_at_call 38;refine(ui _ L n wr.drew (by exact qE)).mono ?_;rintro e w' ⟨rfl,rfl⟩)
  all_goals
   go_wp2_with fail
   go_roundg m
   case measure=>omega
   case rel=>exact⟨i+1,by omega,by go_num,Hn,DL.o.drew⟩
 have kY:decide ((i:Int)<(L.length:Int))=false:=a0f (by omega);have HD:Z_ (kM [] L=false):=by
  show _=_;rw[<-CU.o,a0p (by omega)];unfold kM;rfl
 have JX:=JW;have apF:=aj (zO.o.NJ DL);clear CU JW qE Hcb zO DL;obtain⟨wm,hwm⟩:∃wm,wm=wr:=⟨_,rfl⟩;subst hwm;go_wp2_with fail
 go_loopg [15] X.length (λk vi wq=>∃(i:Nat),i+k=X.length/\vi=.int .i64 i/\jZ L ((X.map (·.2.2)).drop i) i=jZ L (X.map (·.2.2)) 0/\aA [] wm wq)
 case atStart=>exact⟨0,by omega,rfl,by simp,aA.refl _ _⟩
 case round =>
 obtain⟨i3,aq2,DV,gP,bU⟩:=hrel;subst DV;have CU:=aj gP;have DL:=aj bU;have JW:=aj (JX.o.aB bU (by simp));have Xq:=aj (apF.o.NJ bU);have c2':wr.cell? ⟨cb,2,none⟩=some (.slice al X.length cl):=JW.o.cell 2;have c3':wr.cell? ⟨cb,0,none⟩=some (.slice ar L.length cr):=JW.o.cell 0;have qE:=aj (Hs.o _ Xq.o.aB).1;have SV:=(Hs.o _ Xq.o.aB).2;clear gP bU
 by_cases ZT:i3<X.length
 ·obtain⟨m,rfl⟩:∃m,gk=m+1:=⟨gk-1,by omega⟩
  have hd3:decide ((i3:Int)<(X.length:Int))=true:=a0h (by omega);obtain⟨gl,ja,-,hlc⟩:=SV.some (by simp;omega);subst ja;rw[a0B]at hlc;have cj:wr.cell? ⟨gl,i3,none⟩=some (sU X[i3].1):=by
   have:=SV.cell i3 (by simpa using ZT);simpa using this
  have GG:X[i3]∈X:=a0z ZT;have hq:=(Hx.o _ GG).1;have iN:=agh.o i3 _ (a0c ZT);have ko:=Xq.o.rb _ GG;have bN:Z_ (jZ L (X.map (·.2.2)) 0=if !(X[i3].2.2.rc == [45])&&!(L.contains X[i3].2.2.rc) then i3+2 else jZ L ((X.map (·.2.2)).drop (i3+1)) (i3+1)):=by
   show _=_;have e:(X.map (·.2.2)).drop i3=X[i3].2.2::(X.map (·.2.2)).drop (i3+1):=by
    rw[a0q (by simpa using ZT)];simp
   rw[<-CU.o,e]
   conv=>lhs;unfold jZ
  generalize hXj:X[i3]=x at *;clear hXj CU SV;obtain⟨b,⟨GJ,dP,vt0,vt1,vt2,iB,Xp,vk,vd,akf⟩,⟨rc,told,names,t0,t1,t2,ifs,on,dn⟩⟩:=x;obtain⟨-,e1,-,-,-,-,apG,e2,e3⟩:=hq;simp only at e1 e2 e3 iN ko;subst e1 e2 e3 iN;simp only at bN;clear apG;have d0:wr.cell? ⟨b,0,none⟩=some (.string (bs GJ)):=ko.cell 0;have d9:wr.cell? ⟨b,9,none⟩=some (.int .i64 ((i3:Int)+2)):=ko.cell 9;unfold sU at cj;clear ko;rw[<-ahH]at bN;cases g45:(GJ == [45])
  ·by_cases hk:ma L GJ<0
   ·have HF:Z_ (uQ L (X.map (·.2.2))=(4,i3+2)):=ahF _ _ _ HT.o HD.o (by rw[bN.o,g45,a0h hk];rfl) (by omega)
    clear bN;go_wp2_with fail
    go_region_with (go_at_call 38;refine(ui _ L GJ wr.drew (by exact qE)).mono ?_;rintro e w' ⟨rfl,rfl⟩)
    all_goals
     go_wp2_with fail
     go_quiet (fail)
     go_wp2;go_ret3
     exact GP.bad HF.o (by simp[grE]) (Xq.o.aB.drew.drewN _)
   have Hn:Z_ (jZ L ((X.map (·.2.2)).drop (i3+1)) (i3+1)=jZ L (X.map (·.2.2)) 0):=by show _=_;rw[bN.o,a0f hk];simp
   clear bN;go_wp2_with fail
   go_region_with (go_at_call 38;refine(ui _ L GJ wr.drew (by exact qE)).mono ?_;rintro e w' ⟨rfl,rfl⟩)
   all_goals
    go_wp2_with fail
    go_roundg m
    case measure=>omega
    case rel=>exact⟨i3+1,by omega,by go_num,Hn,DL.o.drew⟩
  have Hn:Z_ (jZ L ((X.map (·.2.2)).drop (i3+1)) (i3+1)=jZ L (X.map (·.2.2)) 0):=by show _=_;rw[bN.o,g45];simp
  clear bN;go_wp2_with fail
  go_region_with (go_at_call 38;refine(ui _ L GJ wr.drew (by exact qE)).mono ?_;rintro e w' ⟨rfl,rfl⟩)
  all_goals
   go_wp2_with fail
   go_roundg m
   case measure=>omega
   case rel=>exact⟨i3+1,by omega,by go_num,Hn,DL.o.drew⟩
 have hd3:decide ((i3:Int)<(X.length:Int))=false:=a0f (by omega);have HF:Z_ (uQ L (X.map (·.2.2))=(0,0)):=alU _ _ HT.o HD.o (by rw[<-CU.o,a0p (by simp;omega)];rfl);clear CU SV qE;go_wp2;go_ret3
 refine⟨?_,Xq.o.aB,λ_=>⟨K,by rw[vG.o];exact JW,Xq.o.rb,λx hx=>?_⟩⟩
 ·rw[HF.o];simp[grE,sU]
 have h2:=(Xq.o.PU x hx).2;rw[HBX.o];exact h2
end Go.Proofs.YtgbdcmpmmkfbhaaGreat
