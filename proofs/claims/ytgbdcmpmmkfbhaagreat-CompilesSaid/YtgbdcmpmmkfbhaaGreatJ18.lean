import Derived.Test.YtgbdcmpmmkfbhaaGreatJ17
import Derived.Test.YtgbdcmpmmkfbhaaGreatJ16
import Derived.Test.YtgbdcmpmmkfbhaaGreatJ15
import Derived.Test.YtgbdcmpmmkfbhaaGreatJ6
import Derived.Test.YtgbdcmpmmkfbhaaGreatJ1
set_option linter.unusedVariables false
set_option linter.unusedSimpArgs false
set_option linter.unnecessarySimpa false
set_option maxRecDepth 100000
set_option maxHeartbeats 8000000
namespace Go.Proofs.YtgbdcmpmmkfbhaaGreat
variable {w:World} {b:Nat} {x y z:Value} {α:Type}
open Go.RowKit
theorem anV(l:LB)(r:RR)(h:wZ l=some r):r.d<=l.length:=by
 have hd:=FZ l;unfold wZ rtW at h
 split at h
 ·cases h
 split at h
 ·cases h
 split at h
 ·cases h
 split at h
 ·cases h
 split at h
 ·simp at h;subst h;exact hd
 cases h
theorem oV.set0(h:oV w b x y z)(v:Value):oV (w.setCell ⟨b,0,none⟩ v) b v y z:=by
 unfold oV at *;simp[World.setCell,a0t,h]
theorem oV.set2(h:oV w b x y z)(v:Value):oV (w.setCell ⟨b,2,none⟩ v) b x y v:=by
 unfold oV at *;simp[World.setCell,a0t,h]
theorem afd(t:LB)(n:Nat)(hl:¬ 1200<t.length)(h:qm (dm false 10 t) 0 [] []=.error n):nu t=.error (2,n):=by
 unfold nu;rw[a0g hl,h]
theorem ahI(t:LB)(L:List LB)(R:List RR)(hl:¬ 1200<t.length)(h:qm (dm false 10 t) 0 [] []=.ok (L,R)):nu t=if (uQ L R).1=0 then .ok (L,R) else .error (uQ L R):=by
 unfold nu;rw[a0g hl,h]
theorem aki(L:List LB)(R:List RR)(h:(uQ L R).1=0):uQ L R=(0,0):=by
 unfold uQ at *
 by_cases h1:rG R≠0
 ·rw[a0j h1]at h;simp at h
 rw[a0g h1]at h |-
 by_cases h2:kM [] L=true
 ·rw[a0j h2]at h;simp at h
 rw[a0g h2]at h |-
 by_cases h3:jZ L R 0≠0
 ·rw[a0j h3]at h;simp at h
 rw[a0g h3]
theorem ahJ(t:LB)(w:World)(ht:t.length<=1048576) :
 Calls Tryz.prog 9 #[.string (bs t)] w λe w'=>xy w e w' (nu t)/\aA [] w w':=by
 have fM:=bS;have EM:=bg;have k0:({ data:=#[] }:ByteArray).toList=[]:=bg _;have kR:({ data:=#[114,101,99,101,105,118,101,114,115] }:ByteArray).toList=nW:=bg _;go_enter Tryz.func9,Tryz.ntmps9
 by_cases hl:1200<t.length
 ·have Hp:Z_ (nu t=.error (1,0)):=by show _=_;unfold nu;rw[a0j hl]
  go_wp2;go_ret3
  rw[Hp.o];exact⟨rfl,aA.refl _ _⟩
 have hl':t.length<=1200:=by omega
 have Hl:=aj hl;clear hl;go_wp2_with fail
 refine(Gx t 10 false w (by omega)).mono ?_;rintro e w1 ⟨v,rfl,hs,hf⟩;obtain⟨hWx,YF,hW1⟩:=GB false 10 t;have HE:Z_ (∀n,qm (dm false 10 t) 0 [] []=.error n->nu t=.error (2,n)):=λn h=>afd t n Hl.o h
 have HK:Z_ (∀L R,qm (dm false 10 t) 0 [] []=.ok (L,R)->nu t=if (uQ L R).1=0 then .ok (L,R) else .error (uQ L R)):=λL R h=>ahI t L R Hl.o h
 generalize dm false 10 t=W at *;generalize JV:qm W 0 [] []=RES at *;have agi:=aj JV;clear JV;obtain⟨aw,cw,rfl⟩:=hs.shape;obtain⟨n,hWn⟩:∃n,W.length=n+1:=⟨W.length-1,by omega⟩;obtain⟨gw,haw,hgw,aq3,xA⟩:∃g,aw=some ⟨g,0,none⟩/\w.heap.size<=g/\g<w1.heap.size/\W.length<=cw:=by
  rcases hs.2 with⟨_,e⟩|⟨g,c,cur,e,hb,hh,h3,_⟩
  ·omega
  simp at e;obtain⟨rfl,rfl⟩:=e;exact⟨g,rfl,hb,(a0d.1 hh).1,h3⟩
 subst haw;have EW:Z_ (∀x∈W,x.length<=9000):=λx hx=>by have:=hWx x hx;omega
 have Hs:=aj hs;have Hf:=aj hf;have fT:=hf.size;have rU:n<=1200:=by omega
 have TS:((n:Int)+1)-1=(n:Int):=by omega
 clear hs hf hWx YF hW1;have Hc0:Z_ (oV (w1.alloc (.cells #[.slice none 0 0,.pointer none,.slice none 0 0] 71)) w1.heap.size (.slice none 0 0) (.pointer none) (.slice none 0 0)):=bK _ _;go_wp2_with fail
 go_loopg [8] n (λk vi wr=>∃(i:Nat) (vr vl:Value) (L:List LB) (X:List (Nat × jK × RR)),i+k=n/\vi=.int .i64 i/\QI wr w1.heap.size vr vl L X/\oV wr w1.heap.size vr (.pointer none) vl/\(i=0->vr=.slice none 0 0/\vl=.slice none 0 0/\X=[])/\(0<i->X.length+1=i)/\L.length<=9000/\(∀x∈X,x.2.2.d<=9000)/\qm (W.drop i) i L (X.map (·.2.2))=RES/\aA [] w1 wr)
 case atStart=>exact⟨0,_,_,[],[],by omega,rfl,QI.nil _ _,Hc0,λ_=>⟨rfl,rfl,rfl⟩,λh=>by omega,by simp,by simp,agi,(aA.refl _ _).alloc _⟩
 case round =>
 obtain⟨i,vr,vl,L,X,hik,DV,hqi,jX,h0,h1,hL,hXd,gP,bU⟩:=hrel;subst DV;have Aa:=aj hqi;have Hcb:=aj jX;have H0:=aj h0;have H1:=aj h1;have HXd:=aj hXd;have CU:=aj gP;have DL:=aj bU;have Hfw:=aj (Hf.o.trans bU);have hzr:=bU.size;have hcw:=jX.lt;have pF:SL w.heap.size wr (.slice (some ⟨gw,0,none⟩) W.length cw) W:=Hs.o.aB bU (by simp);have GH:=aj pF
 by_cases aO:i<n
 ·obtain⟨m,rfl⟩:∃m,gk=m+1:=⟨gk-1,by omega⟩
  have iH:decide ((i:Int)<(n:Int))=true:=a0h (by omega);have ci:wr.cell? ⟨gw,i,none⟩=some (.string (bs (W.getD i []))):=pF.cell i (by omega);have GG:W.getD i []∈W:=by
   rw[a0F,a0c (by omega)];exact a0z _
  have hx:=EW.o _ GG;have EU:Z_ (W.drop i=W.getD i []::W.getD (i+1) []::W.drop (i+2)):=by
   show _=_;rw[a0q (by omega:i<W.length),a0q (by omega:i+1<W.length)];simp[a0F,a0c (by omega:i<W.length),a0c (by omega:i+1<W.length)]
  have agn:Z_ (W.drop (i+1)=W.getD (i+1) []::W.drop (i+2)):=by
   show _=_;rw[a0q (by omega:i+1<W.length)];simp[a0F,a0c (by omega:i+1<W.length)]
  generalize W.getD i []=x at *;clear hqi jX h0 h1 hXd gP bU pF GG
  by_cases yM:i=0
  ·
   obtain⟨hvr,Dy,hXe⟩:=H0.o yM;subst hvr Dy hXe;have e0:((i:Int)==0)=true:=by simp[yM]
   have hL0:L=[]:=by
    obtain⟨a,c,e,_⟩:=Aa.o.rs;simp at e;exact a1l e.2.1.symm
   subst hL0;have bN:Z_ (RES=match Xi x with | none=>.error 1|some L'=>qm (W.drop 1) 1 L' []):=by
    show _=_;rw[<-CU.o,EU.o,show(1:Nat)=i+1 by omega,agn.o]
    conv=>lhs;unfold qm
    rw[yM];rfl
   have Hi0:=aj yM;have hic:(i:Int)=0:=by omega
   have c0i:wr.cell? ⟨gw,0,none⟩=some (.string (bs x)):=by rw[<-yM];exact ci
   clear CU EU agn yM ci;go_wp2_with fail
   refine(Gx x 32 false wr (by omega)).mono ?_;rintro e w3 ⟨v0,rfl,MM,bZ⟩;obtain⟨-,hVl,hV1⟩:=GB false 32 x;have PW:Z_ (((((dm false 32 x).getD 0 []==nW)&&decide (1<(dm false 32 x).length)&&decide ((dm false 32 x).length<=9))&&((dm false 32 x).drop 1).all aI)=false->RES=.error 1):=by
    intro h;rw[bN.o];unfold Xi;rw[h];rfl
   have anW:Z_ (((((dm false 32 x).getD 0 []==nW)&&decide (1<(dm false 32 x).length)&&decide ((dm false 32 x).length<=9))&&((dm false 32 x).drop 1).all aI)=true->qm (W.drop 1) 1 ((dm false 32 x).drop 1) []=RES):=by
    intro h;rw[bN.o];unfold Xi;rw[h];rfl
   clear bN;have HVn:Z_ (∀y∈dm false 32 x,y.length<=9000):=λy hy=>by have:=(GB false 32 x).1 y hy;omega
   generalize dm false 32 x=V at *;obtain⟨av,cap,rfl⟩:=MM.shape;obtain⟨g,hav,hg,Yz,acu⟩:∃g,av=some ⟨g,0,none⟩/\wr.heap.size<=g/\g<w3.heap.size/\V.length<=cap:=by
    rcases MM.2 with⟨_,e⟩|⟨g,c,cur,e,hb,hh,h3,_⟩
    ·omega
    simp at e;obtain⟨rfl,rfl⟩:=e;exact⟨g,rfl,hb,(a0d.1 hh).1,h3⟩
   subst hav;have qE:=aj (MM.rs (by omega));have cv0:w3.cell? ⟨g,0,none⟩=some (.string (bs (V.getD 0 []))):=MM.cell 0 (by omega);have JX:=aj (Hcb.o.aB bZ (by simp));have c0:w3.cell? ⟨w1.heap.size,0,none⟩=some (.slice none 0 0):=JX.o.cell 0;have f0:=JX.o.fz 0;have Kw:=aj bZ;have uP:=bZ.size;have Lb:g≠w1.heap.size:=by omega
   have aq4:w1.heap.size≠g:=by omega
   obtain⟨q,hq⟩:∃q,V.length=q+1:=⟨V.length-1,by omega⟩;have Jt:(V.drop 1).length=q:=by rw[a2I];omega
   have HVd:Z_ (∀y∈V.drop 1,y.length<=9000):=λy hy=>HVn.o y (a1h hy)
   have HRd:Z_ (RS (wr.heap.size) w3 (.slice (some ⟨g,1,none⟩) q (cap-1)) (V.drop 1)):=by
    have:=qE.o.drop2 1 (by omega);rw[hq]at this;exact this
   clear MM bZ HVn;generalize V.drop 1=V1 at *;generalize V.getD 0 []=v00 at *;cases b1:(v00==nW)
   ·by_cases nL:cap=1
    ·subst nL
     have zW:q=0:=by omega
     subst zW;have Eg:Z_ (RS wr.heap.size ((w3.setCell ⟨w1.heap.size,0,none⟩ (.slice (some ⟨g,0,none⟩) 1 1)).setCell ⟨w1.heap.size,0,none⟩ (.slice (some ⟨g,0,none⟩) 0 0)) (.slice (some ⟨g,0,none⟩) 0 0) V1):=by
      have f5:aA [w1.heap.size] w3 ((w3.setCell ⟨w1.heap.size,0,none⟩ (.slice (some ⟨g,0,none⟩) 1 1)).setCell ⟨w1.heap.size,0,none⟩ (.slice (some ⟨g,0,none⟩) 0 0)):=((aA.refl _ _).setCell (by simp) _).setCell (by simp) _;exact RS.aB (⟨some ⟨g,0,none⟩,0,by simp;omega,by omega,by omega,λj hj=>by omega⟩) f5 (by simp;omega)
     have Xr:Z_ (oV ((w3.setCell ⟨w1.heap.size,0,none⟩ (.slice (some ⟨g,0,none⟩) 1 1)).setCell ⟨w1.heap.size,0,none⟩ (.slice (some ⟨g,0,none⟩) 0 0)) w1.heap.size (.slice (some ⟨g,0,none⟩) 0 0) (.pointer none) (.slice none 0 0)):=(JX.o.set0 _).set0 _;have F5:Z_ (aA [] w1 ((w3.setCell ⟨w1.heap.size,0,none⟩ (.slice (some ⟨g,0,none⟩) 1 1)).setCell ⟨w1.heap.size,0,none⟩ (.slice (some ⟨g,0,none⟩) 0 0))):=((DL.o.trans Kw).setCell (.inr (a0a _)) _).setCell (.inr (a0a _)) _;have yA:g<((w3.setCell ⟨w1.heap.size,0,none⟩ (.slice (some ⟨g,0,none⟩) 1 1)).setCell ⟨w1.heap.size,0,none⟩ (.slice (some ⟨g,0,none⟩) 0 0)).heap.size:=by rw[jL,jL];exact Yz
     go_wp2_with fail
     generalize ((w3.setCell ⟨w1.heap.size,0,none⟩ (.slice (some ⟨g,0,none⟩) 1 1)).setCell ⟨w1.heap.size,0,none⟩ (.slice (some ⟨g,0,none⟩) 0 0))=w5 at *;go_loopg [9,10] 0 (λk Xt vk wq=>∃(j:Nat),j+k=0/\vk=.int .i64 j/\Xt=.bool (false&&(V1.take j).all aI)/\aA [] w5 wq)
     case atStart=>exact⟨0,by omega,rfl,by first | rfl|(simp;done)|(simp;omega),aA.refl _ _⟩
     case round =>
     obtain⟨j,sI,JA,GK,vP⟩:=hrel;subst JA GK;have JB:=aj vP;have Tm:=aj (Xr.o.aB vP (by simp));have HRq:=aj (Eg.o.aB vP (by simp));have cq:wr.cell? ⟨w1.heap.size,0,none⟩=some (.slice (some ⟨g,0,none⟩) 0 0):=Tm.o.cell 0;clear vP
     by_cases hj:j<0
     ·omega
     have hjq:j=0:=by omega
     have Sy:decide ((j:Int)<(0:Int))=false:=a0f (by omega);have PX:Z_ ((V1.take j).all aI=V1.all aI):=by
      show _=_;rw[a0D (by omega)]
     have Hn:Z_ (nu t=.error (2,1)):=HE.o _ (PW.o (by rw[b1];rfl));go_wp2;go_ret3
     rw[Hn.o];exact⟨by simp[xy],Hf.o.trans (F5.o.trans JB)⟩
    have uM:2<=cap:=by omega
    have Eg:Z_ (RS wr.heap.size ((w3.setCell ⟨w1.heap.size,0,none⟩ (.slice (some ⟨g,0,none⟩) (q+1) cap)).setCell ⟨w1.heap.size,0,none⟩ (.slice (some ⟨g,1,none⟩) q (cap-1))) (.slice (some ⟨g,1,none⟩) q (cap-1)) V1):=by
     have f5:aA [w1.heap.size] w3 ((w3.setCell ⟨w1.heap.size,0,none⟩ (.slice (some ⟨g,0,none⟩) (q+1) cap)).setCell ⟨w1.heap.size,0,none⟩ (.slice (some ⟨g,1,none⟩) q (cap-1))):=((aA.refl _ _).setCell (by simp) _).setCell (by simp) _;exact RS.aB (HRd.o) f5 (by simp;omega)
    have Xr:Z_ (oV ((w3.setCell ⟨w1.heap.size,0,none⟩ (.slice (some ⟨g,0,none⟩) (q+1) cap)).setCell ⟨w1.heap.size,0,none⟩ (.slice (some ⟨g,1,none⟩) q (cap-1))) w1.heap.size (.slice (some ⟨g,1,none⟩) q (cap-1)) (.pointer none) (.slice none 0 0)):=(JX.o.set0 _).set0 _;have F5:Z_ (aA [] w1 ((w3.setCell ⟨w1.heap.size,0,none⟩ (.slice (some ⟨g,0,none⟩) (q+1) cap)).setCell ⟨w1.heap.size,0,none⟩ (.slice (some ⟨g,1,none⟩) q (cap-1)))):=((DL.o.trans Kw).setCell (.inr (a0a _)) _).setCell (.inr (a0a _)) _;have yA:g<((w3.setCell ⟨w1.heap.size,0,none⟩ (.slice (some ⟨g,0,none⟩) (q+1) cap)).setCell ⟨w1.heap.size,0,none⟩ (.slice (some ⟨g,1,none⟩) q (cap-1))).heap.size:=by rw[jL,jL];exact Yz
    go_wp2_with fail
    generalize ((w3.setCell ⟨w1.heap.size,0,none⟩ (.slice (some ⟨g,0,none⟩) (q+1) cap)).setCell ⟨w1.heap.size,0,none⟩ (.slice (some ⟨g,1,none⟩) q (cap-1)))=w5 at *;go_loopg [9,10] q (λk Xt vk wq=>∃(j:Nat),j+k=q/\vk=.int .i64 j/\Xt=.bool (false&&(V1.take j).all aI)/\aA [] w5 wq)
    case atStart=>exact⟨0,by omega,rfl,by first | rfl|(simp;done)|(simp;omega),aA.refl _ _⟩
    case round =>
    obtain⟨j,sI,JA,GK,vP⟩:=hrel;subst JA GK;have JB:=aj vP;have Tm:=aj (Xr.o.aB vP (by simp));have HRq:=aj (Eg.o.aB vP (by simp));have cq:wr.cell? ⟨w1.heap.size,0,none⟩=some (.slice (some ⟨g,1,none⟩) q (cap-1)):=Tm.o.cell 0;clear vP
    by_cases hj:j<q
    ·obtain⟨m2,rfl⟩:∃m2,gk=m2+1:=⟨gk-1,by omega⟩
     have Sy:decide ((j:Int)<(q:Int))=true:=a0h (by omega);obtain⟨g',o',EE,-,-,-,aV⟩:=HRq.o.yg (by omega);simp only[Option.some.injEq,Addr.mk.injEq,and_true]at EE;obtain⟨rfl,rfl⟩:=EE;have cj:=aV j (by omega);have hnm':(V1.getD j []).length<=9000:=HVd.o _ (by rw[a0F,a0c (by omega)];exact a0z _);have PX:Z_ ((V1.take (j+1)).all aI=((V1.take j).all aI&&aI (V1.getD j []))):=by
      show _=_;rw[a0I (by omega:j<V1.length),a1L,a0F,a0c (by omega:j<V1.length)];simp
     clear aV;generalize V1.getD j []=nn at *;generalize (V1.take j).all aI=okb at *;cases okb
     all_goals
      go_wp2_with (first | (go_at_call 19;refine(mQ nn _ (by omega)).mono ?_;rintro e w' ⟨rfl,rfl⟩))
      go_roundg m2
      case measure=>omega
      case rel=>exact⟨j+1,by omega,by go_num,by rw[PX.o];simp,JB⟩
    have hjq:j=q:=by omega
    have Sy:decide ((j:Int)<(q:Int))=false:=a0f (by omega);have PX:Z_ ((V1.take j).all aI=V1.all aI):=by
     show _=_;rw[a0D (by omega)]
    have Hn:Z_ (nu t=.error (2,1)):=HE.o _ (PW.o (by rw[b1];rfl));go_wp2;go_ret3
    rw[Hn.o];exact⟨by simp[xy],Hf.o.trans (F5.o.trans JB)⟩
   by_cases nC:0<q
   ·have uM:2<=cap:=by omega
    by_cases hq9:q+1<=9
    ·have b2:decide ((1:Int)<(V.length:Int))=true:=a0h (by omega)
     have Eg:Z_ (RS wr.heap.size ((w3.setCell ⟨w1.heap.size,0,none⟩ (.slice (some ⟨g,0,none⟩) (q+1) cap)).setCell ⟨w1.heap.size,0,none⟩ (.slice (some ⟨g,1,none⟩) q (cap-1))) (.slice (some ⟨g,1,none⟩) q (cap-1)) V1):=by
      have f5:aA [w1.heap.size] w3 ((w3.setCell ⟨w1.heap.size,0,none⟩ (.slice (some ⟨g,0,none⟩) (q+1) cap)).setCell ⟨w1.heap.size,0,none⟩ (.slice (some ⟨g,1,none⟩) q (cap-1))):=((aA.refl _ _).setCell (by simp) _).setCell (by simp) _;exact RS.aB (HRd.o) f5 (by simp;omega)
     have Xr:Z_ (oV ((w3.setCell ⟨w1.heap.size,0,none⟩ (.slice (some ⟨g,0,none⟩) (q+1) cap)).setCell ⟨w1.heap.size,0,none⟩ (.slice (some ⟨g,1,none⟩) q (cap-1))) w1.heap.size (.slice (some ⟨g,1,none⟩) q (cap-1)) (.pointer none) (.slice none 0 0)):=(JX.o.set0 _).set0 _;have F5:Z_ (aA [] w1 ((w3.setCell ⟨w1.heap.size,0,none⟩ (.slice (some ⟨g,0,none⟩) (q+1) cap)).setCell ⟨w1.heap.size,0,none⟩ (.slice (some ⟨g,1,none⟩) q (cap-1)))):=((DL.o.trans Kw).setCell (.inr (a0a _)) _).setCell (.inr (a0a _)) _;have yA:g<((w3.setCell ⟨w1.heap.size,0,none⟩ (.slice (some ⟨g,0,none⟩) (q+1) cap)).setCell ⟨w1.heap.size,0,none⟩ (.slice (some ⟨g,1,none⟩) q (cap-1))).heap.size:=by rw[jL,jL];exact Yz
     go_wp2_with fail
     generalize ((w3.setCell ⟨w1.heap.size,0,none⟩ (.slice (some ⟨g,0,none⟩) (q+1) cap)).setCell ⟨w1.heap.size,0,none⟩ (.slice (some ⟨g,1,none⟩) q (cap-1)))=w5 at *;go_loopg [9,10] q (λk Xt vk wq=>∃(j:Nat),j+k=q/\vk=.int .i64 j/\Xt=.bool (true&&(V1.take j).all aI)/\aA [] w5 wq)
     case atStart=>exact⟨0,by omega,rfl,by first | rfl|(simp;done)|(simp;omega),aA.refl _ _⟩
     case round =>
     obtain⟨j,sI,JA,GK,vP⟩:=hrel;subst JA GK;have JB:=aj vP;have Tm:=aj (Xr.o.aB vP (by simp));have HRq:=aj (Eg.o.aB vP (by simp));have cq:wr.cell? ⟨w1.heap.size,0,none⟩=some (.slice (some ⟨g,1,none⟩) q (cap-1)):=Tm.o.cell 0;clear vP
     by_cases hj:j<q
     ·obtain⟨m2,rfl⟩:∃m2,gk=m2+1:=⟨gk-1,by omega⟩
      have Sy:decide ((j:Int)<(q:Int))=true:=a0h (by omega);obtain⟨g',o',EE,-,-,-,aV⟩:=HRq.o.yg (by omega);simp only[Option.some.injEq,Addr.mk.injEq,and_true]at EE;obtain⟨rfl,rfl⟩:=EE;have cj:=aV j (by omega);have hnm':(V1.getD j []).length<=9000:=HVd.o _ (by rw[a0F,a0c (by omega)];exact a0z _);have PX:Z_ ((V1.take (j+1)).all aI=((V1.take j).all aI&&aI (V1.getD j []))):=by
       show _=_;rw[a0I (by omega:j<V1.length),a1L,a0F,a0c (by omega:j<V1.length)];simp
      clear aV;generalize V1.getD j []=nn at *;generalize (V1.take j).all aI=okb at *;cases okb
      all_goals
       go_wp2_with (first | (go_at_call 19;refine(mQ nn _ (by omega)).mono ?_;rintro e w' ⟨rfl,rfl⟩))
       go_roundg m2
       case measure=>omega
       case rel=>exact⟨j+1,by omega,by go_num,by rw[PX.o];simp,JB⟩
     have hjq:j=q:=by omega
     have Sy:decide ((j:Int)<(q:Int))=false:=a0f (by omega);have PX:Z_ ((V1.take j).all aI=V1.all aI):=by
      show _=_;rw[a0D (by omega)]
     rw[PX.o];clear PX;cases fJ:V1.all aI
     ·have Hn:Z_ (nu t=.error (2,1)):=HE.o _ (PW.o (by simp[fJ]))
      go_wp2;go_ret3
      rw[Hn.o];exact⟨by simp[xy],Hf.o.trans (F5.o.trans JB)⟩
     have Hn:Z_ (qm (W.drop 1) 1 V1 []=RES):=anW.o (by rw[b1,a0h (by omega:1<V.length),a0h (by omega:V.length<=9),fJ];rfl);go_wp2;go_roundg m
     case measure=>omega
     case rel =>
      refine⟨1,_,_,V1,[],by have:=Hi0.o;omega,by go_num,?_,Tm,λh=>by omega,λ_=>rfl,by omega,by simp,Hn,F5.o.trans JB⟩;have hzq:=JB.o.size;exact⟨HRq.o.base (by omega),World.ownsRow_nil _ _ _ _,by simp,by simp,by simp,by simp,by simp,by simp,by simp[Value.ownBlock];omega,by simp[Value.ownBlock],by simp,by simp[Value.ownBlock];omega⟩
    have aq5:9<q+1:=by omega
    have Eg:Z_ (RS wr.heap.size ((w3.setCell ⟨w1.heap.size,0,none⟩ (.slice (some ⟨g,0,none⟩) (q+1) cap)).setCell ⟨w1.heap.size,0,none⟩ (.slice (some ⟨g,1,none⟩) q (cap-1))) (.slice (some ⟨g,1,none⟩) q (cap-1)) V1):=by
     have f5:aA [w1.heap.size] w3 ((w3.setCell ⟨w1.heap.size,0,none⟩ (.slice (some ⟨g,0,none⟩) (q+1) cap)).setCell ⟨w1.heap.size,0,none⟩ (.slice (some ⟨g,1,none⟩) q (cap-1))):=((aA.refl _ _).setCell (by simp) _).setCell (by simp) _;exact RS.aB (HRd.o) f5 (by simp;omega)
    have Xr:Z_ (oV ((w3.setCell ⟨w1.heap.size,0,none⟩ (.slice (some ⟨g,0,none⟩) (q+1) cap)).setCell ⟨w1.heap.size,0,none⟩ (.slice (some ⟨g,1,none⟩) q (cap-1))) w1.heap.size (.slice (some ⟨g,1,none⟩) q (cap-1)) (.pointer none) (.slice none 0 0)):=(JX.o.set0 _).set0 _;have F5:Z_ (aA [] w1 ((w3.setCell ⟨w1.heap.size,0,none⟩ (.slice (some ⟨g,0,none⟩) (q+1) cap)).setCell ⟨w1.heap.size,0,none⟩ (.slice (some ⟨g,1,none⟩) q (cap-1)))):=((DL.o.trans Kw).setCell (.inr (a0a _)) _).setCell (.inr (a0a _)) _;have yA:g<((w3.setCell ⟨w1.heap.size,0,none⟩ (.slice (some ⟨g,0,none⟩) (q+1) cap)).setCell ⟨w1.heap.size,0,none⟩ (.slice (some ⟨g,1,none⟩) q (cap-1))).heap.size:=by rw[jL,jL];exact Yz
    go_wp2_with fail
    generalize ((w3.setCell ⟨w1.heap.size,0,none⟩ (.slice (some ⟨g,0,none⟩) (q+1) cap)).setCell ⟨w1.heap.size,0,none⟩ (.slice (some ⟨g,1,none⟩) q (cap-1)))=w5 at *;go_loopg [9,10] q (λk Xt vk wq=>∃(j:Nat),j+k=q/\vk=.int .i64 j/\Xt=.bool (false&&(V1.take j).all aI)/\aA [] w5 wq)
    case atStart=>exact⟨0,by omega,rfl,by first | rfl|(simp;done)|(simp;omega),aA.refl _ _⟩
    case round =>
    obtain⟨j,sI,JA,GK,vP⟩:=hrel;subst JA GK;have JB:=aj vP;have Tm:=aj (Xr.o.aB vP (by simp));have HRq:=aj (Eg.o.aB vP (by simp));have cq:wr.cell? ⟨w1.heap.size,0,none⟩=some (.slice (some ⟨g,1,none⟩) q (cap-1)):=Tm.o.cell 0;clear vP
    by_cases hj:j<q
    ·obtain⟨m2,rfl⟩:∃m2,gk=m2+1:=⟨gk-1,by omega⟩
     have Sy:decide ((j:Int)<(q:Int))=true:=a0h (by omega);obtain⟨g',o',EE,-,-,-,aV⟩:=HRq.o.yg (by omega);simp only[Option.some.injEq,Addr.mk.injEq,and_true]at EE;obtain⟨rfl,rfl⟩:=EE;have cj:=aV j (by omega);have hnm':(V1.getD j []).length<=9000:=HVd.o _ (by rw[a0F,a0c (by omega)];exact a0z _);have PX:Z_ ((V1.take (j+1)).all aI=((V1.take j).all aI&&aI (V1.getD j []))):=by
      show _=_;rw[a0I (by omega:j<V1.length),a1L,a0F,a0c (by omega:j<V1.length)];simp
     clear aV;generalize V1.getD j []=nn at *;generalize (V1.take j).all aI=okb at *;cases okb
     all_goals
      go_wp2_with (first | (go_at_call 19;refine(mQ nn _ (by omega)).mono ?_;rintro e w' ⟨rfl,rfl⟩))
      go_roundg m2
      case measure=>omega
      case rel=>exact⟨j+1,by omega,by go_num,by rw[PX.o];simp,JB⟩
    have hjq:j=q:=by omega
    have Sy:decide ((j:Int)<(q:Int))=false:=a0f (by omega);have PX:Z_ ((V1.take j).all aI=V1.all aI):=by
     show _=_;rw[a0D (by omega)]
    have Hn:Z_ (nu t=.error (2,1)):=HE.o _ (PW.o (by rw[a0f (by omega:¬ V.length<=9)];simp));go_wp2;go_ret3
    rw[Hn.o];exact⟨by simp[xy],Hf.o.trans (F5.o.trans JB)⟩
   have zW:q=0:=by omega
   subst zW
   by_cases nL:cap=1
   ·subst nL
    have Eg:Z_ (RS wr.heap.size ((w3.setCell ⟨w1.heap.size,0,none⟩ (.slice (some ⟨g,0,none⟩) 1 1)).setCell ⟨w1.heap.size,0,none⟩ (.slice (some ⟨g,0,none⟩) 0 0)) (.slice (some ⟨g,0,none⟩) 0 0) V1):=by
     have f5:aA [w1.heap.size] w3 ((w3.setCell ⟨w1.heap.size,0,none⟩ (.slice (some ⟨g,0,none⟩) 1 1)).setCell ⟨w1.heap.size,0,none⟩ (.slice (some ⟨g,0,none⟩) 0 0)):=((aA.refl _ _).setCell (by simp) _).setCell (by simp) _;exact RS.aB (⟨some ⟨g,0,none⟩,0,by simp;omega,by omega,by omega,λj hj=>by omega⟩) f5 (by simp;omega)
    have Xr:Z_ (oV ((w3.setCell ⟨w1.heap.size,0,none⟩ (.slice (some ⟨g,0,none⟩) 1 1)).setCell ⟨w1.heap.size,0,none⟩ (.slice (some ⟨g,0,none⟩) 0 0)) w1.heap.size (.slice (some ⟨g,0,none⟩) 0 0) (.pointer none) (.slice none 0 0)):=(JX.o.set0 _).set0 _;have F5:Z_ (aA [] w1 ((w3.setCell ⟨w1.heap.size,0,none⟩ (.slice (some ⟨g,0,none⟩) 1 1)).setCell ⟨w1.heap.size,0,none⟩ (.slice (some ⟨g,0,none⟩) 0 0))):=((DL.o.trans Kw).setCell (.inr (a0a _)) _).setCell (.inr (a0a _)) _;have yA:g<((w3.setCell ⟨w1.heap.size,0,none⟩ (.slice (some ⟨g,0,none⟩) 1 1)).setCell ⟨w1.heap.size,0,none⟩ (.slice (some ⟨g,0,none⟩) 0 0)).heap.size:=by rw[jL,jL];exact Yz
    go_wp2_with fail
    generalize ((w3.setCell ⟨w1.heap.size,0,none⟩ (.slice (some ⟨g,0,none⟩) 1 1)).setCell ⟨w1.heap.size,0,none⟩ (.slice (some ⟨g,0,none⟩) 0 0))=w5 at *;go_loopg [9,10] 0 (λk Xt vk wq=>∃(j:Nat),j+k=0/\vk=.int .i64 j/\Xt=.bool (false&&(V1.take j).all aI)/\aA [] w5 wq)
    case atStart=>exact⟨0,by omega,rfl,by first | rfl|(simp;done)|(simp;omega),aA.refl _ _⟩
    case round =>
    obtain⟨j,sI,JA,GK,vP⟩:=hrel;subst JA GK;have JB:=aj vP;have Tm:=aj (Xr.o.aB vP (by simp));have HRq:=aj (Eg.o.aB vP (by simp));have cq:wr.cell? ⟨w1.heap.size,0,none⟩=some (.slice (some ⟨g,0,none⟩) 0 0):=Tm.o.cell 0;clear vP
    by_cases hj:j<0
    ·omega
    have hjq:j=0:=by omega
    have Sy:decide ((j:Int)<(0:Int))=false:=a0f (by omega);have PX:Z_ ((V1.take j).all aI=V1.all aI):=by
     show _=_;rw[a0D (by omega)]
    have Hn:Z_ (nu t=.error (2,1)):=HE.o _ (PW.o (by rw[a0f (by omega:¬ 1<V.length)];simp));go_wp2;go_ret3
    rw[Hn.o];exact⟨by simp[xy],Hf.o.trans (F5.o.trans JB)⟩
   have uM:2<=cap:=by omega
   have Eg:Z_ (RS wr.heap.size ((w3.setCell ⟨w1.heap.size,0,none⟩ (.slice (some ⟨g,0,none⟩) 1 cap)).setCell ⟨w1.heap.size,0,none⟩ (.slice (some ⟨g,1,none⟩) 0 (cap-1))) (.slice (some ⟨g,1,none⟩) 0 (cap-1)) V1):=by
    have f5:aA [w1.heap.size] w3 ((w3.setCell ⟨w1.heap.size,0,none⟩ (.slice (some ⟨g,0,none⟩) 1 cap)).setCell ⟨w1.heap.size,0,none⟩ (.slice (some ⟨g,1,none⟩) 0 (cap-1))):=((aA.refl _ _).setCell (by simp) _).setCell (by simp) _;exact RS.aB (HRd.o) f5 (by simp;omega)
   have Xr:Z_ (oV ((w3.setCell ⟨w1.heap.size,0,none⟩ (.slice (some ⟨g,0,none⟩) 1 cap)).setCell ⟨w1.heap.size,0,none⟩ (.slice (some ⟨g,1,none⟩) 0 (cap-1))) w1.heap.size (.slice (some ⟨g,1,none⟩) 0 (cap-1)) (.pointer none) (.slice none 0 0)):=(JX.o.set0 _).set0 _;have F5:Z_ (aA [] w1 ((w3.setCell ⟨w1.heap.size,0,none⟩ (.slice (some ⟨g,0,none⟩) 1 cap)).setCell ⟨w1.heap.size,0,none⟩ (.slice (some ⟨g,1,none⟩) 0 (cap-1)))):=((DL.o.trans Kw).setCell (.inr (a0a _)) _).setCell (.inr (a0a _)) _;have yA:g<((w3.setCell ⟨w1.heap.size,0,none⟩ (.slice (some ⟨g,0,none⟩) 1 cap)).setCell ⟨w1.heap.size,0,none⟩ (.slice (some ⟨g,1,none⟩) 0 (cap-1))).heap.size:=by rw[jL,jL];exact Yz
   go_wp2_with fail
   generalize ((w3.setCell ⟨w1.heap.size,0,none⟩ (.slice (some ⟨g,0,none⟩) 1 cap)).setCell ⟨w1.heap.size,0,none⟩ (.slice (some ⟨g,1,none⟩) 0 (cap-1)))=w5 at *;go_loopg [9,10] 0 (λk Xt vk wq=>∃(j:Nat),j+k=0/\vk=.int .i64 j/\Xt=.bool (false&&(V1.take j).all aI)/\aA [] w5 wq)
   case atStart=>exact⟨0,by omega,rfl,by first | rfl|(simp;done)|(simp;omega),aA.refl _ _⟩
   case round =>
   obtain⟨j,sI,JA,GK,vP⟩:=hrel;subst JA GK;have JB:=aj vP;have Tm:=aj (Xr.o.aB vP (by simp));have HRq:=aj (Eg.o.aB vP (by simp));have cq:wr.cell? ⟨w1.heap.size,0,none⟩=some (.slice (some ⟨g,1,none⟩) 0 (cap-1)):=Tm.o.cell 0;clear vP
   by_cases hj:j<0
   ·omega
   have hjq:j=0:=by omega
   have Sy:decide ((j:Int)<(0:Int))=false:=a0f (by omega);have PX:Z_ ((V1.take j).all aI=V1.all aI):=by
    show _=_;rw[a0D (by omega)]
   have Hn:Z_ (nu t=.error (2,1)):=HE.o _ (PW.o (by rw[a0f (by omega:¬ 1<V.length)];simp));go_wp2;go_ret3
   rw[Hn.o];exact⟨by simp[xy],Hf.o.trans (F5.o.trans JB)⟩
  -- a route
  have hi1:((i:Int)==0)=false:=a0k.2 (by omega);have Si:(i==0)=false:=a0k.2 yM;have hX:X.length+1=i:=H1.o (by omega);have bN:Z_ (RES=match wZ x with | none=>.error (i+1)|some r=>qm (W.drop (i+1)) (i+1) L (X.map (·.2.2)++[r])):=by
   show _=_;rw[<-CU.o,EU.o,agn.o]
   conv=>lhs;unfold qm
   rw[Si];rfl
  clear CU EU agn;obtain⟨al,cl,Dy⟩:=aT Aa.o.lp;rw[a0B]at Dy;subst Dy;rcases hr:wZ x with _|r
  ·have Hn:Z_ (nu t=.error (2,i+1)):=HE.o _ (by rw[bN.o,hr])
   have Hr:=aj hr;clear bN hr Si;go_wp2_with fail
   refine(Rp x wr (by omega)).mono ?_;rintro e w2 ⟨hp,aS⟩;rw[Hr.o]at hp;obtain⟨p,rfl⟩:=hp;have l8:=aj aS;clear aS;go_wp2;go_ret3
   rw[Hn.o];exact⟨by simp[xy],Hfw.o.trans l8⟩
  have Hn:Z_ (qm (W.drop (i+1)) (i+1) L (X.map (·.2.2)++[r])=RES):=by show _=_;rw[bN.o,hr]
  have Hr:=aj hr;clear bN hr Si;go_wp2_with fail
  refine(Rp x wr (by omega)).mono ?_;rintro e w2 ⟨hp,aS⟩;rw[Hr.o]at hp;obtain⟨b,⟨GJ,dP,vt0,vt1,vt2,iB,Xp,vk,vd,akf⟩,hbz,rfl,kz⟩:=hp;have akj:=aj kz;have l8:=aj aS;have gF:=aS.size;have rD:=kz.at_.lt;have d9:w2.cell? ⟨b,9,none⟩=some (.int .i64 akf):=kz.at_.cell 9;have z9:=kz.at_.fz 9;have JW:=aj (Hcb.o.aB aS (by simp));have c2:w2.cell? ⟨w1.heap.size,2,none⟩=some (.slice al X.length cl):=JW.o.cell 2;have f2:=JW.o.fz 2;have bL:b≠w1.heap.size:=by omega
  have hne':w1.heap.size≠b:=by omega
  have ag:Value.ownBlock (.slice al X.length cl)≠some w1.heap.size:=λe=>by have:=Aa.o.lp.lt _ e;omega
  have xY:∀u o,Z_ (aA [] wr ((w2.setCell ⟨b,9,none⟩ u).alloc o)):=λu o=>(l8.o.setCell (.inr hbz) _).alloc _
  have g2:∀u o,((w2.setCell ⟨b,9,none⟩ u).alloc o).cell? ⟨w1.heap.size,2,none⟩=some (.slice al X.length cl):=λu o=>((((aA.refl [b] w2).setCell (p:=⟨b,9,none⟩) (by simp) u).alloc o).cell (p:=⟨w1.heap.size,2,none⟩) (by simp;omega) (by simp;omega)).trans c2
  have g3:∀u o,((w2.setCell ⟨b,9,none⟩ u).alloc o).frozen? ⟨w1.heap.size,2,none⟩=false:=λu o=>((((aA.refl [b] w2).setCell (p:=⟨b,9,none⟩) (by simp) u).alloc o).frozen (p:=⟨w1.heap.size,2,none⟩) (by simp;omega) (by simp;omega)).trans f2
  clear kz aS;go_wp2_with (first | (at_builtin;refine Xm _ rfl _ _ rfl (w1.heap.size+1) (.slice al X.length cl) (X.map (·.1)) b w2.heap.size rfl ((Aa.o.NJ (xY _ _).o).lp) rfl (Ei _ _ _ _ (jL _ _ _)) (by simp;omega) (by simp;omega) ?_;intro g4 FY w4 Vg MN EN;have c4:=(MN.cell_far ⟨w1.heap.size,2,none⟩ (by simp;omega) (Ne.symm ag)).trans (g2 _ _);have z4:=(MN.frozen_far ⟨w1.heap.size,2,none⟩ (by simp;omega) (Ne.symm ag)).trans (g3 _ _);have Hs4:=aj Vg;have Hg4:=aj MN;have Hb4:=aj EN;clear Vg MN EN))
  go_roundg m
  case measure=>omega
  case rel =>
   have hRB:pN (w2.setCell ⟨b,9,none⟩ (.int .i64 ((i:Int)+1))) b ⟨GJ,dP,vt0,vt1,vt2,iB,Xp,vk,vd,(i:Int)+1⟩:=akj.o.at_.set 9 _ _ rfl;have amU:aA [b] w2 (w2.setCell ⟨b,9,none⟩ (.int .i64 ((i:Int)+1))):=(aA.refl _ _).setCell (by simp) _;have hRQ:zZ (w1.heap.size+1) ((w2.setCell ⟨b,9,none⟩ (.int .i64 ((i:Int)+1))).alloc (.cells #[.pointer (some ⟨b,0,none⟩)] 68)) b ⟨GJ,dP,vt0,vt1,vt2,iB,Xp,vk,vd,(i:Int)+1⟩ r:=by
    have q:=akj.o;refine zZ.aB (S:=[]) (zZ.base (base:=wr.heap.size) ⟨hRB,q.rc,jb q.KI amU ?_,q.t0,q.t1,q.t2,jb q.ifs amU ?_,q.on,q.d⟩ (by omega)) ((aA.refl _ _).alloc _) (by simp) (by simp)
    ·intro k hk;simp at hk;subst hk;exact .inr ⟨_,_,_,q.at_,by decide⟩
    intro k hk;simp at hk;subst hk;exact .inr ⟨_,_,_,q.at_,by decide⟩
   have Q4:=QI.snoc (Aa.o.NJ (xY (.int .i64 ((i:Int)+1)) (.cells #[.pointer (some ⟨b,0,none⟩)] 68)).o) (x:=(b,⟨GJ,dP,vt0,vt1,vt2,iB,Xp,vk,vd,(i:Int)+1⟩,r)) hRQ akj.o.vk (by simp;omega) (λy hy=>by have:=Aa.o.lt y hy;simp;omega) (by simp;omega) (λe=>by have:=Aa.o.vrt _ e;simp at this;omega) (λe=>by have:=Aa.o.lp.lt _ e;simp at this;omega) Hg4.o Hs4.o Hb4;rw[a0B,hX]at Q4;refine⟨i+1,vr,.slice (some ⟨g4,0,none⟩) i FY,L,_,by omega,by go_num,Q4.apt 2 _,?_,λh=>by omega,λ_=>by simp;omega,hL,?_,?_,?_⟩
   ·exact oV.set2 ((Hcb.o.aB (xY _ _).o (by simp)).aB (aA.dS Hg4) (by rw[a0H];exact ag)) _
   ·intro y hy
    rw[a0b,a0y]at hy;rcases hy with hy|rfl
    ·exact HXd.o y hy
    have:=anV _ _ Hr;simp;omega
   ·rw[a0T];exact Hn
   exact((DL.o.trans (xY _ _).o).grown Hg4.o (λk hk=>.inr (by have:=Aa.o.lp.lt _ hk;omega))).setCell (.inr (a0a _)) _
 -- the end
 have Sz:i=n:=by omega
 subst Sz;have iH:decide ((i:Int)<(i:Int))=false:=a0f (by omega);have ci:wr.cell? ⟨gw,i,none⟩=some (.string (bs (W.getD i []))):=pF.cell i (by omega);have bN:Z_ (RES=if !((W.getD i []).isEmpty)||i==0 then .error (i+1) else .ok (L,X.map (·.2.2))):=by
  show _=_;rw[<-CU.o,a0q (by omega:i<W.length),a0p (by omega),a0F,a0c (by omega:i<W.length)];unfold qm;rfl
 generalize W.getD i []=x at *;obtain⟨ar,cr,hvr⟩:∃a c,vr=.slice a L.length c:=by
  obtain⟨a,c,e,_⟩:=hqi.rs;exact⟨a,c,e⟩
 obtain⟨al,cl,Dy⟩:=aT hqi.lp;rw[a0B]at Dy;subst hvr Dy;clear hqi jX h0 h1 hXd gP bU pF CU;cases hx:(x == [])
 ·have Hn:Z_ (nu t=.error (2,i+1)):=HE.o _ (by
   rw[bN.o];have:x.isEmpty=false:=by
    cases x with
    | nil=>simp at hx
    | cons=>rfl
   rw[this];rfl)
  clear bN;go_wp2;go_ret3
  rw[Hn.o];exact⟨by simp[xy],Hfw⟩
 by_cases yM:i=0
 ·have e0:((i:Int)==0)=true:=by simp[yM]
  have Hn:Z_ (nu t=.error (2,i+1)):=HE.o _ (by rw[bN.o,yM];simp);have aq6:i<=0:=by omega
  clear bN yM;go_wp2;go_ret3
  rw[Hn.o];exact⟨by simp[xy],Hfw⟩
 have e0:((i:Int)==0)=false:=a0k.2 (by omega);have hxe:x=[]:=by simpa using hx
 have Hn:Z_ (nu t=if (uQ L (X.map (·.2.2))).1=0 then .ok (L,X.map (·.2.2)) else .error (uQ L (X.map (·.2.2)))):=HK.o _ _ (by rw[bN.o,hxe];simp[yM]);have hX:X.length+1=i:=H1.o (by omega);clear bN hxe;go_wp2_with fail
 refine(afc w1.heap.size (w1.heap.size+1) (.slice ar L.length cr) (.slice al X.length cl) L X wr Hcb.o (λw' f=>Aa.o.kept f) (λx hx=>⟨Aa.o.rq x hx,Aa.o.vk x hx⟩) Aa.o.row (λx hx=>by have:=Aa.o.gt x hx;omega) Aa.o.nd hL (by omega) HXd).mono ?_;rintro e w2 ⟨rfl,aS,amV⟩;have apH:=aj amV;have l8:=aj aS;have Jw:=aS.size;clear amV aS;have amW:Z_ (aA [] w w2):=by
  refine Hf.o.trans ((DL.o.nil (S:=w1.heap.size::X.map (·.1))).trans l8.o |>.mono ?_);intro k hk hm;rw[a0l,a0s]at hm;rcases hm with rfl|⟨x,hx,rfl⟩
  ·omega
  have:=Aa.o.gt x hx;omega
 unfold grE;generalize hg:uQ L (X.map (·.2.2))=f at *;have Hg:=aj hg;clear hg;obtain⟨f1,f2⟩:=f
 by_cases aZ:f1=0
 ·subst aZ
  have e2:=aki _ _ (by rw[Hg.o]);rw[Hg.o]at e2;simp at e2;subst e2;go_wp2;go_ret3
  rw[Hn.o];obtain⟨K,uM,hK,apI⟩:=apH.o (by first | trivial|rfl|simp);have hxd:xd (X.map (λx=>(x.1,{ x.2.1 with vk:=K x.1 },x.2.2)))=xd X:=by simp[xd,Function.comp_def]
  refine⟨⟨w1.heap.size,w1.heap.size+1,_,_,_,X.map (λx=>(x.1,{ x.2.1 with vk:=K x.1 },x.2.2)),rfl,uM,(Aa.o.kept l8).1,?_,?_,?_,⟨fT,by omega,?_,?_,?_,?_,?_⟩⟩,amW⟩
  ·have:=(Aa.o.kept l8).2
   simpa[Function.comp_def] using this
  ·intro y hy
   rw[a0s]at hy;obtain⟨x,hx,rfl⟩:=hy;exact Aa.o.rqs l8.o hK x hx
  ·simp[Function.comp_def]
  ·intro i y hy
   rw[a1d]at hy;cases YE:X[i]? with
   | none=>rw[YE]at hy;simp at hy
   | some x =>
     rw[YE]at hy;simp at hy;subst hy;exact Aa.o.row i x YE
  ·have:=Aa.o.nd
   simpa[Function.comp_def] using this
  ·intro y hy
   rw[a0s]at hy;obtain⟨x,hx,rfl⟩:=hy;have:=Aa.o.gt x hx;exact this
  ·simp[Function.comp_def]
  intro y hy;rw[a0s]at hy;obtain⟨x,hx,rfl⟩:=hy;rw[hxd];exact uF (apI x hx) (by omega)
 simp only[aZ,a0G];go_wp2;go_ret3
 rw[Hn.o];simp only[aZ,a0G];exact⟨rfl,amW⟩
theorem Xu(n:LB):∀(L a:List LB),jV n L (a,true)=(a++L,true)
 | [],a=>by simp[jV]
 | x::L,a=>by unfold jV;simp only[a2q,a3p];rw[a0g (by simp),Xu n L];simp
theorem Rt(n:LB):∀(L a:List LB),(if (jV n L (a,false)).2 then (jV n L (a,false)).1 else (jV n L (a,false)).1++[n])=a++ins n L
 | [],a=>by simp[jV,ins]
 | x::L,a=>by
   have e:jV n (x::L) (a,false)=jV n L (if n<x then (a++[n]++[x],true) else (a++[x],false)):=by
    conv=>lhs;unfold jV
    rw[aj0];simp
   rw[e];unfold ins
   by_cases h:n<x
   ·simp only[a0j h];rw[Xu];simp
   simp only[a0g h];have:=Rt n L (a++[x]);rw[this];simp
theorem afe(L:List LB)(n:LB):qO L n=ins n L:=by
 have:=Rt n L [];unfold qO;rw[this];rfl
/-! Words: what cut answers. -/
def glue(p:LB):List LB->List LB
 | []=>[p]
 | h::r=>(p++h)::r
theorem xc(p q:LB)(W:List LB):glue p (glue q W)=glue (p++q) W:=by
 cases W<;>simp[glue]
def l6(q:Bool)(c:UInt8):LB->Bool->Bool->List LB
 | [],_,_=>[[]]
 | x::r,i,true=>glue [x] (l6 q c r i false)
 | x::r,i,false =>
   if (if q&&x==34 then !i else i)&&x==92 then glue [x] (l6 q c r (if q&&x==34 then !i else i) true)
   else if x==c&&!(if q&&x==34 then !i else i) then []::l6 q c r (if q&&x==34 then !i else i) false
   else glue [x] (l6 q c r (if q&&x==34 then !i else i) false)
theorem Xv(p:LB)(W:List LB):glue p W≠[]:=by cases W<;>simp[glue]
theorem zP(q:Bool)(c:UInt8)(l:LB)(i e:Bool):l6 q c l i e≠[]:=by
 cases l with
 | nil=>cases e<;>simp[l6]
 | cons x r =>
   cases e with
   | true=>unfold l6;exact Xv _ _
   | false =>
     unfold l6;generalize (if (q&&x==34)=true then !i else i)=i1
     by_cases hA:(i1&&x==92)=true
     ·rw[a0j hA];exact Xv _ _
     rw[a0g hA]
     by_cases hB:(x==c&&!i1)=true
     ·rw[a0j hB];simp
     rw[a0g hB];exact Xv _ _
theorem CV(q:Bool)(c:UInt8):∀(k:Nat) (l:LB) (i:Bool) (t:LB) (out:List LB),l.length<k->fQ q c k l i t out=out++glue t (l6 q c l i false)
 | 0,l,i,t,out,h=>by omega
 | k+1,[],i,t,out,h=>by unfold fQ l6;simp[glue]
 | k+1,x::r,i,t,out,h=>by
   simp only[a0o]at h;unfold fQ l6;dsimp only;generalize (if (q&&x==34)=true then !i else i)=i1
   by_cases hA:(i1&&x==92)=true
   ·rw[a0j hA]
    cases r with
    | nil =>
      have hi:i1=true:=by simp at hA;exact hA.1
      subst hi;rw[a0g (by simp),a0g (by simp),CV q c k [] _ _ _ (by simp at h |-;omega)];simp[l6,glue]
    | cons d r2 =>
      rw[a0j (by simp[hA])];rw[a3j,a2A,CV q c k r2 _ _ _ (by simp at h |-;omega)];simp only[l6,xc,a2N,List.take_zero]
   rw[a0g hA,a0g (by
    intro h2;apply hA;simp only[a0N]at h2 |-;exact h2.1)]
   by_cases hB:(x==c&&!i1)=true
   ·rw[a0j hB,a0j hB,CV q c k r _ _ _ (by omega)]
    have:glue [] (l6 q c r i1 false)=l6 q c r i1 false:=by
     cases za:l6 q c r i1 false with
     | nil=>exact(zP q c r i1 false za).elim
     | cons=>rfl
    rw[this];simp[glue]
   rw[a0g hB,a0g hB,CV q c k r _ _ _ (by omega),xc]
theorem NQ(q:Bool)(c:UInt8)(l:LB):dm q c l=l6 q c l false false:=by
 unfold dm;rw[CV q c _ _ _ _ _ (a2B _),a1a];cases h:l6 q c l false false with
 | nil=>exact(zP q c l false false h).elim
 | cons=>rfl
def lZ:LB->Bool->Bool->LB × LB
 | [],_,_=>([],[])
 | x::r,i,true=>(x::(lZ r i false).1,(lZ r i false).2)
 | x::r,i,false =>
   if (if x==34 then !i else i)&&x==92 then (x::(lZ r (if x==34 then !i else i) true).1,(lZ r (if x==34 then !i else i) true).2)
   else if x==32&&!(if x==34 then !i else i) then ([],x::r)
   else (x::(lZ r (if x==34 then !i else i) false).1,(lZ r (if x==34 then !i else i) false).2)
def W0(l:LB):List LB:=l6 true 32 l false false
def tw:LB->List LB
 | []=>[]
 | _::r=>W0 r
theorem xQ(x:UInt8)(r:LB):tw (x::r)=W0 r:=rfl
theorem agp:tw []=[]:=rfl
def bd(l:LB):Bool:=match l with | []=>true|x::_=>x==32
theorem NS:∀(l:LB) (i e:Bool),l6 true 32 l i e=(lZ l i e).1::tw (lZ l i e).2
 | [],i,e=>by cases e<;>rfl
 | x::r,i,true=>by
   unfold l6 lZ;rw[NS r i false];rfl
 | x::r,i,false=>by
   unfold l6 lZ;simp only[a2s];generalize hi1:(if (x==34)=true then !i else i)=i1
   by_cases hA:(i1&&x==92)=true
   ·rw[a0j hA,a0j hA,NS r i1 true];rfl
   rw[a0g hA,a0g hA]
   by_cases hB:(x==32&&!i1)=true
   ·rw[a0j hB,a0j hB]
    have h2:i1=false:=by simp at hB;exact hB.2
    subst h2;rfl
   rw[a0g hB,a0g hB,NS r i1 false];rfl
theorem GN:∀(l:LB) (i e:Bool),l=(lZ l i e).1++(lZ l i e).2/\bd (lZ l i e).2=true
 | [],i,e=>by cases e<;>simp[lZ,bd]
 | x::r,i,true=>by
   unfold lZ;have:=GN r i false;exact⟨by simp;exact this.1,this.2⟩
 | x::r,i,false=>by
   unfold lZ;generalize hi1:(if (x==34)=true then !i else i)=i1
   by_cases hA:(i1&&x==92)=true
   ·rw[a0j hA]
    have:=GN r i1 true;exact⟨by simp;exact this.1,this.2⟩
   rw[a0g hA]
   by_cases hB:(x==32&&!i1)=true
   ·rw[a0j hB]
    simp at hB;simp[bd,hB.1]
   rw[a0g hB];have:=GN r i1 false;exact⟨by simp;exact this.1,this.2⟩
def fw(l:LB):LB:=(lZ l false false).1
def uk(l:LB):LB:=(lZ l false false).2
theorem By(l:LB):W0 l=fw l::tw (uk l):=NS l false false
theorem I1(l:LB):l=fw l++uk l:=(GN l false false).1
theorem abt(l:LB):bd (uk l)=true:=(GN l false false).2
theorem um(l:LB)(h:bd l=true):fw l=[]/\uk l=l:=by
 cases l with
 | nil=>exact⟨rfl,rfl⟩
 | cons x r =>
   have:x=32:=by simpa[bd] using h
   subst this;exact⟨rfl,rfl⟩
def clean(p:LB):Bool:=p.all λx=>!(x==32)&&!(x==34)
theorem kF:∀(p s:LB),clean p=true->fw (p++s)=p++fw s/\uk (p++s)=uk s
 | [],s,_=>⟨rfl,rfl⟩
 | x::p,s,h=>by
   unfold clean at h;simp only[a1Q,a0N,a1m]at h;have ih:=kF p s h.2;have e1:=h.1.1;have e2:=h.1.2;have:lZ (x::(p++s)) false false=(x::(lZ (p++s) false false).1,(lZ (p++s) false false).2):=by
    conv=>lhs;unfold lZ
    rw[e2,e1];rfl
   unfold fw uk at *;rw[a0J,this];exact⟨by simp[ih.1],ih.2⟩
def LG(p:LB)(W:List LB):Bool:=decide (1<W.length)&&(W.getD 0 []==p)
theorem alV(l:LB):(tw l).length=0↔l=[]:=by
 cases l with
 | nil=>simp[tw]
 | cons x r=>rw[xQ,By];simp
theorem adx {l:LB}(h:bd l=true)(hn:l≠[]):∃r,l=32::r:=by
 cases l with
 | nil=>exact(hn rfl).elim
 | cons x r=>simp[bd]at h;subst h;exact⟨r,rfl⟩
theorem dV(p l:LB)(h:aL p l=true):l=p++aJ p l:=by
 unfold aL at h;unfold aJ;rw[a0j h];have:=a2e.1 h;obtain⟨t,rfl⟩:=this;simp
theorem nZ(p s:LB):aL p (p++s)=true/\aJ p (p++s)=s:=by
 have:aL p (p++s)=true:=by unfold aL;exact a2e.2 (a2U _ _)
 refine⟨this,?_⟩;unfold aL at this;unfold aJ;rw[a0j this];simp
theorem aff(p l:LB)(hp:clean p=true)(hl:bd l=true):LG p (tw l)=aL (32::(p++[32])) l:=by
 cases l with
 | nil=>simp[LG,tw,aL]
 | cons x r =>
   have:x=32:=by simpa[bd] using hl
   subst this;rw[a0P]
   constructor
   ·intro h
    unfold LG at h;rw[xQ,By]at h;simp only[a0o,a0N,a0S,a0X]at h;have h1:uk r≠[]:=λe=>by rw[e,agp]at h;simp at h
    obtain⟨r2,e2⟩:=adx (abt r) h1;have h3:fw r=p:=by simpa using h.2
    have:=I1 r;rw[h3,e2]at this;rw[this];have h4:=(nZ (32::(p++[32])) r2).1;simpa using h4
   intro h;have e:=dV _ _ h;generalize aJ (32::(p++[32])) (32::r)=r2 at e;have e':r=p++32::r2:=by simpa using e
   subst e';unfold LG;have:=kF p (32::r2) hp;have hb:=um (32::r2) rfl;rw[xQ,By,this.1,this.2,hb.1,hb.2,xQ,By];simp
theorem Xw(p l:LB)(hp:clean p=true)(h:aL (32::(p++[32])) l=true):(tw l).getD 1 []=fw (aJ (32::(p++[32])) l)/\(tw l).drop 2=tw (uk (aJ (32::(p++[32])) l)):=by
 have e:=dV _ _ h;generalize aJ (32::(p++[32])) l=r2 at e;subst e;have h2:tw (32::(p++[32])++r2)=p::W0 r2:=by
  have e2:(32::(p++[32])++r2)=32::(p++32::r2):=by simp
  rw[e2];show W0 (p++32::r2)=_;have:=kF p (32::r2) hp;have hb:=um (32::r2) rfl;rw[By,this.1,this.2,hb.1,hb.2,xQ];simp
 rw[h2,By];simp
theorem NT(p l:LB)(h:bd l=false):aL (32::p) l=false:=by
 cases l with
 | nil=>simp[bd]at h
 | cons x r =>
   unfold bd at h;have:(32==x)=false:=by
    rw[a0k];intro e;subst e;simp at h
   simp[aL,List.isPrefixOf,this]
theorem akk(p l:LB)(h:bd l=false):aJ (32::p) l=l:=by
 have:=NT p l h;unfold aL at this;unfold aJ;rw[a0g (by simp[this])]
theorem ahK(c:UInt8):(!(bA c)||(!(c==32)&&!(c==34)&&!(c==44)&&!(c==45)))=true:=tH (p:=λc=>!(bA c)||(!(c==32)&&!(c==34)&&!(c==44)&&!(c==45))) (by decide +kernel) c
theorem ahL(c:UInt8):(!(lI c)||(!(c==32)&&!(c==34)&&decide (48<=c.toNat)&&decide (c.toNat<=57)))=true:=tH (p:=λc=>!(lI c)||(!(c==32)&&!(c==34)&&decide (48<=c.toNat)&&decide (c.toNat<=57))) (by decide +kernel) c
theorem GR {c:UInt8}(h:bA c=true):c≠32/\c≠34/\c≠44/\c≠45:=by
 have:=ahK c;rw[h]at this;simpa[and_assoc] using this
theorem Xx {c:UInt8}(h:lI c=true):c≠32/\c≠34/\48<=c.toNat/\c.toNat<=57:=by
 have:=ahL c;rw[h]at this;simpa[and_assoc] using this
theorem j5(p:α->Bool):∀(l:List α),(l.takeWhile p).all p=true
 | []=>rfl
 | x::r=>by
   rw[List.takeWhile_cons];cases h:p x
   ·rfl
   simp only[a0C,a1Q,h,a2s];exact j5 p r
theorem sV(p:α->Bool):∀(l:List α) (x:α) (r:List α),l.dropWhile p=x::r->p x=false
 | [],x,r,h=>by simp at h
 | y::l,x,r,h=>by
   rw[List.dropWhile_cons]at h;cases hy:p y
   ·rw[hy]at h;simp at h;rw[<-h.1];exact hy
   rw[hy]at h;simp at h;exact sV p l x r h
theorem I4 {p:UInt8->Bool}(hp:∀c,p c=true->c≠32/\c≠34)(l:LB)(h:l.all p=true):clean l=true:=by
 unfold clean;rw[a1e]at h |-;intro x hx;have:=hp x (h x hx);simp[this.1,this.2]
theorem GU(x:UInt8)(s:LB)(h:bd (x::s)=false):∃h,fw (x::s)=x::h:=by
 have hx:(x==32)=false:=by simpa[bd] using h
 unfold fw lZ;rw[hx]
 by_cases hA:((if (x==34)=true then !false else false)&&x==92)=true
 ·rw[a0j hA];exact⟨_,rfl⟩
 rw[a0g hA];exact⟨_,rfl⟩
theorem zQ {s:LB}(h:bd s=false):∃x r,s=x::r/\x≠32:=by
 cases s with
 | nil=>simp[bd]at h
 | cons x r=>exact⟨x,r,rfl,by simpa[bd] using h⟩
theorem CZ(a:LB)(x:UInt8)(b:LB)(h:bA x=false):aI (a++x::b)=false:=by
 unfold aI;have:(a++x::b).all bA=false:=by simp[a1L,h]
 rw[this];simp
theorem akl(r:LB):aI (fw r)=(aI (r.takeWhile bA)&&bd (r.dropWhile bA))/\(bd (r.dropWhile bA)=true->fw r=r.takeWhile bA/\uk r=r.dropWhile bA):=by
 have hc:clean (r.takeWhile bA)=true:=I4 (p:=bA) (λc h=>⟨(GR h).1,(GR h).2.1⟩) _ (j5 _ _);have e:r.takeWhile bA++r.dropWhile bA=r:=a1K;have h:=kF (r.takeWhile bA) (r.dropWhile bA) hc;rw[e]at h;have hd:=sV bA r;generalize r.takeWhile bA=n at *;generalize r.dropWhile bA=s at *;cases hb:bd s
 ·obtain⟨x,s',rfl,hx⟩:=zQ hb
  obtain⟨h',e'⟩:=GU x s' hb;refine⟨?_,by simp⟩;rw[h.1,e',CZ _ _ _ (hd x s' rfl)];simp
 have:=um s hb;rw[h.1,h.2,this.1,this.2];simp
theorem akm(r:LB):(aI (fw r)||fw r == [45])=((dR r).2.1&&bd (dR r).2.2)/\((dR r).2.1=true->bd (dR r).2.2=true->fw r=(dR r).1/\uk r=(dR r).2.2):=by
 unfold dR
 by_cases ht:aL [45] r=true
 ·rw[a0j ht]
  have e:=dV _ _ ht;generalize aJ [45] r=r' at *;subst e;have h:=kF [45] r' (by decide);rw[h.1,h.2];cases hb:bd r'
  ·obtain⟨x,s',rfl,hx⟩:=zQ hb
   obtain⟨h',e'⟩:=GU x s' hb;rw[e'];have:aI ([45]++x::h')=false:=by
    have:=CZ [] 45 (x::h') (by decide);simpa using this
   rw[this];simp
  have:=um r' hb;rw[this.1,this.2];simp
 rw[a0g ht];have hn:(fw r == [45])=false:=by
  rw[a0k];intro e;apply ht;have:=I1 r;rw[e]at this;rw[this];exact(nZ [45] _).1
 rw[hn,Bool.or_false];have:=akl r;exact⟨this.1,λ_ h=>this.2 h⟩
def vQ(D:LB)(n:Nat):Nat:=D.foldl (λn c=>n*10+(c.toNat-48)) n
theorem Xy:∀(D:LB) (n:Nat),n*10 ^ D.length<=vQ D n
 | [],n=>by simp[vQ]
 | c::D,n=>by
   have:=Xy D (n*10+(c.toNat-48));unfold vQ at *;simp only[a1M,a0o,Nat.pow_succ];refine a0e ?_ this;rw[a0V (10 ^ D.length) 10,<-a0O];exact a0w _ (by omega)
theorem ady:∀(D:LB) (n:Nat),D.all lI=true->vQ D n<(n+1)*10 ^ D.length
 | [],n,_=>by simp[vQ]
 | c::D,n,h=>by
   simp only[a1Q,a0N]at h;have hc:=Xx h.1;have:=ady D (n*10+(c.toNat-48)) h.2;unfold vQ at *;simp only[a1M,a0o,Nat.pow_succ];refine a0x this ?_;rw[a0V (10 ^ D.length) 10,<-a0O];exact a0w _ (by omega)
theorem Xz:∀(D:LB) (n:Nat),D.all lI=true->yc D (n:Int)=(vQ D n:Int)
 | [],n,_=>rfl
 | c::D,n,h=>by
   simp only[a1Q,a0N]at h;have hc:=Xx h.1;have h1:kr c.toNat=true:=h.1;unfold yc;rw[a0j h1];have:(10*(n:Int)+c.toNat-48)=((n*10+(c.toNat-48):Nat):Int):=by omega
   rw[this,Xz D _ h.2]
   rfl
theorem Z9:∀(D s:LB) (n:Nat),D.all lI=true->(∀x r,s=x::r->lI x=false)->n<=99999->(if vQ D n<=99999 then rO (D++s) n=(vQ D n,true,s) else (rO (D++s) n).2.1=false)
 | [],s,n,_,hs,hn=>by
   have hv:vQ [] n=n:=rfl;rw[a1a,hv,a0j hn];cases s with
   | nil=>rfl
   | cons x r=>unfold rO;rw[a0g (by rw[hs x r rfl];simp)]
 | c::D,s,n,h,hs,hn=>by
   simp only[a1Q,a0N]at h;rw[a0J];unfold rO;rw[a0j h.1];have hv:vQ (c::D) n=vQ D (n*10+(c.toNat-48)):=rfl
   by_cases hb:99999<n*10+(c.toNat-48)
   ·rw[a0j hb]
    have:=Xy D (n*10+(c.toNat-48));have h1:1<=10 ^ D.length:=a2Q (by simp);have h2:n*10+(c.toNat-48)<=(n*10+(c.toNat-48))*10 ^ D.length:=a2u _ h1;rw[a0g (by rw[hv];omega)]
   rw[a0g hb,hv];exact Z9 D s _ h.2 hs (by omega)
theorem alW(r:LB):decide (0<=fZ (fw r))=((jU r).2.1&&bd (jU r).2.2)/\((jU r).2.1=true->bd (jU r).2.2=true->fZ (fw r)=((jU r).1:Int)/\uk r=(jU r).2.2):=by
 unfold jU
 by_cases ht:aL [48] r=true
 ·rw[a0j ht]
  have e:=dV _ _ ht;generalize aJ [48] r=r' at *;subst e;have h:=kF [48] r' (by decide);rw[h.1,h.2];cases hb:bd r'
  ·obtain⟨x,s',rfl,hx⟩:=zQ hb
   obtain⟨h',e'⟩:=GU x s' hb;rw[e'];refine⟨?_,by simp⟩;have:fZ ([48]++x::h')=-1:=by
    unfold fZ;have e1:([48]++x::h' == [48])=false:=by simp
    have e2:(hd ([48]++x::h')==48)=true:=rfl;rw[e1,e2];simp
   rw[this];simp
  have:=um r' hb;rw[this.1,this.2];simp[fZ,yc,hd,lI,kr]
 rw[a0g ht];have hc:clean (r.takeWhile lI)=true:=I4 (p:=lI) (λc h=>⟨(Xx h).1,(Xx h).2.1⟩) _ (j5 _ _);have e:r.takeWhile lI++r.dropWhile lI=r:=a1K;have h:=kF (r.takeWhile lI) (r.dropWhile lI) hc;rw[e]at h;have nA:=sV lI r;have fJ:=j5 lI r
 by_cases hg:kr (hd r)=true
 ·rw[a0g (by simp[hg])]
  have hD:∃c D,r.takeWhile lI=c::D/\c≠48:=by
   cases r with
   | nil=>simp[hd,kr]at hg
   | cons c r' =>
     have uM:lI c=true:=hg;refine⟨c,r'.takeWhile lI,by rw[List.takeWhile_cons,uM];rfl,λe=>?_⟩;subst e;exact ht (nZ [48] r').1
  have hv:=Z9 (r.takeWhile lI) (r.dropWhile lI) 0 fJ (λx r' h=>nA x r' h) (by omega);rw[e]at hv;generalize r.takeWhile lI=D at *;generalize r.dropWhile lI=s at *;obtain⟨c,D',rfl,amX⟩:=hD;have aO:=ady (c::D') 0 fJ;have hge:10 ^ D'.length<=vQ (c::D') 0:=by
   have h1:=Xy D' (0*10+(c.toNat-48));have h2:vQ (c::D') 0=vQ D' (0*10+(c.toNat-48)):=rfl;simp only[a1Q,a0N]at fJ;have h3:=Xx fJ.1;have h4:c.toNat≠48:=λe=>amX (a1w.1 (by simpa using e))
   have h5:1<=0*10+(c.toNat-48):=by omega
   have h6:1*10 ^ D'.length<=(0*10+(c.toNat-48))*10 ^ D'.length:=a0w _ h5;omega
  have apJ:∀z,fZ ((c::D')++z)=if z=[] then (if (c::D').length<=5 then (vQ (c::D') 0:Int) else -1) else fZ ((c::D')++z):=by
   intro z
   by_cases hz:z=[]
   ·subst hz
    rw[a0j rfl,a0Q];unfold fZ;have e1:(hd (c::D')==48)=false:=by
     rw[a0k];intro e;apply amX;apply a1w.1;have:(c.toNat:Int)=48:=e;show c.toNat=48;omega
    rw[e1,fJ]
    by_cases h5:(c::D').length<=5
    ·rw[a0j h5,a0f (by omega)]
     have:=Xz (c::D') 0 fJ;simpa using this
    rw[a0g h5,a0h (by omega)];simp
   rw[a0g hz]
  have h5:(c::D').length<=5↔vQ (c::D') 0<=99999:=by
   constructor
   ·intro h5
    have:(0+1)*10 ^ (c::D').length<=(0+1)*10 ^ 5:=a0m _ (a1r (by omega) h5);omega
   intro h5;apply Classical.byContradiction;intro h6;have:10 ^ 5<=10 ^ D'.length:=a1r (by omega) (by simp at h6;omega);omega
  cases hb:bd s
  ·obtain⟨x,s',rfl,hx⟩:=zQ hb
   obtain⟨h',e'⟩:=GU x s' hb;have:fZ (fw r)=-1:=by
    rw[h.1,e'];unfold fZ;have e1:((c::D')++x::h').all lI=false:=by simp[a1L,nA x s' rfl]
    rw[e1];simp
   rw[this]
   by_cases hf:vQ (c::D') 0<=99999
   ·rw[a0j hf]at hv;rw[hv];simp[hb]
   rw[a0g hf]at hv;rw[hv];simp
  have FU:=um s hb;rw[h.1,h.2,FU.1,FU.2,apJ [],a0j rfl]
  by_cases hf:vQ (c::D') 0<=99999
  ·rw[a0j hf]at hv;rw[hv,a0j (h5.2 hf)];simp[hb]
  rw[a0g hf]at hv;rw[hv,a0g (λh=>hf (h5.1 h))];simp
 rw[a0j (by simp[hg])];refine⟨?_,by simp⟩;have:fZ (fw r)=-1:=by
  cases r with
  | nil=>rfl
  | cons x r' =>
    have hx:lI x=false:=by
     have:kr (hd (x::r'))=false:=by simpa using hg
     exact this
    cases hb:bd (x::r')
    ·obtain⟨h',e'⟩:=GU x r' hb
     rw[e'];unfold fZ;simp[hx]
    rw[(um _ hb).1];rfl
 rw[this];simp
theorem aaa:∀(L acc:List LB),Asc acc->L.foldl l9 acc=L.foldl jY acc
 | [],acc,_=>rfl
 | n::L,acc,h=>by
   simp only[a1M];have e:l9 acc n=jY acc n/\Asc (l9 acc n):=by
    unfold l9 jY
    by_cases hc:acc.contains n=true
    ·rw[a0j hc,a0j hc];exact⟨rfl,h⟩
    rw[a0g hc,a0g hc,afe];have hn:n∉acc:=λhm=>hc (by simpa using hm)
    refine⟨?_,ads n acc h hn⟩;rw[Z0 n acc.length acc [] rfl h hn];simp
   rw[<-e.1];exact aaa L _ e.2
theorem akn(L:List LB):Ap L=AL L:=aaa L [] (by simp[Asc])
/-! ap4. -/
def C0(l:LB):List LB:=l6 false 44 l false false
theorem agq:C0 []=[[]]:=rfl
theorem aab(r:LB):C0 (44::r)=[]::C0 r:=by
 unfold C0;conv=>lhs;unfold l6
 rfl
theorem adz(x:UInt8)(r:LB)(h:x≠44):C0 (x::r)=glue [x] (C0 r):=by
 unfold C0;conv=>lhs;unfold l6
 simp[h]
theorem abu:∀(p s:LB),(∀x∈p,x≠44)->C0 (p++s)=glue p (C0 s)
 | [],s,_=>by
   cases h:C0 s with
   | nil=>exact(zP _ _ _ _ _ h).elim
   | cons=>simp[h,glue]
 | x::p,s,h=>by
   rw[a0J,adz x _ (h x (by simp)),abu p s (λy hy=>h y (by simp[hy])),xc];rfl
theorem alX(l:LB):1<=(C0 l).length:=by
 cases h:C0 l with
 | nil=>exact(zP _ _ _ _ _ h).elim
 | cons=>simp
theorem PY(r:LB):fw (44::r)=44::fw r/\uk (44::r)=uk r:=by
 have:=kF [44] r (by decide);simpa using this
theorem agr(s:LB)(h:aL [44] s=false)(hb:bd s=false):∃x s',s=x::s'/\x≠32/\x≠44:=by
 obtain⟨x,s',rfl,hx⟩:=zQ hb;refine⟨x,s',rfl,hx,λe=>?_⟩;subst e;have:=(nZ [44] s').1;simp at this;rw[this]at h;cases h
def Ru(k:Nat)(acc:List LB)(l1:LB):List LB × Bool × LB :=
 if !(aI (l1.takeWhile bA))||decide (4<=acc.length) then ([],false,l1.dropWhile bA) else rP k (acc++[l1.takeWhile bA]) (l1.dropWhile bA)
theorem ako:∀(k:Nat) (acc:List LB) (l:LB),5<=k+acc.length->acc.length<=4 ->
 (if (C0 (fw l)).all aI&&decide (acc.length+(C0 (fw l)).length<=4) then Ru k acc l=(acc++C0 (fw l),true,uk l) else ((Ru k acc l).2.1&&bd (Ru k acc l).2.2)=false):=by
 intro k
 induction k with
 | zero=>intro acc l h1 h2;omega
 | succ k ih =>
 intro acc l h1 h2;have hc:clean (l.takeWhile bA)=true:=I4 (p:=bA) (λc h=>⟨(GR h).1,(GR h).2.1⟩) _ (j5 _ _);have Jm:∀x∈l.takeWhile bA,x≠44:=λx hx=>(GR (a1e.1 (j5 bA l) x hx)).2.2.1
 have e:l.takeWhile bA++l.dropWhile bA=l:=a1K;have h:=kF (l.takeWhile bA) (l.dropWhile bA) hc;rw[e]at h;have nA:=sV bA l;unfold Ru;generalize l.takeWhile bA=n at *;generalize l.dropWhile bA=s at *;rw[h.1,h.2,abu n _ Jm];have ags:∀x s',s=x::s'->x≠44->x≠32->(glue n (C0 (fw s))).all aI=false:=by
  intro x s' es adA hx32;subst es;obtain⟨h',e'⟩:=GU x s' (by simpa[bd] using hx32);rw[e',adz x _ adA,xc];cases hz:C0 h' with
  | nil=>exact(zP _ _ _ _ _ hz).elim
  | cons y Y =>
    simp only[glue,a1Q];rw[a0K,a1j,CZ n x y (nA x s' rfl)];rfl
 by_cases Ba:(!(aI n)||decide (4<=acc.length))=true
 ·rw[a0j Ba,a0g]
  ·simp
  rw[a0Y]at Ba;intro hh;rw[a0N]at hh;rcases Ba with hn|h4
  ·
   have hn':aI n=false:=by simpa using hn
   cases hb:bd s
   ·by_cases ht:aL [44] s=true
    ·have es:=dV _ _ ht
     rw[a1j]at es;rw[es,(PY _).1,aab]at hh;simp[glue,hn']at hh
    obtain⟨x,s',es,hx32,adA⟩:=agr s (by simpa using ht) hb;rw[ags x s' es adA hx32]at hh;simp at hh
   rw[(um s hb).1,agq]at hh;simp[glue,hn']at hh
  have:4<=acc.length:=by simpa using h4
  have hp:=alX (fw s);have hl:(glue n (C0 (fw s))).length=(C0 (fw s)).length:=by
   cases hz:C0 (fw s) with
   | nil=>rw[hz]at hp;simp at hp
   | cons=>rfl
  have:=hh.2;rw[hl]at this;simp at this;omega
 rw[a0g Ba];simp only[a0Y,not_or,a1m,a0S]at Ba;have hn:aI n=true:=by simpa using Ba.1
 have Ze:acc.length<4:=by omega
 have bL:(acc++[n]).isEmpty=false:=by cases acc<;>rfl
 by_cases ht:aL [44] s=true
 ·
  have es:=dV _ _ ht;rw[a1j]at es;have akp:rP (k+1) (acc++[n]) s=Ru k (acc++[n]) (aJ [44] s):=by
   conv=>lhs;unfold rP
   unfold Ru;rw[bL,ht]
   rfl
  rw[akp];generalize aJ [44] s=s' at *;have:=ih (acc++[n]) s' (by simp;omega) (by simp;omega);rw[es,(PY s').1,(PY s').2,aab];have e5:acc.length+(C0 (fw s')).length+1=(acc++[n]).length+(C0 (fw s')).length:=by simp;omega
  have e6:glue n ([]::C0 (fw s'))=n::C0 (fw s'):=by simp[glue]
  have e7:acc++n::C0 (fw s')=(acc++[n])++C0 (fw s'):=by simp
  rw[e6,a1Q,hn,a2s,a0o,<-Nat.add_assoc,e5,e7];exact this
 have LW:aL [44] s=false:=by simpa using ht
 have akp:rP (k+1) (acc++[n]) s=(acc++[n],true,s):=by
  conv=>lhs;unfold rP
  rw[bL,LW]
  rfl
 rw[akp];cases hb:bd s
 ·obtain⟨x,s',es,hx32,adA⟩:=agr s LW hb
  rw[ags x s' es adA hx32];simp
 rw[(um s hb).1,(um s hb).2,agq];have:glue n [[]]=[n]:=by simp[glue]
 rw[this,a0j (by simp[hn];omega)]
theorem akq(r:LB):((C0 (fw r)).all aI&&decide ((C0 (fw r)).length<=4))=((fG r).2.1&&bd (fG r).2.2)/\((fG r).2.1=true->bd (fG r).2.2=true->C0 (fw r)=(fG r).1/\uk r=(fG r).2.2):=by
 have h:=ako 5 [] r (by simp) (by simp);have e:fG r=Ru 5 [] r:=by
  unfold fG rP Ru;simp
 rw[e];simp only[a1f,a1v,a1a]at h
 by_cases hc:((C0 (fw r)).all aI&&decide ((C0 (fw r)).length<=4))=true
 ·rw[a0j hc]at h
  rw[hc,h];exact⟨by simp[abt],λ_ _=>⟨rfl,rfl⟩⟩
 rw[a0g hc]at h;rw[h];refine⟨by simpa using hc,λh1 h2=>?_⟩;rw[h1,h2]at h;simp at h
end Go.Proofs.YtgbdcmpmmkfbhaaGreat
