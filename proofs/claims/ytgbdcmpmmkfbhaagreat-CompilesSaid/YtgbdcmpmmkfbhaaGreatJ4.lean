import Derived.Test.YtgbdcmpmmkfbhaaGreatJ3
import Derived.Test.YtgbdcmpmmkfbhaaGreatJ1
set_option linter.unusedVariables false
set_option linter.unusedSimpArgs false
set_option linter.unnecessarySimpa false
set_option maxRecDepth 100000
set_option maxHeartbeats 8000000
namespace Go.Proofs.YtgbdcmpmmkfbhaaGreat
variable {b k p s:Nat} {w w':World} {r t:LB}
open Go.RowKit
def uC(L:List Bool)(lo:Nat):Nat->List Bool
 | 0=>L
 | j+1=>(uC L lo j).set (lo+j) true
theorem UG(s lo:Nat):∀j,lo+j<=256->uC (bl s) lo j=bl (sG s lo j)
 | 0,_=>rfl
 | j+1,h=>by
   rw[uC,UG s lo j (by omega),afH _ _ (by omega)];rfl
def Kr(L:List Bool)(j:Nat):List Bool:=(L.take j).map (!·)++L.drop j
theorem Iy(L:List Bool):Kr L 0=L:=by simp[Kr]
theorem ab8(L:List Bool)(j:Nat)(x:Bool)(h:L[j]?=some x):(Kr L j)[j]?=some x:=by
 have hl:=(a0i.1 h).1;unfold Kr;rw[a0R (by simp;omega),a0B,a1q,a2S (by omega),a2H,List.getElem?_drop,a1G,h]
theorem ab9(L:List Bool)(j:Nat)(x:Bool)(h:L[j]?=some x):(Kr L j).set j (!x)=Kr L (j+1):=by
 have hl:=(a0i.1 h).1;have he:=(a0i.1 h).2;unfold Kr;rw[a1t _ _ (by simp;omega),a0B,a1q,a2S (by omega),a2H,a0q hl,List.set_cons_zero,a0I hl,a0T,a0K,he]
 rfl
theorem afI(s:Nat):Kr (bl s) 256=bl (s ^^^ eT):=by
 unfold Kr;rw[a0D (by rw[Iv];exact a0a _),a0p (by rw[Iv];exact a0a _),a0Q];unfold bl;rw[a2C];apply a2d;intro i hi;have Si:=a1Z.1 hi;simp only[Function.comp,a2p,eT,a3d,Si,decide_true];cases s.testBit i<;>rfl
def CQ(b p:Nat)(t:LB)(w:World)(e:Ending)(w':World):Prop :=
 ∃(r:LB) (ok:Bool) (L:List Bool),e=.returned (.tuple #[])/\QP w' b r ok/\RK w' p 1 L (.pointer none) (.pointer none) 0 0/\aA [b,p] w w'/\((ok=true/\∃s,L=bl s/\lV t=some (s,r))\/(ok=false/\lV t=none))
theorem fE(c:UInt8)(h0:c≠0)(t:LB):bf c t=(hb t==c):=by
 cases t with
 | nil=>simp[bf,hb];exact λe=>h0 e.symm
 | cons x r=>rfl
theorem aes(t:LB):lV t=match ed (t.length+1) 0 (if bf 94 t then t.tail else t) with | none=>none|some (s,r)=>some (if bf 94 t then s ^^^ eT else s,r):=by
 unfold lV;cases bf 94 t
 ·simp only[a0n,a0G]
  cases ed (t.length+1) 0 t with
  | none=>rfl
  | some x=>rfl
 rfl
theorem Mt(k s:Nat)(t:LB):ed (k+1) s t=match qJ t with | none=>none|some ((a,b),r)=>if bf 93 r then some (addRange s a b,r.tail) else ed k (addRange s a b) r:=rfl
theorem aA.in1(h:aA [b] w w'):aA [b,p] w w':=h.mono (λk _ hk=>by simp at hk |-;exact .inl hk)
theorem UH {R0:Option (Nat × LB)}{r3:LB} {n m:UInt8}(h:ed (k+1) s r=R0)(hi:qJ r=some ((n,m),r3)) :
 n.toNat<=m.toNat->uC (bl s) n.toNat (m.toNat+1-n.toNat)=bl (addRange s n m)/\R0=if bf 93 r3 then some (addRange s n m,r3.tail) else ed k (addRange s n m) r3:=by
 intro hle;have hm:=m.toNat_lt;refine⟨UG s _ _ (by omega),?_⟩;rw[<-h,Mt,hi]
theorem DI {R0:Option (Nat × LB)}(h:ed (k+1) s r=R0)(hi:qJ r=none):R0=none:=by
 rw[<-h,Mt,hi]
theorem aaI(w0:World)(b p:Nat)(t:LB)(w:World)(h:QP w b t true)(hk:RK w p 1 nF (.pointer none) (.pointer none) 0 0)(bL:b≠p)(hF:aA [b,p] w0 w) :
 Calls Tryz.prog 87 #[.pointer (some ⟨b,0,none⟩),.pointer (some ⟨p,0,none⟩)] w (CQ b p t w0):=by
 have H:=aj h;have K:=aj hk;have F:=aj hF;clear h hk hF;have Hc:=aj (aes t);have H94:=fE 94 (by decide) t;have e94:=yn (hb t) 94 (by decide);have Fz:p ∉ [b]:=by simp;exact λe=>bL e.symm
 have hbp:b ∉ [p]:=by simp;exact bL
 go_enter Tryz.func87,Tryz.ntmps87
 go_wp2_with fail
 refine(tV b t true w H).mono ?_;rintro e w1 ⟨rfl,rfl⟩;rw[rV];have hb8:=(hb t).toNat_lt;have f94:(((hb t).toNat:Int)==94)=bf 94 t:=e94.trans H94.symm;clear e94 H94;obtain⟨R0,Ch⟩:∃R0,ed (t.length+1) 0 (if bf 94 t then t.tail else t)=R0:=⟨_,rfl⟩;rw[Ch]at Hc;cases Yd:bf 94 t
 case' true =>
  rw[Yd]at f94;have ry:t.isEmpty=false:=by
   cases t with
   | nil=>simp[bf]at Yd
   | cons x r=>rfl
  go_wp2_with fail
  refine(jk b t true w H).mono ?_;rintro e w ⟨rfl,iw,aZ⟩;rw[ry]at iw;have K:=aj (K.o.aB aZ Fz);have F:=aj (F.o.trans aZ.in1);have H:=aj iw;clear iw aZ ry
 case' false =>
  rw[Yd]at f94
 all_goals
  rw[Yd]at Ch;simp only[a1y,a2s,a0n,a0G,a0C]at H Ch
 case' true=>have sH:t.tail.length<=t.length:=by simp
 case' false=>have sH:t.length<=t.length:=a0a _
 case' true=>generalize t.tail=t1 at sH Ch H
 case' false=>obtain⟨t1,gM⟩:∃t1,t1=t:=⟨_,rfl⟩
 case' false=>have H:Z_ (QP w b t1 true):=by rw[gM];exact H
 case' false=>have Ch:ed (t.length+1) 0 t1=R0:=by rw[gM];exact Ch
 case' false=>have sH:t1.length<=t.length:=by rw[gM];exact a0a _
 all_goals
  go_wp2_with fail
  go_loopg [4] (t.length+2) (λk v4 wr=>∃(r:LB) (ok:Bool) (L:List Bool) (c4:UInt8),v4=.int .u8 c4.toNat/\QP wr b r ok/\RK wr p 1 L (.pointer none) (.pointer none) 0 0/\aA [b,p] w0 wr/\((ok=true/\∃s kk,L=bl s/\k=kk+1/\r.length+1<=kk/\ed kk s r=R0)\/(ok=false/\R0=none)))
  case atStart =>
   exact⟨t1,true,nF,hb t,rfl,H,K,F,.inl ⟨rfl,0,t.length+1,Mr.symm,rfl,by omega,Ch⟩⟩
  case round =>
   clear H K F;obtain⟨r,ok,L,c4,rfl,hp,hk,hf,hd⟩:=hrel;have P:=aj hp;have K2:=aj hk;have F2:=aj hf;have c1:=hp.c1;have hc4:=c4.toNat_lt;have Hl:=aj hk.2;clear hp hk hf;cases ok
   case false =>
    obtain⟨Sj,QH⟩:∃o,o=false:=⟨_,rfl⟩;obtain⟨r6,Ye⟩:∃o,o=r:=⟨_,rfl⟩;obtain⟨L6,UI⟩:∃o,o=L:=⟨_,rfl⟩;have D6:Z_ ((Sj=true/\∃s,L6=bl s/\R0=some (s,r6))\/(Sj=false/\R0=none)):=by
     rcases hd with⟨h,_⟩|⟨_,h⟩
     ·cases h
     exact .inr ⟨QH,h⟩
    have P6:Z_ (QP wr b r6 Sj):=by rw[QH,Ye];exact P
    have K6:Z_ (RK wr p 1 L6 (.pointer none) (.pointer none) 0 0):=by rw[UI];exact K2
    have F6:=F2;clear P K2 F2 hd QH Ye UI;go_wp2_with fail
    go_loopg [10] 256 (λk vi wr=>∃(j:Nat),j+k=256/\vi=.int .i64 j/\QP wr b r6 Sj/\RK wr p 1 (Kr L6 j) (.pointer none) (.pointer none) 0 0/\aA [b,p] w0 wr/\(bf 94 t=false->j=0))
    case atStart=>exact⟨0,rfl,rfl,P6,by rw[Iy];exact K6,F6,λ_=>rfl⟩
    case round =>
     clear P6 K6 F6;obtain⟨j,sI,rfl,OT,hk7,xV,si⟩:=hrel;have P7:=aj OT;have K7:=aj hk7;have F7:=aj xV;have Jj:=hk7.fz;have Hl:=aj hk7.2;clear OT hk7 xV
     by_cases hj6:j<256
     ·first
      | (have aiv:bf 94 t=false:=by rw[Yd]
         have aiw:=si aiv;subst aiw;go_wp2;go_end0
         refine⟨r6,Sj,L6,rfl,P7,by have:=K7.o;rw[Iy]at this;exact this,F7,?_⟩;rw[Hc.o,Yd];rcases D6.o with⟨h1,s,h2,h3⟩|⟨h1,h2⟩
         ·exact .inl ⟨h1,s,h2,by rw[h3];rfl⟩
         exact .inr ⟨h1,by rw[h2]⟩)
      | (have UI:L6.length=256:=by
          have:=Hl.o;unfold Kr at this;simp at this;omega
         obtain⟨x,hx⟩:∃x,L6[j]?=some x:=⟨L6[j]'(by omega),a0c (by omega)⟩;have hc7:=K7.o.cin j x (ab8 L6 j x hx);have hz8:=Jj (1+j);have K8:=aj (K7.o.sin j (!x) hj6);have Hfs:=aj (ab9 L6 j x hx);have hpn:p ∉ [b]:=Fz;go_wp2_with fail
         go_region
         go_wp2;go_roundg (gk-1)
         case measure=>omega
         case rel =>
          refine⟨j+1,by omega,by go_num,?_,?_,(F7.o.setCell (.inl (by simp)) _).drew,λe=>by rw[Yd]at e;simp at e⟩
          ·exact P7.o.aB (S:=[p]) (aA.drew ((aA.refl [p] _).setCell (p:=⟨p,1+j,none⟩) (.inl (by simp)) _)) hbp
          rw[<-Hfs.o];exact K8)
     have hj7:j=256:=by omega
     subst hj7;have Mv:bf 94 t=true:=by
      cases hh:bf 94 t
      ·have:=si hh;omega
      rfl
     go_wp2;go_end0
     refine⟨r6,Sj,Kr L6 256,rfl,P7,K7,F7,?_⟩;rw[Hc.o,Mv];rcases D6.o with⟨h1,s,h2,h3⟩|⟨h1,h2⟩
     ·exact .inl ⟨h1,s ^^^ eT,by rw[h2,afI],by rw[<-Mv,h3,Mv];rfl⟩
     exact .inr ⟨h1,by rw[<-Mv,h2]⟩
   case true =>
    have iH:∃s kk,L=bl s/\gk=kk+1/\r.length+1<=kk/\ed kk s r=R0:=by
     rcases hd with⟨_,h⟩|⟨h,_⟩
     ·exact h
     cases h
    obtain⟨s,kk,hLs,Mw,hrk,Sk⟩:=iH;obtain⟨k2,rfl⟩:∃k2,kk=k2+1:=⟨kk-1,by omega⟩;clear hd;go_wp2_with fail
    refine(Ms b r wr P).mono ?_;rintro e w2 ⟨n,r1,ok1,rfl,bR,aS,kY⟩;have P2:=aj bR;have K3:=aj (K2.o.aB aS Fz);have F3:=aj (F2.o.trans aS.in1);have D2:=aj kY;have n8:=n.toNat_lt;have c2:=bR.c1;clear bR aS kY P K2 F2 c1;go_wp2_with fail
    refine(tV b r1 ok1 w2 P2).mono ?_;rintro e w3 ⟨rfl,rfl⟩;rw[rV];have h18:=(hb r1).toNat_lt;have e45:=yn (hb r1) 45 (by decide);have h45:=fE 45 (by decide) r1;cases k45:(hb r1==45)
    case' true=>cases ok1
    case' true.true =>
     have f45:(((hb r1).toNat:Int)==45)=true:=e45.trans k45;have afJ:bf 45 r1=true:=h45.trans k45;have aol:r1.isEmpty=false:=by
      cases r1 with
      | nil=>simp[bf]at afJ
      | cons x q=>rfl
     have aom:jN r=some (n,r1):=by
      rcases D2.o with⟨_,h⟩|⟨h,_⟩
      ·exact h
      cases h
     clear e45 h45;go_wp2_with fail
     refine(jk b r1 true w2 P2).mono ?_;rintro e w3 ⟨rfl,mR,bZ⟩;rw[aol]at mR;have P3:=aj mR;have K4:=aj (K3.o.aB bZ Fz);have F4:=aj (F3.o.trans bZ.in1);clear mR bZ P2 K3 F3;go_wp2_with fail
     refine(Ms b r1.tail w3 P3).mono ?_;rintro e w2 ⟨m,r3,Yf,rfl,bR,aS,kY⟩;have m8:=m.toNat_lt;have c3:=bR.c1;have z3:=bR.fz 1;have P4:=aj bR;have K4:=aj (K4.o.aB aS Fz);have F4:=aj (F4.o.trans aS.in1);have vW:qJ r=match jN r1.tail with | none=>none|some (b,r2)=>if n<=b then some ((n,b),r2) else none:=by
      unfold qJ;rw[aom];simp only[afJ,a0C];rfl
     clear bR aS P3
     by_cases aO:m.toNat<n.toNat
    case' pos =>
     have HR:R0=none:=by
      refine DI Sk ?_;rw[vW];rcases kY with⟨_,h⟩|⟨_,h⟩
      ·rw[h];exact a0g (λhh=>by have:=a1o.1 hh;omega)
      rw[h]
     have P4:=aj P4.o.off;have K4:=aj (K4.o.aB ((aA.refl [b] _).setCell (p:=⟨b,1,none⟩) (.inl (by simp)) (.bool false)) Fz);have F4:=aj (F4.o.setCell (p:=⟨b,1,none⟩) (.inl (by simp)) (.bool false));clear vW kY D2;obtain⟨lo,l7⟩:∃lo,lo=n.toNat:=⟨_,rfl⟩;obtain⟨hi,zV⟩:∃hi,hi=m.toNat:=⟨_,rfl⟩;go_wp2_with fail
     rw[<-l7,<-zV];have aix:lo<256:=by omega
     have aiy:hi<256:=by omega
     clear l7 zV;generalize w2.setCell ⟨b,1,none⟩ (.bool false)=w5 at P4 K4 F4 |-;obtain⟨Jk,UJ⟩:∃o,o=false:=⟨_,rfl⟩;have D5:Z_ ((Jk=true/\∃s',uC L lo (hi+1-lo)=bl s'/\r3.length+1<=k2/\R0=if bf 93 r3 then some (s',r3.tail) else ed k2 s' r3)\/(Jk=false/\R0=none)):=.inr ⟨UJ,HR⟩;have P4:Z_ (QP w5 b r3 Jk):=by rw[UJ];exact P4
     clear UJ
    case' neg =>
     have D5:Z_ ((Yf=true/\∃s',uC L n.toNat (m.toNat+1-n.toNat)=bl s'/\r3.length+1<=k2/\R0=if bf 93 r3 then some (s',r3.tail) else ed k2 s' r3)\/(Yf=false/\R0=none)):=by
      rcases kY with⟨h1,h⟩|⟨h1,h⟩
      ·have hit:qJ r=some ((n,m),r3):=by
        rw[vW,h];exact a0j (a1o.2 (by omega))
       have:=UH Sk hit (by omega);rw[hLs];exact .inl ⟨h1,_,this.1,by have:=zg hit;omega,this.2⟩
      exact .inr ⟨h1,DI Sk (by rw[vW,h])⟩
     clear vW kY D2;obtain⟨lo,l7⟩:∃lo,lo=n.toNat:=⟨_,rfl⟩;obtain⟨hi,zV⟩:∃hi,hi=m.toNat:=⟨_,rfl⟩;rw[<-l7,<-zV]at D5;go_wp2_with fail
     rw[<-l7,<-zV];have aix:lo<256:=by omega
     have aiy:hi<256:=by omega
     clear l7 zV;obtain⟨w5,rfl⟩:∃w5,w5=w2:=⟨_,rfl⟩;obtain⟨Jk,rfl⟩:∃o,o=Yf:=⟨_,rfl⟩
    case' true.false =>
     have f45:(((hb r1).toNat:Int)==45)=true:=e45.trans k45;have HR:R0=none:=by
      refine DI Sk ?_;rcases D2.o with⟨h,_⟩|⟨_,h⟩
      ·cases h
      unfold qJ;rw[h]
     clear e45 h45 D2;obtain⟨lo,l7⟩:∃lo,lo=n.toNat:=⟨_,rfl⟩;obtain⟨hi,zV⟩:∃hi,hi=lo:=⟨_,rfl⟩;go_wp2_with fail
     rw[<-l7];have aix:lo<256:=by omega
     have aiy:hi<256:=by omega
     clear l7;obtain⟨w5,rfl⟩:∃w5,w5=w2:=⟨_,rfl⟩;obtain⟨Jk,UJ⟩:∃o,o=false:=⟨_,rfl⟩;obtain⟨r3,rfl⟩:∃o,o=r1:=⟨_,rfl⟩;have D5:Z_ ((Jk=true/\∃s',uC L lo (hi+1-lo)=bl s'/\r3.length+1<=k2/\R0=if bf 93 r3 then some (s',r3.tail) else ed k2 s' r3)\/(Jk=false/\R0=none)):=.inr ⟨UJ,HR⟩;have P4:Z_ (QP w5 b r3 Jk):=by rw[UJ];exact P2
     have K4:=K3;have F4:=F3;clear UJ
    case' false =>
     have f45:(((hb r1).toNat:Int)==45)=false:=e45.trans k45;have afJ:bf 45 r1=false:=h45.trans k45;have D5:Z_ ((ok1=true/\∃s',uC L n.toNat (n.toNat+1-n.toNat)=bl s'/\r1.length+1<=k2/\R0=if bf 93 r1 then some (s',r1.tail) else ed k2 s' r1)\/(ok1=false/\R0=none)):=by
      rcases D2.o with⟨h1,h⟩|⟨h1,h⟩
      ·have hit:qJ r=some ((n,n),r1):=by
        unfold qJ;rw[h];simp only[afJ,a0n,a0G]
       have:=UH Sk hit (a0a _);rw[hLs];exact .inl ⟨h1,_,this.1,by have:=zg hit;omega,this.2⟩
      exact .inr ⟨h1,DI Sk (by unfold qJ;rw[h])⟩
     clear e45 h45 D2;obtain⟨lo,l7⟩:∃lo,lo=n.toNat:=⟨_,rfl⟩;obtain⟨hi,zV⟩:∃hi,hi=lo:=⟨_,rfl⟩;rw[<-l7]at D5;go_wp2_with fail
     rw[<-l7];have aix:lo<256:=by omega
     have aiy:hi<256:=by omega
     clear l7;obtain⟨w5,rfl⟩:∃w5,w5=w2:=⟨_,rfl⟩;obtain⟨Jk,rfl⟩:∃o,o=ok1:=⟨_,rfl⟩;obtain⟨r3,rfl⟩:∃o,o=r1:=⟨_,rfl⟩;have D5:Z_ ((Jk=true/\∃s',uC L lo (hi+1-lo)=bl s'/\r3.length+1<=k2/\R0=if bf 93 r3 then some (s',r3.tail) else ed k2 s' r3)\/(Jk=false/\R0=none)):=by rw[zV];exact D5
     have P4:=P2;have K4:=K3;have F4:=F3
    all_goals
     obtain⟨go,gP⟩:∃go,go=gk:=⟨_,rfl⟩;rw[<-gP]at Mw;go_loopg [9] (hi+1-lo) (λk v9 wr=>∃(j c:Nat),j+k=hi+1-lo/\c=lo+j/\v9=.int .i64 c/\QP wr b r3 Jk/\RK wr p 1 (uC L lo j) (.pointer none) (.pointer none) 0 0/\aA [b,p] w0 wr)
     case atStart=>exact⟨0,lo,by omega,rfl,rfl,P4,K4,F4⟩
     case round =>
      clear P4 K4 F4;obtain⟨j,c,sI,Bh,rfl,UK,hk6,Bi⟩:=hrel;have P5:=aj UK;have K5:=aj hk6;have F5:=aj Bi;have yA:=hk6.fz;clear UK hk6 Bi
      by_cases hj6:j<hi+1-lo
      ·have Yc:c<256:=by omega
       have yx:c<=hi:=by omega
       have Jl:=yA (1+c);obtain⟨x,hx⟩:∃x,(uC L lo j)[c]?=some x:=⟨_,a0c (by have:=K5.o.2;omega)⟩;have hcx:=K5.o.cin c x hx;clear hx;have K6:=aj (K5.o.sin c true Yc);have bN:Z_ (uC L lo (j+1)=(uC L lo j).set c true):=by rw[Bh];rfl
       have Hcc:=aj Bh;clear Bh;go_wp2;go_roundg (gk-1)
       case measure=>omega
       case rel =>
        refine⟨j+1,c+1,by omega,by have:=Hcc.o;omega,by go_num,?_,?_,F5.o.setCell (p:=⟨p,1+c,none⟩) (.inl (by simp)) _⟩
        ·exact P5.o.aB (S:=[p]) ((aA.refl [p] _).setCell (p:=⟨p,1+c,none⟩) (.inl (by simp)) _) hbp
        rw[bN.o];exact K6
      have hj7:j=hi+1-lo:=by omega
      subst hj7;have yx:¬ (c<=hi):=by omega
      clear Bh;go_wp2_with fail
      refine(tV b r3 Jk _ P5).mono ?_;rintro e w6 ⟨rfl,rfl⟩;rw[rV];have h38:=(hb r3).toNat_lt;have Ci:=yn (hb r3) 93 (by decide);have h93:=fE 93 (by decide) r3;cases k93:(hb r3==93)
      case true =>
       have f93:(((hb r3).toNat:Int)==93)=true:=Ci.trans k93;have afK:bf 93 r3=true:=h93.trans k93;have aon:r3.isEmpty=false:=by
        cases r3 with
        | nil=>simp[bf]at afK
        | cons x q=>rfl
       clear Ci h93;go_wp2_with fail
       refine(jk b r3 Jk _ P5).mono ?_;rintro e w7 ⟨rfl,OT,xV⟩;rw[aon]at OT;simp only[a1y,a2r]at OT;have K6:=aj (K5.o.aB xV Fz);have F6:=aj (F5.o.trans xV.in1);have P6:=aj OT;clear OT xV K5 F5 P5;obtain⟨r6,Ye⟩:∃o,o=r3.tail:=⟨_,rfl⟩;obtain⟨Sj,QH⟩:∃o,o=Jk:=⟨_,rfl⟩;obtain⟨L6,UI⟩:∃o,o=uC L lo (hi+1-lo):=⟨_,rfl⟩;have D6:Z_ ((Sj=true/\∃s,L6=bl s/\R0=some (s,r6))\/(Sj=false/\R0=none)):=by
        rcases D5.o with⟨h1,s',h2,_,h3⟩|⟨h1,h2⟩
        ·refine .inl ⟨by rw[QH,h1],s',by rw[UI,h2],?_⟩
         rw[h3,a0j afK,Ye]
        exact .inr ⟨by rw[QH,h1],h2⟩
       rw[<-Ye,<-QH]at P6;rw[<-UI]at K6;clear D5 Ye QH UI;go_wp2_with fail
       go_loopg [10] 256 (λk vi wr=>∃(j:Nat),j+k=256/\vi=.int .i64 j/\QP wr b r6 Sj/\RK wr p 1 (Kr L6 j) (.pointer none) (.pointer none) 0 0/\aA [b,p] w0 wr/\(bf 94 t=false->j=0))
       case atStart=>exact⟨0,rfl,rfl,P6,by rw[Iy];exact K6,F6,λ_=>rfl⟩
       case round =>
        clear P6 K6 F6;obtain⟨j,sI,rfl,OT,hk7,xV,si⟩:=hrel;have P7:=aj OT;have K7:=aj hk7;have F7:=aj xV;have Jj:=hk7.fz;have Hl:=aj hk7.2;clear OT hk7 xV
        by_cases hj6:j<256
        ·first
         | (have aiv:bf 94 t=false:=by rw[Yd]
            have aiw:=si aiv;subst aiw;go_wp2;go_end0
            refine⟨r6,Sj,L6,rfl,P7,by have:=K7.o;rw[Iy]at this;exact this,F7,?_⟩;rw[Hc.o,Yd];rcases D6.o with⟨h1,s,h2,h3⟩|⟨h1,h2⟩
            ·exact .inl ⟨h1,s,h2,by rw[h3];rfl⟩
            exact .inr ⟨h1,by rw[h2]⟩)
         | (have UI:L6.length=256:=by
             have:=Hl.o;unfold Kr at this;simp at this;omega
            obtain⟨x,hx⟩:∃x,L6[j]?=some x:=⟨L6[j]'(by omega),a0c (by omega)⟩;have hc7:=K7.o.cin j x (ab8 L6 j x hx);have hz8:=Jj (1+j);have K8:=aj (K7.o.sin j (!x) hj6);have Hfs:=aj (ab9 L6 j x hx);have hpn:p ∉ [b]:=Fz;go_wp2_with fail
            go_region
            go_wp2;go_roundg (gk-1)
            case measure=>omega
            case rel =>
             refine⟨j+1,by omega,by go_num,?_,?_,(F7.o.setCell (.inl (by simp)) _).drew,λe=>by rw[Yd]at e;simp at e⟩
             ·exact P7.o.aB (S:=[p]) (aA.drew ((aA.refl [p] _).setCell (p:=⟨p,1+j,none⟩) (.inl (by simp)) _)) hbp
             rw[<-Hfs.o];exact K8)
        have hj7:j=256:=by omega
        subst hj7;have Mv:bf 94 t=true:=by
         cases hh:bf 94 t
         ·have:=si hh;omega
         rfl
        go_wp2;go_end0
        refine⟨r6,Sj,Kr L6 256,rfl,P7,K7,F7,?_⟩;rw[Hc.o,Mv];rcases D6.o with⟨h1,s,h2,h3⟩|⟨h1,h2⟩
        ·exact .inl ⟨h1,s ^^^ eT,by rw[h2,afI],by rw[<-Mv,h3,Mv];rfl⟩
        exact .inr ⟨h1,by rw[<-Mv,h2]⟩
      case false =>
       have f93:(((hb r3).toNat:Int)==93)=false:=Ci.trans k93;have afK:bf 93 r3=false:=h93.trans k93;clear Ci h93;go_wp2;go_roundg (go-1)
       case measure=>omega
       case rel =>
        refine⟨r3,Jk,_,hb r3,rfl,P5,K5,F5,?_⟩;rcases D5.o with⟨h1,s',h2,h4,h3⟩|⟨h1,h2⟩
        ·refine .inl ⟨h1,s',k2,h2,by omega,h4,?_⟩
         rw[h3,afK];rfl
        exact .inr ⟨h1,h2⟩
theorem aca(b p:Nat)(t:LB)(w:World)(h:QP w b t true)(hk:RK w p 1 nF (.pointer none) (.pointer none) 0 0)(bL:b≠p) :
 Calls Tryz.prog 87 #[.pointer (some ⟨b,0,none⟩),.pointer (some ⟨p,0,none⟩)] w (CQ b p t w):=aaI w b p t w h hk bL (aA.refl _ _)
/-! What stands behind an aoo aiz. -/
def dz(t:LB):Int:=((hb t).toNat:Int)-48
theorem uh(h:(bO t).isSome=true):∃n r c,t=c::r/\bO t=some (n,r)/\dz t=n:=by
 cases t with
 | nil=>simp[bO]at h
 | cons c r =>
   simp only[bO]at h |-
   split at h
   ·rename_i hc
    refine⟨c.toNat-48,r,c,rfl,by rw[a0j hc],?_⟩;have h48:48<=c.toNat:=by
     have uM:=hc;simp only[a0N,a0S]at uM;have:=a1o.1 uM.1;simpa using this
    simp only[dz,hb];omega
   simp at h
theorem qL(h:(bO t).isSome=false):bO t=none:=by
 cases hp:bO t with
 | none=>rfl
 | some x=>rw[hp]at h;simp at h
theorem ali(h:(hb t==125)=true):bO t=none:=by
 cases t with
 | nil=>rfl
 | cons c r =>
   have:c=125:=by simpa[hb] using h
   subst this;simp[bO]
def QJ(t rE:LB)(okE:Bool)(dl dh:Int):Prop :=
 (okE=true/\∃lo hi,bY t=some ((lo,hi),rE)/\dl=(lo:Nat)/\dh=hiT hi)\/(okE=false/\bY t=none)
theorem aop(Jm:(hb t.tail==44)=false)(vE:(hb t.tail==125)=true):QJ t t.tail.tail ((bO t).isSome&&!t.tail.isEmpty) (dz t) (dz t):=by
 cases hd:(bO t).isSome
 ·exact .inr ⟨rfl,by unfold bY;rw[qL hd]⟩
 obtain⟨n,r,c,rfl,hp,iA⟩:=uh hd;simp only[a1z]at Jm vE |-;have e1:=fE 44 (by decide) r;have e2:=fE 125 (by decide) r;rw[Jm]at e1;rw[vE]at e2;have bL:r.isEmpty=false:=by
  cases r with
  | nil=>simp[bf]at e2
  | cons x q=>rfl
 refine .inl ⟨by rw[bL];rfl,n,some n,?_,iA,iA⟩;unfold bY;rw[hp];simp only[e1,e2,a0n,a0G,a0C]
theorem ann(Jm:(hb t.tail==44)=false)(vE:(hb t.tail==125)=false):bY t=none:=by
 cases hd:(bO t).isSome
 ·unfold bY;rw[qL hd]
 obtain⟨n,r,c,rfl,hp,iA⟩:=uh hd;simp only[a1z]at Jm vE;have e1:=fE 44 (by decide) r;have e2:=fE 125 (by decide) r;rw[Jm]at e1;rw[vE]at e2;unfold bY;rw[hp];simp only[e1,e2,a0n,a0G]
theorem aoq(Jm:(hb t.tail==44)=true)(vE:(hb t.tail.tail==125)=true):QJ t t.tail.tail.tail (((bO t).isSome&&!t.tail.isEmpty)&&!t.tail.tail.isEmpty) (dz t) (-1):=by
 cases hd:(bO t).isSome
 ·exact .inr ⟨rfl,by unfold bY;rw[qL hd]⟩
 obtain⟨n,r,c,rfl,hp,iA⟩:=uh hd;simp only[a1z]at Jm vE |-;have e1:=fE 44 (by decide) r;have e2:=fE 125 (by decide) r.tail;rw[Jm]at e1;rw[vE]at e2;have bL:r.isEmpty=false:=by
  cases r with
  | nil=>simp[bf]at e1
  | cons x q=>rfl
 have Es:r.tail.isEmpty=false:=by
  cases hr:r.tail with
  | nil=>rw[hr]at e2;simp[bf]at e2
  | cons x q=>rfl
 refine .inl ⟨by rw[bL,Es];rfl,n,none,?_,iA,rfl⟩;unfold bY;rw[hp];simp only[e1,a0C];rw[ali vE];simp only[e2,a0C]
theorem ano(Jm:(hb t.tail==44)=true)(hn:(hb t.tail.tail==125)=false)(vE:(hb t.tail.tail.tail==125)=false):bY t=none:=by
 cases hd:(bO t).isSome
 ·unfold bY;rw[qL hd]
 obtain⟨n,r,c,rfl,hp,iA⟩:=uh hd;simp only[a1z]at Jm vE hn;have e1:=fE 44 (by decide) r;have e2:=fE 125 (by decide) r.tail;have e3:=fE 125 (by decide) r.tail.tail;rw[Jm]at e1;rw[hn]at e2;rw[vE]at e3;unfold bY;rw[hp];simp only[e1,a0C];cases kY:(bO r.tail).isSome
 ·rw[qL kY];simp only[e2,a0n,a0G]
 obtain⟨n2,r2,c2,pX,bR,gF⟩:=uh kY;rw[bR];rw[pX]at e3;simp only[a1z]at e3;simp only[e3,a3p,a0n,a0G]
theorem aor(Jm:(hb t.tail==44)=true)(hn:(hb t.tail.tail==125)=false)(vE:(hb t.tail.tail.tail==125)=true) :
 (0<=dz t.tail.tail->dz t.tail.tail<dz t->bY t=none) /\
 (¬ (0<=dz t.tail.tail/\dz t.tail.tail<dz t)->QJ t t.tail.tail.tail.tail ((((bO t).isSome&&!t.tail.isEmpty)&&(bO t.tail.tail).isSome)&&!t.tail.tail.tail.isEmpty) (dz t) (dz t.tail.tail)):=by
 cases hd:(bO t).isSome
 ·exact⟨λ_ _=>by unfold bY;rw[qL hd],λ_=>.inr ⟨rfl,by unfold bY;rw[qL hd]⟩⟩
 obtain⟨n,r,c,rfl,hp,iA⟩:=uh hd;simp only[a1z]at Jm vE hn |-;have e1:=fE 44 (by decide) r;have e2:=fE 125 (by decide) r.tail;have e3:=fE 125 (by decide) r.tail.tail;rw[Jm]at e1;rw[hn]at e2;rw[vE]at e3;have bL:r.isEmpty=false:=by
  cases r with
  | nil=>simp[bf]at e1
  | cons x q=>rfl
 have Es:r.tail.tail.isEmpty=false:=by
  cases hr:r.tail.tail with
  | nil=>rw[hr]at e3;simp[bf]at e3
  | cons x q=>rfl
 cases kY:(bO r.tail).isSome
 ·have:bY (c::r)=none:=by
   unfold bY;rw[hp];simp only[e1,a0C];rw[qL kY];simp only[e2,a0n,a0G]
  exact⟨λ_ _=>this,λ_=>.inr ⟨by simp,this⟩⟩
 obtain⟨n2,r2,c2,pX,bR,gF⟩:=uh kY;have Bj:r.tail.tail=r2:=by rw[pX];rfl
 rw[Bj]at e3 Es |-;refine⟨λh1 h2=>?_,λh=>.inl ⟨by rw[bL,Es];rfl,n,some n2,?_,iA,gF⟩⟩
 ·unfold bY
  rw[hp];simp only[e1,a0C];rw[bR];simp only[e3,a2s,a0S];rw[a0g (by omega)]
 unfold bY;rw[hp];simp only[e1,a0C];rw[bR];simp only[e3,a2s,a0S];rw[a0j (by omega)]
def QX(b:Nat)(w:World)(x:Option (RX × LB))(e:Ending)(w':World):Prop :=
 ∃(q:Option Addr) (r:LB) (ok:Bool),e=.returned (.pointer q)/\QP w' b r ok/\aA [b] w w'/\((ok=true/\∃y n,x=some (y,r)/\q=some ⟨n,0,none⟩/\RN w' n (jl y))\/(ok=false/\x=none))
theorem aiA(q:Option Addr)(h:Int):((Tryz.zeroCells139.setIfInBounds 0 (.int .i64 4)).setIfInBounds 257 (.pointer q)).setIfInBounds 260 (.int .i64 h)=EJ 4 nF (.pointer q) (.pointer none) 0 h:=by kernel_rfl
theorem aos(q:Option Addr)(h l:Int):(((Tryz.zeroCells139.setIfInBounds 0 (.int .i64 4)).setIfInBounds 257 (.pointer q)).setIfInBounds 260 (.int .i64 h)).setIfInBounds 259 (.int .i64 l)=EJ 4 nF (.pointer q) (.pointer none) l h:=by kernel_rfl
theorem RK.of {C:Array Value} {k:Int} {L:List Bool} {a b:Value} {lo hi:Int}(h:C=EJ k L a b lo hi)(hL:L.length=256):RK (w.alloc (Obj.cells C 139)) w.heap.size k L a b lo hi:=by
 subst h;exact RK.new w hL
theorem eU.nil(f:aA [] w w'):eU w w':=eU.aB f (by simp)
theorem eU.new(w:World)(o:Obj):eU w (w.alloc o):=eU.nil ((aA.refl [] w).alloc o)
theorem alj {c:UInt8}(h:Ag c=true):c=42\/c=43\/c=63\/c=123:=by
 unfold Ag at h;simp only[a0Y,a0X]at h;rcases h with((h|h)|h)|h
 ·exact .inl h
 ·exact .inr (.inl h)
 ·exact .inr (.inr (.inl h))
 exact .inr (.inr (.inr h))
def rpL:LB:=[42,43,63,123]
theorem agT:bs rpL=⟨#[42,43,63,123]⟩:=rfl
theorem anp(c:UInt8):mo rpL c=Ag c:=by
 have h:=tH (p:=λc=>mo rpL c==Ag c) (by decide +kernel) c;exact a0X.1 h
theorem aaJ(w0:World)(b:Nat)(x:RX)(n:Nat)(t:LB)(w:World)(h:QP w b t true)(hx:RN w n (jl x))(hF:aA [b] w0 w) :
 Calls Tryz.prog 67 #[.pointer (some ⟨b,0,none⟩),.pointer (some ⟨n,0,none⟩)] w (QX b w0 (dF (t.length+1) x t)):=by
 have H:=aj h;have X:=aj hx;have F:=aj hF;clear h hx hF;obtain⟨R0,Ch⟩:∃R0,dF (t.length+1) x t=R0:=⟨_,rfl⟩;rw[Ch];go_enter Tryz.func67,Tryz.ntmps67
 go_wp2_with fail
 go_loopg [1] (t.length+2) (λk v1 wr=>∃(q:Option Addr) (r:LB) (ok:Bool),v1=.pointer q/\QP wr b r ok/\aA [b] w0 wr/\((ok=true/\∃y n kk,q=some ⟨n,0,none⟩/\RN wr n (jl y)/\k=kk+1/\r.length+1<=kk/\dF kk y r=R0)\/(ok=false/\R0=none)))
 case atStart=>exact⟨_,t,true,rfl,H,F,.inl ⟨rfl,x,n,t.length+1,rfl,X,rfl,a0a _,Ch⟩⟩
 case round =>
  clear H X F Ch;obtain⟨q,r,ok,rfl,hp,hf,hd⟩:=hrel;have P:=aj hp;have F:=aj hf;have c1:=hp.c1;clear hp hf;cases ok
  case false =>
   have HR:R0=none:=by
    rcases hd with⟨h,_⟩|⟨_,h⟩
    ·cases h
    exact h
   clear hd;go_wp2;go_ret;exact⟨q,r,false,rfl,P,F,.inr ⟨rfl,HR⟩⟩
  case true =>
   obtain⟨y,n,kk,rfl,uO,Mw,hrk,Cj⟩:∃y n kk,q=some ⟨n,0,none⟩/\RN wr n (jl y)/\gk=kk+1/\r.length+1<=kk/\dF kk y r=R0:=by
    rcases hd with⟨_,h⟩|⟨h,_⟩
    ·exact h
    cases h
   obtain⟨k2,rfl⟩:∃k2,kk=k2+1:=⟨kk-1,by omega⟩;have X:=aj uO;clear hd uO;go_wp2_with fail
   refine(tV b r true wr P).mono ?_;rintro e w1 ⟨rfl,rfl⟩;rw[rV];have h8:=(hb r).toNat_lt;cases r with
   | nil =>
     have HR:R0=some (y,[]):=by rw[<-Cj];rfl
     simp only[List.isEmpty_nil,a2q];go_wp2;go_ret;exact⟨_,[],true,rfl,P,F,.inl ⟨rfl,y,n,HR,rfl,X⟩⟩
   | cons c r =>
     simp only[a1J,a1y,hb]at h8 |-;have A:=aj (tN c rpL wr (by decide));rw[agT,anp]at A;go_wp2_with fail
     refine(A.o).mono ?_;rintro e w1 ⟨rfl,rfl⟩;cases hr:Ag c
     case false =>
      have HR:R0=some (y,c::r):=by rw[<-Cj];simp only[dF,Ai,hr,a0n,a0G]
      go_wp2;go_ret;exact⟨_,_,true,rfl,P,F,.inl ⟨rfl,y,n,HR,rfl,X⟩⟩
     case true =>
      have HR:Z_ (R0=match Ah (c::r) with | none=>none|some (b,r)=>dF k2 (.rep y b.1 b.2) r):=by
       show _=_;rw[<-Cj];simp only[dF,Ai,hr,a0C];rfl
      go_wp2_with fail
      refine(jk b (c::r) true wr P).mono ?_;rintro e w1 ⟨rfl,iw,aZ⟩;simp only[a1z,a1J,a1y,a2r]at iw;have X1:=aj (X.o.aW (P.o.keepR aZ));have P1:=aj iw;have F1:=aj (F.o.trans aZ);clear iw aZ P F X;have lG:r.length+1<=k2:=by simp only[a0o]at hrk;omega
      rcases alj hr with rfl|rfl|rfl|rfl
      ·have f43:(((42:UInt8).toNat:Int)==43)=false:=by decide
       have f63:(((42:UInt8).toNat:Int)==63)=false:=by decide
       have f123:(((42:UInt8).toNat:Int)==123)=false:=by decide
       have nO:dF k2 (.rep y 0 none) r=R0:=by rw[HR.o];rfl
       go_wp2;go_roundg (gk-1)
       case measure=>omega
       case rel=>exact⟨_,r,true,rfl,P1.o.aB ((aA.refl [] _).alloc _) (by simp),F1.o.alloc _,.inl ⟨rfl,.rep y 0 none,w1.heap.size,k2,rfl,⟨n,RK.of (aiA _ _) oM,X1.o.aW (eU.new _ _)⟩,by omega,lG,nO⟩⟩
      ·have f43:(((43:UInt8).toNat:Int)==43)=true:=by decide
       have nO:dF k2 (.rep y 1 none) r=R0:=by rw[HR.o];rfl
       go_wp2;go_roundg (gk-1)
       case measure=>omega
       case rel=>exact⟨_,r,true,rfl,P1.o.aB ((aA.refl [] _).alloc _) (by simp),F1.o.alloc _,.inl ⟨rfl,.rep y 1 none,w1.heap.size,k2,rfl,⟨n,RK.of (aos _ _ _) oM,X1.o.aW (eU.new _ _)⟩,by omega,lG,nO⟩⟩
      ·have f43:(((63:UInt8).toNat:Int)==43)=false:=by decide
       have f63:(((63:UInt8).toNat:Int)==63)=true:=by decide
       have nO:dF k2 (.rep y 0 (some 1)) r=R0:=by rw[HR.o];rfl
       go_wp2;go_roundg (gk-1)
       case measure=>omega
       case rel=>exact⟨_,r,true,rfl,P1.o.aB ((aA.refl [] _).alloc _) (by simp),F1.o.alloc _,.inl ⟨rfl,.rep y 0 (some 1),w1.heap.size,k2,rfl,⟨n,RK.of (aiA _ _) oM,X1.o.aW (eU.new _ _)⟩,by omega,lG,nO⟩⟩
      have f43:(((123:UInt8).toNat:Int)==43)=false:=by decide
      have f63:(((123:UInt8).toNat:Int)==63)=false:=by decide
      have f123:(((123:UInt8).toNat:Int)==123)=true:=by decide
      have nO:Z_ (R0=match bY r with | none=>none|some (b,r)=>dF k2 (.rep y b.1 b.2) r):=by show _=_;rw[HR.o];rfl
      go_wp2_with fail
      have P2:=aj (P1.o.aB ((aA.refl [] _).alloc (Obj.cells (((Tryz.zeroCells139.setIfInBounds 0 (.int .i64 4)).setIfInBounds 257 (.pointer (some ⟨n,0,none⟩))).setIfInBounds 260 (.int .i64 (-1))) 139)) (by simp));have K2:=aj (RK.of (w:=w1) (aiA (some ⟨n,0,none⟩) (-1)) oM);have G2:Z_ (aA [b] w1 (w1.alloc (Obj.cells (((Tryz.zeroCells139.setIfInBounds 0 (.int .i64 4)).setIfInBounds 257 (.pointer (some ⟨n,0,none⟩))).setIfInBounds 260 (.int .i64 (-1))) 139))):=(aA.refl _ _).alloc _;have UM:b<w1.heap.size:=P1.o.lt;generalize w1.alloc (Obj.cells (((Tryz.zeroCells139.setIfInBounds 0 (.int .i64 4)).setIfInBounds 257 (.pointer (some ⟨n,0,none⟩))).setIfInBounds 260 (.int .i64 (-1))) 139)=w2 at P2 K2 G2 |-;have Sl:w1.heap.size ∉ [b]:=by simp;omega
      have Jn:b ∉ [w1.heap.size]:=by simp;omega
      refine(QG b r true w2 P2).mono ?_;rintro e w3 ⟨rfl,mR,bZ⟩;rw[a2s]at mR;have P3:=aj mR;have K3:=aj (K2.o.aB bZ Sl);have G3:=aj (G2.o.trans bZ);have DJ:-48<=dz r/\dz r<=207:=by
       have:=(hb r).toNat_lt;unfold dz;omega
      obtain⟨dl,afL⟩:∃dl,dz r=dl:=⟨_,rfl⟩;have e1:((hb r).toNat:Int)-48=dl:=afL;rw[e1];rw[afL]at DJ;have Hdl:=aj afL;clear e1 afL;obtain⟨_,_,OU,k60⟩:=K3.o.ends;have kz1:=K3.o.fz 259;have kz2:=K3.o.fz 260;clear mR bZ P2 K2 G2;go_wp2_with fail
      have P4:=aj (P3.o.aB (((aA.refl [w1.heap.size] w3).setCell (p:=⟨w1.heap.size,259,none⟩) (.inl (by simp)) (.int .i64 dl)).setCell (p:=⟨w1.heap.size,260,none⟩) (.inl (by simp)) (.int .i64 dl)) Jn);have K4:=aj ((K3.o.slo dl).shi dl);have G4:=aj ((G3.o.setCell (p:=⟨w1.heap.size,259,none⟩) (.inr (a0a _)) (.int .i64 dl)).setCell (p:=⟨w1.heap.size,260,none⟩) (.inr (a0a _)) (.int .i64 dl));generalize (w3.setCell ⟨w1.heap.size,259,none⟩ (.int .i64 dl)).setCell ⟨w1.heap.size,260,none⟩ (.int .i64 dl)=w4 at P4 K4 G4 |-;clear OU k60 kz1 kz2 P3 K3 G3;refine(jk b r.tail _ w4 P4).mono ?_;rintro e w5 ⟨rfl,Mx,wN⟩;have P5:=aj Mx;have K5:=aj (K4.o.aB wN Sl);have G5:=aj (G4.o.trans wN);obtain⟨_,_,OU,k60⟩:=K5.o.ends;have kz1:=K5.o.fz 259;have kz2:=K5.o.fz 260;have pc1:=Mx.c1;have pz1:=Mx.fz 1;clear Mx wN P4 K4 G4;rw[rV];have t18:=(hb r.tail).toNat_lt;have e44:=yn (hb r.tail) 44 (by decide);have e125:=yn (hb r.tail) 125 (by decide);cases k44:(hb r.tail==44)
      case false =>
       have f44:(((hb r.tail).toNat:Int)==44)=false:=e44.trans k44;clear e44;cases zn:(hb r.tail==125)
       case false =>
        have f125:(((hb r.tail).toNat:Int)==125)=false:=e125.trans zn;have aiB:(((hb r.tail).toNat:Int) != 125)=true:=by rw[bne,f125];rfl
        clear e125;have P9:=aj P5.o.off;have K9:=aj (K5.o.aB ((aA.refl [b] w5).setCell (p:=⟨b,1,none⟩) (.inl (by simp)) (.bool false)) Sl);have G9:Z_ (∀nq,aA [b] w1 ((w5.drewN nq).setCell ⟨b,1,none⟩ (.bool false))):=λnq=>(G5.o.drewN nq).setCell (p:=⟨b,1,none⟩) (.inl (by simp)) (.bool false)
        have D9:Z_ (QJ r r.tail.tail false dl dl):=.inr ⟨rfl,ann k44 zn⟩;go_wp2_with fail
        go_quiet (fail)
        go_wp2;go_roundg (gk-1)
        case measure=>omega
        case rel =>
         refine⟨some ⟨w1.heap.size,0,none⟩,_,_,rfl,P9,F1.o.trans (G9.o _),?_⟩;rcases D9.o with⟨h1,lo,hi,h2,h3,h4⟩|⟨h1,h2⟩
         ·refine .inl ⟨h1,.rep y lo hi,w1.heap.size,k2,rfl,⟨n,by rw[<-h3,<-h4];exact K9,X1.o.aW (P1.o.keepR (G9.o _))⟩,by omega,?_,?_⟩
          ·have:=(mq h2).1;omega
          rw[nO.o,h2]
         exact .inr ⟨h1,by rw[nO.o,h2]⟩
       case true =>
        have f125:(((hb r.tail).toNat:Int)==125)=true:=e125.trans zn;have aiB:(((hb r.tail).toNat:Int) != 125)=false:=by rw[bne,f125];rfl
        have gll:decide (dl<dl)=false:=by simp
        cases g0:decide (0<=dl)
        all_goals
         clear e125;have P9:=P5;have K9:=K5;have G9:Z_ (∀nq,aA [b] w1 (w5.drewN nq)):=λnq=>G5.o.drewN nq
         have D9:Z_ (QJ r r.tail.tail ((bO r).isSome&&!r.tail.isEmpty) dl dl):=by
          have:=aop k44 zn;rw[Hdl.o]at this;exact this
         go_wp2_with fail
         go_quiet (fail)
         go_wp2;go_roundg (gk-1)
         case measure=>omega
         case rel =>
          refine⟨some ⟨w1.heap.size,0,none⟩,_,_,rfl,P9,F1.o.trans (G9.o _),?_⟩;rcases D9.o with⟨h1,lo,hi,h2,h3,h4⟩|⟨h1,h2⟩
          ·refine .inl ⟨h1,.rep y lo hi,w1.heap.size,k2,rfl,⟨n,by rw[<-h3,<-h4];exact K9,X1.o.aW (P1.o.keepR (G9.o _))⟩,by omega,?_,?_⟩
           ·have:=(mq h2).1;omega
           rw[nO.o,h2]
          exact .inr ⟨h1,by rw[nO.o,h2]⟩
      case true =>
       have f44:(((hb r.tail).toNat:Int)==44)=true:=e44.trans k44;clear e44 e125;go_wp2_with fail
       have P6:=aj (P5.o.aB ((aA.refl [w1.heap.size] w5).setCell (p:=⟨w1.heap.size,260,none⟩) (.inl (by simp)) (.int .i64 (-1))) Jn);have K6:=aj (K5.o.shi (-1));have G6:=aj (G5.o.setCell (p:=⟨w1.heap.size,260,none⟩) (.inr (a0a _)) (.int .i64 (-1)));generalize w5.setCell ⟨w1.heap.size,260,none⟩ (.int .i64 (-1))=w6 at P6 K6 G6 |-;clear OU k60 kz1 kz2 P5 K5 G5 pc1 pz1;refine(tV b r.tail.tail _ w6 P6).mono ?_;rintro e w7 ⟨rfl,rfl⟩;rw[rV];have t28:=(hb r.tail.tail).toNat_lt;have e125:=yn (hb r.tail.tail) 125 (by decide);cases kn:(hb r.tail.tail==125)
       case true =>
        have f125:(((hb r.tail.tail).toNat:Int)==125)=true:=e125.trans kn;have aiB:(((hb r.tail.tail).toNat:Int) != 125)=false:=by rw[bne,f125];rfl
        clear e125;go_wp2_with fail
        refine(jk b r.tail.tail _ w6 P6).mono ?_;rintro e w8 ⟨rfl,hp8,hf8⟩;have P9:=aj hp8;have K9:=aj (K6.o.aB hf8 Sl);have G8:=aj (G6.o.trans hf8);have G9:Z_ (∀nq,aA [b] w1 (w8.drewN nq)):=λnq=>G8.o.drewN nq
        have D9:Z_ (QJ r r.tail.tail.tail (((bO r).isSome&&!r.tail.isEmpty)&&!r.tail.tail.isEmpty) dl (-1)):=by
         have:=aoq k44 kn;rw[Hdl.o]at this;exact this
        obtain⟨_,_,OU,k60⟩:=K9.o.ends;clear hp8 hf8 P6 K6 G6 G8;rw[rV];have g0:decide ((0:Int)<=-1)=false:=by decide
        go_wp2_with fail
        go_quiet (fail)
        go_wp2;go_roundg (gk-1)
        case measure=>omega
        case rel =>
         refine⟨some ⟨w1.heap.size,0,none⟩,_,_,rfl,P9,F1.o.trans (G9.o _),?_⟩;rcases D9.o with⟨h1,lo,hi,h2,h3,h4⟩|⟨h1,h2⟩
         ·refine .inl ⟨h1,.rep y lo hi,w1.heap.size,k2,rfl,⟨n,by rw[<-h3,<-h4];exact K9,X1.o.aW (P1.o.keepR (G9.o _))⟩,by omega,?_,?_⟩
          ·have:=(mq h2).1;omega
          rw[nO.o,h2]
         exact .inr ⟨h1,by rw[nO.o,h2]⟩
       case false =>
        have f125:(((hb r.tail.tail).toNat:Int)==125)=false:=e125.trans kn;have aiB:(((hb r.tail.tail).toNat:Int) != 125)=true:=by rw[bne,f125];rfl
        clear e125;go_wp2_with fail
        refine(QG b r.tail.tail _ w6 P6).mono ?_;rintro e w7 ⟨rfl,OT,xV⟩;have P7:=aj OT;have K7:=aj (K6.o.aB xV Sl);have G7:=aj (G6.o.trans xV);have hdh:-48<=dz r.tail.tail/\dz r.tail.tail<=207:=by
         unfold dz;omega
        obtain⟨dh,afM⟩:∃dh,dz r.tail.tail=dh:=⟨_,rfl⟩;have e1:((hb r.tail.tail).toNat:Int)-48=dh:=afM;rw[e1];rw[afM]at hdh;have Hdh:=aj afM;clear e1 afM;obtain⟨_,_,OU,k60⟩:=K7.o.ends;have kz2:=K7.o.fz 260;clear OT xV P6 K6 G6;go_wp2_with fail
        have P8:=aj (P7.o.aB ((aA.refl [w1.heap.size] w7).setCell (p:=⟨w1.heap.size,260,none⟩) (.inl (by simp)) (.int .i64 dh)) Jn);have K8:=aj (K7.o.shi dh);have G8:=aj (G7.o.setCell (p:=⟨w1.heap.size,260,none⟩) (.inr (a0a _)) (.int .i64 dh));generalize w7.setCell ⟨w1.heap.size,260,none⟩ (.int .i64 dh)=w8 at P8 K8 G8 |-;clear OU k60 kz2 P7 K7 G7;refine(jk b r.tail.tail.tail _ w8 P8).mono ?_;rintro e w9 ⟨rfl,hp9,hf9⟩;have P9:=aj hp9;have K9:=aj (K8.o.aB hf9 Sl);have G10:=aj (G8.o.trans hf9);obtain⟨_,_,OU,k60⟩:=K9.o.ends;have pc1:=hp9.c1;have pz1:=hp9.fz 1;clear hp9 hf9 P8 K8 G8;rw[rV];have t38:=(hb r.tail.tail.tail).toNat_lt;have e125:=yn (hb r.tail.tail.tail) 125 (by decide);cases zn:(hb r.tail.tail.tail==125)
        case false =>
         have vE:(((hb r.tail.tail.tail).toNat:Int)==125)=false:=e125.trans zn;have aot:(((hb r.tail.tail.tail).toNat:Int) != 125)=true:=by rw[bne,vE];rfl
         clear e125;have P9:=aj P9.o.off;have K9:=aj (K9.o.aB ((aA.refl [b] w9).setCell (p:=⟨b,1,none⟩) (.inl (by simp)) (.bool false)) Sl);have G9:Z_ (∀nq,aA [b] w1 ((w9.drewN nq).setCell ⟨b,1,none⟩ (.bool false))):=λnq=>(G10.o.drewN nq).setCell (p:=⟨b,1,none⟩) (.inl (by simp)) (.bool false)
         have D9:Z_ (QJ r r.tail.tail.tail.tail false dl dh):=.inr ⟨rfl,ano k44 kn zn⟩;go_wp2_with fail
         go_quiet (fail)
         go_wp2;go_roundg (gk-1)
         case measure=>omega
         case rel =>
          refine⟨some ⟨w1.heap.size,0,none⟩,_,_,rfl,P9,F1.o.trans (G9.o _),?_⟩;rcases D9.o with⟨h1,lo,hi,h2,h3,h4⟩|⟨h1,h2⟩
          ·refine .inl ⟨h1,.rep y lo hi,w1.heap.size,k2,rfl,⟨n,by rw[<-h3,<-h4];exact K9,X1.o.aW (P1.o.keepR (G9.o _))⟩,by omega,?_,?_⟩
           ·have:=(mq h2).1;omega
           rw[nO.o,h2]
          exact .inr ⟨h1,by rw[nO.o,h2]⟩
        case true =>
         have vE:(((hb r.tail.tail.tail).toNat:Int)==125)=true:=e125.trans zn;have aot:(((hb r.tail.tail.tail).toNat:Int) != 125)=false:=by rw[bne,vE];rfl
         clear e125;have C:=aj (aor k44 kn zn);rw[Hdl.o,Hdh.o]at C;cases g0:decide (0<=dh)
         case false =>
          have G9:Z_ (∀nq,aA [b] w1 (w9.drewN nq)):=λnq=>G10.o.drewN nq
          have D9:=aj (C.o.2 (λh=>by rw[a1i]at g0;exact g0 h.1));go_wp2_with fail
          go_quiet (fail)
          go_wp2;go_roundg (gk-1)
          case measure=>omega
          case rel =>
           refine⟨some ⟨w1.heap.size,0,none⟩,_,_,rfl,P9,F1.o.trans (G9.o _),?_⟩;rcases D9.o with⟨h1,lo,hi,h2,h3,h4⟩|⟨h1,h2⟩
           ·refine .inl ⟨h1,.rep y lo hi,w1.heap.size,k2,rfl,⟨n,by rw[<-h3,<-h4];exact K9,X1.o.aW (P1.o.keepR (G9.o _))⟩,by omega,?_,?_⟩
            ·have:=(mq h2).1;omega
            rw[nO.o,h2]
           exact .inr ⟨h1,by rw[nO.o,h2]⟩
         case true =>
          have h0:0<=dh:=a2X g0;cases gl:decide (dh<dl)
          case false =>
           have G9:Z_ (∀nq,aA [b] w1 (w9.drewN nq)):=λnq=>G10.o.drewN nq
           have D9:=aj (C.o.2 (λh=>by rw[a1i]at gl;exact gl h.2));go_wp2_with fail
           go_quiet (fail)
           go_wp2;go_roundg (gk-1)
           case measure=>omega
           case rel =>
            refine⟨some ⟨w1.heap.size,0,none⟩,_,_,rfl,P9,F1.o.trans (G9.o _),?_⟩;rcases D9.o with⟨h1,lo,hi,h2,h3,h4⟩|⟨h1,h2⟩
            ·refine .inl ⟨h1,.rep y lo hi,w1.heap.size,k2,rfl,⟨n,by rw[<-h3,<-h4];exact K9,X1.o.aW (P1.o.keepR (G9.o _))⟩,by omega,?_,?_⟩
             ·have:=(mq h2).1;omega
             rw[nO.o,h2]
            exact .inr ⟨h1,by rw[nO.o,h2]⟩
          case true =>
           have P9:=aj P9.o.off;have K9:=aj (K9.o.aB ((aA.refl [b] w9).setCell (p:=⟨b,1,none⟩) (.inl (by simp)) (.bool false)) Sl);have G9:Z_ (∀nq,aA [b] w1 ((w9.drewN nq).setCell ⟨b,1,none⟩ (.bool false))):=λnq=>(G10.o.drewN nq).setCell (p:=⟨b,1,none⟩) (.inl (by simp)) (.bool false)
           have D9:Z_ (QJ r r.tail.tail.tail.tail false dl dh):=.inr ⟨rfl,C.o.1 h0 (a2X gl)⟩;go_wp2_with fail
           go_quiet (fail)
           go_wp2;go_roundg (gk-1)
           case measure=>omega
           case rel =>
            refine⟨some ⟨w1.heap.size,0,none⟩,_,_,rfl,P9,F1.o.trans (G9.o _),?_⟩;rcases D9.o with⟨h1,lo,hi,h2,h3,h4⟩|⟨h1,h2⟩
            ·refine .inl ⟨h1,.rep y lo hi,w1.heap.size,k2,rfl,⟨n,by rw[<-h3,<-h4];exact K9,X1.o.aW (P1.o.keepR (G9.o _))⟩,by omega,?_,?_⟩
             ·have:=(mq h2).1;omega
             rw[nO.o,h2]
            exact .inr ⟨h1,by rw[nO.o,h2]⟩
theorem acb(b:Nat)(x:RX)(n:Nat)(t:LB)(w:World)(h:QP w b t true)(hx:RN w n (jl x)) :
 Calls Tryz.prog 67 #[.pointer (some ⟨b,0,none⟩),.pointer (some ⟨n,0,none⟩)] w (QX b w (dF (t.length+1) x t)):=aaJ w b x n t w h hx (aA.refl _ _)
def ChC(k:Nat):Prop:=∀(b d:Nat) (t:LB) (w:World),QP w b t true->d<=5->4*t.length+4<=k ->
 Calls Tryz.prog 39 #[.pointer (some ⟨b,0,none⟩),.int .i64 d] w (QX b w (gX k d [] t))
def RwC(k:Nat):Prop:=∀(b d:Nat) (t:LB) (w:World),QP w b t true->d<=5->4*t.length+3<=k ->
 Calls Tryz.prog 51 #[.pointer (some ⟨b,0,none⟩),.int .i64 d] w (QX b w (iT k d [] t))
def SgC(k:Nat):Prop:=∀(b d:Nat) (t:LB) (w:World),QP w b t true->d<=5->4*t.length+2<=k ->
 Calls Tryz.prog 66 #[.pointer (some ⟨b,0,none⟩),.int .i64 d] w (QX b w (gz k d t))
theorem aou:Tryz.zeroCells139.setIfInBounds 0 (.int .i64 1)=EJ 1 nF (.pointer none) (.pointer none) 0 0:=by kernel_rfl
theorem anq:sG 0 0 256=eT:=by decide +kernel
theorem aA.alk {x y z:World}(h:aA [b] x y)(k:aA [b,p] y z)(hp:x.heap.size<=p):aA [b] x z :=
 ⟨k.os.trans h.os,k.tape.trans h.tape,k.output.trans h.output,a0e h.size k.size,
  λi hi hS=>(k.block i (a0x hi h.size) (by simp at hS |-;exact⟨hS,by omega⟩)).trans (h.block i hi hS)⟩
def spL:LB:=[41,124,42,43,63,123,125,91,93,46]
theorem agU:bs spL=⟨#[41,124,42,43,63,123,125,91,93,46]⟩:=rfl
theorem anr(c:UInt8)(h1:(c==91)=false)(h2:(c==46)=false):mo spL c=gL c:=by
 have h:=tH (p:=λc=>c==91||c==46||mo spL c==gL c) (by decide +kernel) c;rw[h1,h2]at h;exact a0X.1 h
theorem Cn(k d:Nat)(c:UInt8)(r:LB):gz (k+1) d (c::r) =
 if c==40 then (if 5<=d then none else match gX k (d+1) [] r with | none=>none|some (x,r2)=>if bf 41 r2 then some (x,r2.tail) else none)
  else if c==91 then (match lV r with | none=>none|some (s,r2)=>some (.one s,r2))
  else if c==46 then some (.one eT,r)
  else if c==92 then (match r with | []=>none|d::r2=>some (.one (2 ^ d.toNat),r2))
  else if gL c then none
  else some (.one (2 ^ c.toNat),r):=by
 conv=>lhs;unfold gz
 rfl
def aov:LB->Option (RX × LB)
 | []=>none
 | e::r=>some (.one (2 ^ e.toNat),r)
theorem agV(k d:Nat)(r:LB):gz (k+1) d (92::r)=aov r:=by
 rw[Cn];cases r<;>rfl
theorem aet(k d:Nat)(OY:(hb t==40)=false)(My:(hb t==91)=false)(MC:(hb t==46)=false)(wM:(hb t==92)=false) :
 gz (k+1) d t=if t.isEmpty then none else if gL (hb t) then none else some (.one (2 ^ (hb t).toNat),t.tail):=by
 cases t with
 | nil=>simp[gz]
 | cons c r =>
   rw[Cn];simp only[hb]at OY My MC wM;rw[OY,My,MC,wM]
   rfl
theorem RK.byte(c:UInt8)(h:RK w p 1 nF (.pointer none) (.pointer none) 0 0):RN (w.setCell ⟨p,1+c.toNat,none⟩ (.bool true)) p (.one (2 ^ c.toNat)):=by
 have:=h.sin c.toNat true c.toNat_lt;rw[<-Mr,afH 0 c.toNat c.toNat_lt,Nat.zero_or]at this;exact this
theorem aaK(hC:ChC k):SgC (k+1):=by
 intro b d t w h hd hk;have H:=aj h;have UM:=h.lt;clear h;go_enter Tryz.func66,Tryz.ntmps66
 go_wp2_with fail
 have P0:=aj (H.o.aB ((aA.refl [] w).alloc (Obj.cells (Tryz.zeroCells139.setIfInBounds 0 (.int .i64 1)) 139)) (by simp));have K0:=aj (RK.of (w:=w) aou oM);have F0:Z_ (aA [b] w (w.alloc (Obj.cells (Tryz.zeroCells139.setIfInBounds 0 (.int .i64 1)) 139))):=(aA.refl _ _).alloc _;generalize w.alloc (Obj.cells (Tryz.zeroCells139.setIfInBounds 0 (.int .i64 1)) 139)=w0 at P0 K0 F0 |-;have Sl:w.heap.size ∉ [b]:=by simp;omega
 have Jn:b ∉ [w.heap.size]:=by simp;omega
 clear H;refine(jk b t true w0 P0).mono ?_;rintro e w1 ⟨rfl,iw,aZ⟩;have P1:=aj iw;have K1:=aj (K0.o.aB aZ Sl);have F1:=aj (F0.o.trans aZ);have pc:=iw.c1;have pz:=iw.fz 1;clear iw aZ P0 K0 F0;rw[rV];have c8:=(hb t).toNat_lt;have e40:=yn (hb t) 40 (by decide);have e46:=yn (hb t) 46 (by decide);have Sm:=yn (hb t) 91 (by decide);have zU:=yn (hb t) 92 (by decide);cases OY:(hb t==40)
 case true =>
  have f40:(((hb t).toNat:Int)==40)=true:=e40.trans OY;clear e40 e46 Sm zU;obtain⟨c,r,rfl⟩:∃c r,t=c::r:=by
   cases t with
   | nil=>exact absurd OY (by decide)
   | cons c r=>exact⟨c,r,rfl⟩
  have aow:(c==40)=true:=OY;simp only[a1z,a1J,a1y,a2r]at P1 pc;have HA:=aj (Cn k d c r);rw[aow]at HA;simp only[a0C]at HA
  by_cases h5:d=5
  ·subst h5
   have HA2:Z_ (gz (k+1) 5 (c::r)=none):=by show _=_;rw[HA.o];rfl
   clear HA;have P2:=aj P1.o.off;go_wp2;go_ret;exact⟨_,_,_,rfl,P2,F1.o.setCell (.inl (by simp)) _,.inr ⟨rfl,HA2⟩⟩
  have hd5:((d:Int)==5)=false:=by rw[a0k];omega
  rw[a0g (by omega)]at HA;go_wp2_with fail
  have HC:=aj (hC b (d+1) r w1 P1.o (by omega) (by simp only[a0o]at hk;omega));refine(HC.o).mono ?_;rintro e w2 ⟨q,r2,ok2,rfl,bR,aS,kY⟩;have P2:=aj bR;have F2:=aj (F1.o.trans aS);have D2:=aj kY;clear bR aS kY HC;go_wp2_with fail
  refine(jk b r2 ok2 w2 P2).mono ?_;rintro e w3 ⟨rfl,mR,bZ⟩;have P3:=aj mR;have F3:=aj (F2.o.trans bZ);have pc3:=mR.c1;have pz3:=mR.fz 1;have KR:=aj (P2.o.keepR bZ);clear mR bZ;rw[rV];have r28:=(hb r2).toNat_lt;have e41:=yn (hb r2) 41 (by decide);have h41:=fE 41 (by decide) r2;cases xW:(hb r2==41)
  case false =>
   have f41:(((hb r2).toNat:Int)==41)=false:=e41.trans xW;have P4:=aj P3.o.off;clear e41;go_wp2;go_ret;refine⟨_,_,_,rfl,P4,F3.o.setCell (.inl (by simp)) _,.inr ⟨rfl,?_⟩⟩;rw[HA.o];rcases D2.o with⟨_,y,n,h2,_⟩|⟨_,h2⟩
   ·rw[h2];simp only[h41,xW,a0n,a0G]
   rw[h2]
  case true =>
   have f41:(((hb r2).toNat:Int)==41)=true:=e41.trans xW;clear e41;have ry:r2.isEmpty=false:=by
    cases r2 with
    | nil=>exact absurd xW (by decide)
    | cons x q=>rfl
   rw[ry]at P3;simp only[a1y,a2r]at P3;go_wp2;go_ret;refine⟨_,_,_,rfl,P3,F3,?_⟩;rw[HA.o];rcases D2.o with⟨h1,y,n,h2,h3,h4⟩|⟨h1,h2⟩
   ·exact .inl ⟨h1,y,n,by rw[h2];simp only[h41,xW,a0C],h3,h4.aW KR⟩
   exact .inr ⟨h1,by rw[h2]⟩
 case false =>
  have f40:(((hb t).toNat:Int)==40)=false:=e40.trans OY;clear e40;cases MC:(hb t==46)
  case true =>
   have f46:(((hb t).toNat:Int)==46)=true:=e46.trans MC;clear e46 Sm zU;obtain⟨c,r,rfl⟩:∃c r,t=c::r:=by
    cases t with
    | nil=>exact absurd MC (by decide)
    | cons c r=>exact⟨c,r,rfl⟩
   have aox:c=46:=by simpa[hb] using MC
   subst aox;simp only[a1z,a1J,a1y,a2r]at P1 pc;have HA:Z_ (gz (k+1) d (46::r)=some (.one eT,r)):=by show _=_;rw[Cn];rfl
   go_wp2_with fail
   go_loopg [7] 256 (λk v7 wr=>∃(j:Nat),j+k=256/\v7=.int .i64 j/\QP wr b r true/\RK wr w.heap.size 1 (uC nF 0 j) (.pointer none) (.pointer none) 0 0/\aA [b] w wr)
   case atStart=>exact⟨0,rfl,rfl,P1,K1,F1⟩
   case round =>
    clear P1 K1 F1 pc pz;obtain⟨j,sI,rfl,UK,hk6,Bi⟩:=hrel;have P5:=aj UK;have K5:=aj hk6;have F5:=aj Bi;have yA:=hk6.fz;clear UK hk6 Bi
    by_cases hj6:j<256
    ·have Jl:=yA (1+j)
     obtain⟨x,hx⟩:∃x,(uC nF 0 j)[j]?=some x:=⟨_,a0c (by have:=K5.o.2;omega)⟩;have hcx:=K5.o.cin j x hx;clear hx;have K6:=aj (K5.o.sin j true hj6);have bN:Z_ (uC nF 0 (j+1)=(uC nF 0 j).set j true):=by show _=_;rw[uC,a1v]
     go_wp2;go_roundg (gk-1)
     case measure=>omega
     case rel =>
      refine⟨j+1,by omega,by go_num,?_,?_,F5.o.setCell (p:=⟨w.heap.size,1+j,none⟩) (.inr (a0a _)) _⟩
      ·exact P5.o.aB (S:=[w.heap.size]) ((aA.refl [w.heap.size] _).setCell (p:=⟨w.heap.size,1+j,none⟩) (.inl (by simp)) _) Jn
      rw[bN.o];exact K6
    have hj7:j=256:=by omega
    subst hj7;have bN:Z_ (uC nF 0 256=bl eT):=by show _=_;rw[<-Mr,UG 0 0 256 (by omega),anq]
    rw[bN.o]at K5;go_wp2;go_ret;exact⟨_,_,_,rfl,P5,F5,.inl ⟨rfl,.one eT,w.heap.size,HA,rfl,K5⟩⟩
  case false =>
   have f46:(((hb t).toNat:Int)==46)=false:=e46.trans MC;clear e46;cases My:(hb t==91)
   case true =>
    have f91:(((hb t).toNat:Int)==91)=true:=Sm.trans My;clear Sm zU;obtain⟨c,r,rfl⟩:∃c r,t=c::r:=by
     cases t with
     | nil=>exact absurd My (by decide)
     | cons c r=>exact⟨c,r,rfl⟩
    have hc91:c=91:=by simpa[hb] using My
    subst hc91;simp only[a1z,a1J,a1y,a2r]at P1 pc;have HA:Z_ (gz (k+1) d (91::r)=match lV r with | none=>none|some (s,r2)=>some (.one s,r2)):=by show _=_;rw[Cn];rfl
    go_wp2_with fail
    refine(aca b w.heap.size r w1 P1.o K1.o (by omega)).mono ?_;rintro e w2 ⟨r2,ok2,L2,rfl,bR,ME,aS,kY⟩;have P2:=aj bR;have K2:=aj ME;have F2:=aj (F1.o.alk aS (a0a _));have D2:=aj kY;clear bR ME aS kY P1 K1 F1;go_wp2;go_ret;refine⟨_,_,_,rfl,P2,F2,?_⟩;rw[HA.o];rcases D2.o with⟨h1,s,h2,h3⟩|⟨h1,h2⟩
    ·exact .inl ⟨h1,.one s,w.heap.size,by rw[h3],rfl,by have:=K2.o;rw[h2]at this;exact this⟩
    exact .inr ⟨h1,by rw[h2]⟩
   case false =>
    have f91:(((hb t).toNat:Int)==91)=false:=Sm.trans My;clear Sm;cases wM:(hb t==92)
    case true =>
     have f92:(((hb t).toNat:Int)==92)=true:=zU.trans wM;clear zU;obtain⟨c,r,rfl⟩:∃c r,t=c::r:=by
      cases t with
      | nil=>exact absurd wM (by decide)
      | cons c r=>exact⟨c,r,rfl⟩
     have yo:c=92:=by simpa[hb] using wM
     subst yo;simp only[a1z,a1J,a1y,a2r]at P1 pc;have HA:=aj (agV k d r);go_wp2_with fail
     refine(jk b r true w1 P1).mono ?_;rintro e w2 ⟨rfl,bR,aS⟩;have P2:=aj bR;have K2:=aj (K1.o.aB aS Sl);have F2:=aj (F1.o.trans aS);clear bR aS P1 K1 F1;rw[rV];have r8:=(hb r).toNat_lt;have z2:=K2.o.fz (1+(hb r).toNat);have N3:=aj (RK.byte (hb r) K2);have P3:=aj (P2.o.aB ((aA.refl [w.heap.size] w2).setCell (p:=⟨w.heap.size,1+(hb r).toNat,none⟩) (.inl (by simp)) (.bool true)) Jn);have F3:=aj (F2.o.setCell (p:=⟨w.heap.size,1+(hb r).toNat,none⟩) (.inr (a0a _)) (.bool true));have cx:=K2.o.cin (hb r).toNat false (by rw[nF,a2v,a0j (by omega)]);go_wp2;go_ret;refine⟨_,_,_,rfl,P3,F3,?_⟩;rw[HA.o];cases r with
     | nil=>exact .inr ⟨rfl,rfl⟩
     | cons e r=>exact .inl ⟨rfl,.one (2 ^ e.toNat),w.heap.size,rfl,rfl,N3⟩
    case false =>
     have f92:(((hb t).toNat:Int)==92)=false:=zU.trans wM;clear zU;have A:=aj (tN (hb t) spL w1 (by decide));rw[agU,anr (hb t) My MC]at A;go_wp2_with fail
     refine(A.o).mono ?_;rintro e w2 ⟨rfl,rfl⟩;have HA:=aj (aet k d OY My MC wM);have z2:=K1.o.fz (1+(hb t).toNat);have cx:=K1.o.cin (hb t).toNat false (by rw[nF,a2v,a0j (by omega)]);cases xX:gL (hb t)
     case false =>
      have N3:=aj (RK.byte (hb t) K1);have P3:=aj (P1.o.aB ((aA.refl [w.heap.size] w1).setCell (p:=⟨w.heap.size,1+(hb t).toNat,none⟩) (.inl (by simp)) (.bool true)) Jn);have F3:=aj (F1.o.setCell (p:=⟨w.heap.size,1+(hb t).toNat,none⟩) (.inr (a0a _)) (.bool true));go_wp2;go_ret;refine⟨_,_,_,rfl,P3,F3,?_⟩;rw[HA.o,xX];cases t with
      | nil=>exact .inr ⟨rfl,rfl⟩
      | cons c r=>exact .inl ⟨rfl,.one (2 ^ c.toNat),w.heap.size,rfl,rfl,N3⟩
     case true =>
      have P2:=aj P1.o.off;have bL:w.heap.size≠b:=by omega
      have K2:=aj (K1.o.aB ((aA.refl [b] w1).setCell (p:=⟨b,1,none⟩) (.inl (by simp)) (.bool false)) Sl);have z3:=K2.o.fz (1+(hb t).toNat);have cx3:=K2.o.cin (hb t).toNat false (by rw[nF,a2v,a0j (by omega)]);have P3:=aj (P2.o.aB ((aA.refl [w.heap.size] _).setCell (p:=⟨w.heap.size,1+(hb t).toNat,none⟩) (.inl (by simp)) (.bool true)) Jn);have F3:=aj ((F1.o.setCell (p:=⟨b,1,none⟩) (.inl (by simp)) (.bool false)).setCell (p:=⟨w.heap.size,1+(hb t).toNat,none⟩) (.inr (a0a _)) (.bool true));go_wp2;go_ret;refine⟨_,_,_,rfl,P3,F3,.inr ⟨rfl,?_⟩⟩;rw[HA.o,xX];simp
theorem acd(b:Nat)(q:Option Addr)(t:LB)(w:World)(h:QP w b t false) :
 Calls Tryz.prog 67 #[.pointer (some ⟨b,0,none⟩),.pointer q] w λe w'=>e=.returned (.pointer q)/\w=w':=by
 have c1:=h.c1;clear h;go_enter Tryz.func67,Tryz.ntmps67
 go_wp2_with fail
 go_loopg [1] 1 (λk v1 wr=>k=1/\v1=.pointer q/\wr=w)
 case atStart=>exact⟨rfl,rfl,rfl⟩
 case round =>
  obtain⟨hk,rfl,rfl⟩:=hrel;go_wp2;go_ret;exact⟨rfl,rfl⟩
theorem ama(k:Int)(q1 q2:Option Addr):((Tryz.zeroCells139.setIfInBounds 0 (.int .i64 k)).setIfInBounds 257 (.pointer q1)).setIfInBounds 258 (.pointer q2)=EJ k nF (.pointer q1) (.pointer q2) 0 0:=by kernel_rfl
theorem ant:Tryz.zeroCells139.setIfInBounds 0 (.int .i64 0)=EJ 0 nF (.pointer none) (.pointer none) 0 0:=by kernel_rfl
theorem aiC(k d:Nat)(acc:List RX)(t:LB):iT (k+1) d acc t=if qK t then some (.seq acc,t) else match gz k d t with | none=>none|some (x,r)=>match dF (r.length+1) x r with | none=>none|some (y,r2)=>iT k d (acc++[y]) r2:=by
 conv=>lhs;unfold iT
 rfl
theorem ace(k d:Nat)(acc:List RX)(t:LB):gX (k+1) d acc t=match iT k d [] t with | none=>none|some (x,r)=>if bf 124 r then gX k d (acc++[x]) r.tail else some (.alt (acc++[x]),r):=by
 conv=>lhs;unfold gX
 rfl
theorem acf(acc:List RX)(y:RX):jl (.seq (acc++[y]))=.both (jl (.seq acc)) (jl y):=by simp only[jl];exact Zb acc _ y
theorem acg {acc:List RX}(h:acc≠[])(y:RX):jl (.alt (acc++[y]))=.either (jl (.alt acc)) (jl y):=by simp only[jl];exact aer h y
theorem Zd(y:RX):jl (.alt [y])=jl y:=by simp only[jl,Ce,DF]
theorem agW(hS:∀j,j<k->SgC j):RwC k:=by
 intro b d t w h hd hk;have H:=aj h;have UM:=h.lt;clear h;obtain⟨R0,Ch⟩:∃R0,iT k d [] t=R0:=⟨_,rfl⟩;rw[Ch];have HR0:=aj Ch;clear Ch;go_enter Tryz.func51,Tryz.ntmps51
 go_wp2_with fail
 go_loopg [5] (k+1) (λg v5 wr=>∃(q:Option Addr) (r:LB) (ok:Bool),v5=.pointer q/\QP wr b r ok/\aA [b] w wr/\((ok=true/\∃acc n kk,q=some ⟨n,0,none⟩/\RN wr n (jl (.seq acc))/\g=kk+1/\kk<=k/\4*r.length+3<=kk/\iT kk d acc r=R0)\/(ok=false/\1<=g/\R0=none)))
 case atStart=>exact⟨_,t,true,rfl,H.o.aB ((aA.refl [] w).alloc _) (by simp),(aA.refl _ _).alloc _,.inl ⟨rfl,[],w.heap.size,k,rfl,RK.of ant oM,rfl,a0a _,hk,HR0⟩⟩
 case round =>
  clear H HR0;obtain⟨q,r,ok,rfl,hp,hf,nA⟩:=hrel;have P:=aj hp;have F:=aj hf;have c1:=hp.c1;clear hp hf;go_wp2_with fail
  refine(tV b r ok wr P).mono ?_;rintro e w1 ⟨rfl,rfl⟩;rw[rV];have h8:=(hb r).toNat_lt;have qd:=yn (hb r) 124 (by decide);have e41:=yn (hb r) 41 (by decide);have JI:=fE 124 (by decide) r;have h41:=fE 41 (by decide) r;cases ok
  case false =>
   have HR:R0=none:=by
    rcases nA with⟨h,_⟩|⟨_,_,h⟩
    ·cases h
    exact h
   clear nA JI h41;have fin:Z_ (QX b w R0 (.returned (.pointer q)) wr):=⟨q,r,false,rfl,P,F,.inr ⟨rfl,HR⟩⟩;clear HR;cases ry:r.isEmpty
   ·cases nP:(hb r==124)
    ·have f124:(((hb r).toNat:Int)==124)=false:=qd.trans nP
     cases xW:(hb r==41)
     ·have f41:(((hb r).toNat:Int)==41)=false:=e41.trans xW
      go_wp2;go_ret;exact fin
     have f41:(((hb r).toNat:Int)==41)=true:=e41.trans xW;go_wp2;go_ret;exact fin
    have f124:(((hb r).toNat:Int)==124)=true:=qd.trans nP;go_wp2;go_ret;exact fin
   go_wp2;go_ret;exact fin
  case true =>
   obtain⟨acc,n,kk,rfl,uO,Mw,hkk,hrk,rW⟩:∃acc n kk,q=some ⟨n,0,none⟩/\RN wr n (jl (.seq acc))/\gk=kk+1/\kk<=k/\4*r.length+3<=kk/\iT kk d acc r=R0:=by
    rcases nA with⟨_,h⟩|⟨h,_⟩
    ·exact h
    cases h
   obtain⟨k2,rfl⟩:∃k2,kk=k2+1:=⟨kk-1,by omega⟩;have X:=aj uO;have HR:=aj rW;clear nA uO rW;rw[aiC]at HR;have fin:Z_ (qK r=true->QX b w R0 (.returned (.pointer (some ⟨n,0,none⟩))) wr):=by
    intro hs;refine⟨_,r,true,rfl,P,F,.inl ⟨rfl,.seq acc,n,?_,rfl,X⟩⟩;rw[<-HR.o,a0j hs]
   have yC:Z_ (qK r=(r.isEmpty||(hb r==124)||(hb r==41))):=by show _=_;unfold qK;rw[JI,h41]
   clear JI h41;cases ry:r.isEmpty
   case true =>
    have ach:=aj (fin.o (by rw[yC.o,ry];rfl));go_wp2;go_ret;exact ach
   cases nP:(hb r==124)
   case true =>
    have f124:(((hb r).toNat:Int)==124)=true:=qd.trans nP;have ach:=aj (fin.o (by rw[yC.o,nP];simp));go_wp2;go_ret;exact ach
   have f124:(((hb r).toNat:Int)==124)=false:=qd.trans nP;cases xW:(hb r==41)
   case true =>
    have f41:(((hb r).toNat:Int)==41)=true:=e41.trans xW;have ach:=aj (fin.o (by rw[yC.o,xW];simp));go_wp2;go_ret;exact ach
   have f41:(((hb r).toNat:Int)==41)=false:=e41.trans xW;have O0:qK r=false:=by rw[yC.o,ry,nP,xW];rfl
   rw[O0]at HR;simp only[a0n,a0G]at HR;have hlen:1<=r.length:=by cases r<;>simp at ry |-
   clear qd e41 fin yC O0;have HS:=aj (hS k2 (by omega) b d r wr P.o hd (by omega));go_wp2_with fail
   refine(HS.o).mono ?_;rintro e w2 ⟨q2,r2,ok2,rfl,bR,aS,kY⟩;have P2:=aj bR;have F2:=aj (F.o.trans aS);have X2:=aj (X.o.aW (P.o.keepR aS));clear bR aS HS P F X c1;rcases kY with⟨rfl,y,m,hy,rfl,uO⟩|⟨rfl,hno⟩
   ·rw[hy]at HR
    have Ji:=(Fx hy).2;go_wp2_with fail
    refine(acb b y m r2 w2 P2.o uO).mono ?_;rintro e w3 ⟨q3,r3,Yf,rfl,mR,bZ,hd3⟩;have P3:=aj mR;have F3:=aj (F2.o.trans bZ);have X3:=aj (X2.o.aW (P2.o.keepR bZ));have D3:=aj hd3;clear mR bZ hd3 P2 F2 X2 uO;go_wp2;go_roundg (gk-1)
    case measure=>omega
    case rel =>
     refine⟨_,r3,Yf,rfl,P3.o.aB ((aA.refl [] _).alloc _) (by simp),F3.o.alloc _,?_⟩;rcases D3.o with⟨h1,z,m2,h2,h3,h4⟩|⟨h1,h2⟩
     ·subst h3
      have hl3:=(vD h2).2;refine .inl ⟨h1,acc++[z],w3.heap.size,k2,rfl,?_,by omega,by omega,by omega,?_⟩
      ·rw[acf]
       exact⟨n,m2,RK.of (ama _ _ _) oM,X3.o.aW (eU.new _ _),h4.aW (eU.new _ _)⟩
      have:=HR.o;simp only[h2]at this;exact this
     refine .inr ⟨h1,by omega,?_⟩;have:=HR.o;simp only[h2]at this;exact this.symm
   rw[hno]at HR;have nO:Z_ (R0=none):=HR.o.symm;clear HR;go_wp2_with fail
   refine(acd b q2 r2 w2 P2).mono ?_;rintro e w3 ⟨rfl,rfl⟩;go_wp2;go_roundg (gk-1)
   case measure=>omega
   case rel=>exact⟨_,r2,false,rfl,P2.o.aB ((aA.refl [] _).alloc _) (by simp),F2.o.alloc _,.inr ⟨rfl,by omega,nO⟩⟩
theorem aaL(hW:∀j,j<k->RwC j):ChC k:=by
 intro b d t w h hd hk;have H:=aj h;have UM:=h.lt;clear h;obtain⟨R0,Ch⟩:∃R0,gX k d [] t=R0:=⟨_,rfl⟩;rw[Ch];obtain⟨k0,rfl⟩:∃k0,k=k0+1:=⟨k-1,by omega⟩;rw[ace]at Ch;have HR0:=aj Ch;clear Ch;have HW:=aj (hW k0 (by omega) b d t w H.o hd (by omega));go_enter Tryz.func39,Tryz.ntmps39
 go_wp2_with fail
 refine(HW.o).mono ?_;rintro e w1 ⟨q1,r1,ok1,rfl,iw,aZ,iH⟩;have P1:=aj iw;have F1:=aj aZ;have D1:=aj iH;clear iw aZ iH HW H;go_wp2_with fail
 go_loopg [5] (k0+1) (λg v5 wr=>∃(q:Option Addr) (r:LB) (ok:Bool),v5=.pointer q/\QP wr b r ok/\aA [b] w wr/\((ok=true/\∃acc n kk,q=some ⟨n,0,none⟩/\acc≠[]/\RN wr n (jl (.alt acc))/\g=kk+1/\kk<=k0/\4*r.length+3<=kk/\(if bf 124 r then gX kk d acc r.tail else some (.alt acc,r))=R0)\/(ok=false/\1<=g/\R0=none)))
 case atStart =>
  refine⟨q1,r1,ok1,rfl,P1,F1,?_⟩;have:=HR0.o;rcases D1.o with⟨h1,y,n,h2,h3,h4⟩|⟨h1,h2⟩
  ·rw[h2]at this
   have hl:=(wL h2).2;exact .inl ⟨h1,[y],n,k0,h3,by simp,by rw[Zd];exact h4,rfl,a0a _,by omega,this⟩
  rw[h2]at this;exact .inr ⟨h1,by omega,this.symm⟩
 case round =>
  clear P1 F1 D1 HR0;obtain⟨q,r,ok,rfl,hp,hf,nA⟩:=hrel;have P:=aj hp;have F:=aj hf;have c1:=hp.c1;clear hp hf;go_wp2_with fail
  refine(tV b r ok wr P).mono ?_;rintro e w1 ⟨rfl,rfl⟩;rw[rV];have h8:=(hb r).toNat_lt;have qd:=yn (hb r) 124 (by decide);have JI:=fE 124 (by decide) r;cases ok
  case false =>
   have HR:R0=none:=by
    rcases nA with⟨h,_⟩|⟨_,_,h⟩
    ·cases h
    exact h
   clear nA JI;have fin:Z_ (QX b w R0 (.returned (.pointer q)) wr):=⟨q,r,false,rfl,P,F,.inr ⟨rfl,HR⟩⟩;clear HR;cases ry:r.isEmpty
   ·cases nP:(hb r==124)
    ·have f124:(((hb r).toNat:Int)==124)=false:=qd.trans nP
     have aiD:(((hb r).toNat:Int) != 124)=true:=by rw[bne,f124];rfl
     go_wp2;go_ret;exact fin
    have f124:(((hb r).toNat:Int)==124)=true:=qd.trans nP;have aiD:(((hb r).toNat:Int) != 124)=false:=by rw[bne,f124];rfl
    go_wp2;go_ret;exact fin
   go_wp2;go_ret;exact fin
  case true =>
   obtain⟨acc,n,kk,rfl,Ze,uO,Mw,hkk,hrk,rW⟩:∃acc n kk,q=some ⟨n,0,none⟩/\acc≠[]/\RN wr n (jl (.alt acc))/\gk=kk+1/\kk<=k0/\4*r.length+3<=kk/\(if bf 124 r then gX kk d acc r.tail else some (.alt acc,r))=R0:=by
    rcases nA with⟨_,h⟩|⟨h,_⟩
    ·exact h
    cases h
   have X:=aj uO;have HR:=aj rW;clear nA uO rW;rw[JI]at HR;clear JI;cases nP:(hb r==124)
   case false =>
    have f124:(((hb r).toNat:Int)==124)=false:=qd.trans nP;have aiD:(((hb r).toNat:Int) != 124)=true:=by rw[bne,f124];rfl
    rw[nP]at HR;simp only[a0n,a0G]at HR;have fin:Z_ (QX b w R0 (.returned (.pointer (some ⟨n,0,none⟩))) wr):=⟨_,r,true,rfl,P,F,.inl ⟨rfl,.alt acc,n,HR.o.symm,rfl,X⟩⟩;clear HR;cases ry:r.isEmpty
    ·go_wp2
     go_ret;exact fin
    go_wp2;go_ret;exact fin
   have f124:(((hb r).toNat:Int)==124)=true:=qd.trans nP;have aiD:(((hb r).toNat:Int) != 124)=false:=by rw[bne,f124];rfl
   have ry:r.isEmpty=false:=by
    cases r with
    | nil=>exact absurd nP (by decide)
    | cons x q=>rfl
   have hlen:r.tail.length+1=r.length:=by cases r<;>simp at ry |-
   rw[nP]at HR;simp only[a0C]at HR;obtain⟨k2,rfl⟩:∃k2,kk=k2+1:=⟨kk-1,by omega⟩;rw[ace]at HR;clear qd;go_wp2_with fail
   refine(jk b r true wr P).mono ?_;rintro e w2 ⟨rfl,bR,aS⟩;rw[ry]at bR;have P2:=aj bR;have F2:=aj (F.o.trans aS);have X2:=aj (X.o.aW (P.o.keepR aS));clear bR aS P F X c1;have HW:=aj (hW k2 (by omega) b d r.tail w2 P2.o hd (by omega));go_wp2_with fail
   refine(HW.o).mono ?_;rintro e w3 ⟨q3,r3,Yf,rfl,mR,bZ,hd3⟩;have P3:=aj mR;have F3:=aj (F2.o.trans bZ);have X3:=aj (X2.o.aW (P2.o.keepR bZ));have D3:=aj hd3;clear mR bZ hd3 P2 F2 X2 HW;go_wp2;go_roundg (gk-1)
   case measure=>omega
   case rel =>
    refine⟨_,r3,Yf,rfl,P3.o.aB ((aA.refl [] _).alloc _) (by simp),F3.o.alloc _,?_⟩;have hR:=HR.o;rcases D3.o with⟨h1,z,m2,h2,h3,h4⟩|⟨h1,h2⟩
    ·subst h3
     have hl3:=(wL h2).2;rw[h2]at hR;refine .inl ⟨h1,acc++[z],w3.heap.size,k2,rfl,by simp,?_,by omega,by omega,by omega,hR⟩;rw[acg Ze];exact⟨n,m2,RK.of (ama _ _ _) oM,X3.o.aW (eU.new _ _),h4.aW (eU.new _ _)⟩
    rw[h2]at hR;exact .inr ⟨h1,by omega,hR.symm⟩
theorem aaM:∀k,ChC k/\RwC k/\SgC k:=by
 intro k
 induction k using Nat.strongRecOn with
 | _ k ih =>
   refine⟨aaL λj hj=>(ih j hj).2.1,agW λj hj=>(ih j hj).2.2,?_⟩;cases k with
   | zero=>intro b d t w h hd hk;omega
   | succ k=>exact aaK (ih k (by omega)).1
def Sn:TR->Prop
 | .nil=>True
 | .one _=>True
 | .both a b=>Sn a/\Sn b
 | .either a b=>Sn a/\Sn b
 | .often a lo hi=>Sn a/\lo<=9/\(∀n,hi=some n->n<=9)
mutual
theorem MF:∀(e:RX),rM e->Sn (jl e)
 | .one s,_=>trivial
 | .seq l,h=>by simp only[jl];exact aiE l .nil trivial h
 | .alt l,h=>alm l h
 | .rep x lo hi,h=>⟨MF x h.1,h.2⟩
theorem aiE:∀(l:List RX) (r:TR),Sn r->lz l->Sn (Dz r l)
 | [],r,hr,_=>by simp only[Dz];exact hr
 | x::l,r,hr,h=>by simp only[Dz];exact aiE l _ ⟨hr,MF x h.1⟩ h.2
theorem alm:∀(l:List RX),lz l->Sn (Ce l)
 | [],_=>trivial
 | x::l,h=>by simp only[Ce];exact aiF l _ (MF x h.1) h.2
theorem aiF:∀(l:List RX) (r:TR),Sn r->lz l->Sn (DF r l)
 | [],r,hr,_=>by simp only[DF];exact hr
 | x::l,r,hr,h=>by simp only[DF];exact aiF l _ ⟨hr,MF x h.1⟩ h.2
end
theorem aci(x:TR)(lo:Nat)(hi:Option Nat)(m:Nat)(h:(je x).1*times lo hi=m):(40<m->je (.often x lo hi)=(41,false))/\(¬ 40<m->je (.often x lo hi)=(m,(je x).2)):=by
 subst h;exact⟨λh=>by simp only[je];rw[a0j h],λh=>by simp only[je];rw[a0g h]⟩
def PcC(t:TR):Prop:=∀(w:World) (p:Nat),RN w p t->Sn t ->
 Calls Tryz.prog 40 #[.pointer (some ⟨p,0,none⟩)] w λe w'=>e=.returned (.tuple #[.int .i64 ((je t).1:Nat),.bool (je t).2])/\w=w'
theorem rA:∀t:TR,PcC t
 | .nil=>by
   intro w p h hd;have c0:=RK.c0 h;go_enter Tryz.func40,Tryz.ntmps40
   go_wp2;go_ret2;exact⟨rfl,rfl⟩
 | .one s=>by
   intro w p h hd;have c0:=RK.c0 h;go_enter Tryz.func40,Tryz.ntmps40
   go_wp2;go_ret2;exact⟨rfl,rfl⟩
 | .both x y=>by
   intro w p h hd;obtain⟨a,b,hk,hx,hy⟩:=h;have c0:=hk.c0;obtain⟨ca,cb,_,_⟩:=hk.ends;have A:=aj (rA x w a hx hd.1);have B:=aj (rA y w b hy hd.2);have a41:=(nN x).1;have b41:=(nN y).1;have Hp:Z_ (je (.both x y)=if 40<(je x).1+(je y).1 then (41,false) else ((je x).1+(je y).1,(je x).2&&(je y).2)):=rfl;clear hk hx hy hd;generalize je x=px at *;generalize je y=py at *;obtain⟨n1,b1⟩:=px;obtain⟨n2,b2⟩:=py;simp only[]at a41 b41 A B Hp;unfold pq at ca cb;go_enter Tryz.func40,Tryz.ntmps40
   go_wp2_with fail
   refine(A.o).mono ?_;rintro e w1 ⟨rfl,rfl⟩;go_wp2_with fail
   refine(B.o).mono ?_;rintro e w1 ⟨rfl,rfl⟩
   by_cases hg:40<n1+n2
   ·cases b1
    all_goals
     go_wp2;go_ret2;rw[Hp.o,a0j hg];exact⟨rfl,rfl⟩
   cases b1
   all_goals
    go_wp2;go_ret2;rw[Hp.o,a0g hg];exact⟨by first | rfl|(simp;done)|go_num,rfl⟩
 | .either x y=>by
   intro w p h hd;obtain⟨a,b,hk,hx,hy⟩:=h;have c0:=hk.c0;obtain⟨ca,cb,_,_⟩:=hk.ends;have A:=aj (rA x w a hx hd.1);have B:=aj (rA y w b hy hd.2);have a41:=(nN x).1;have b41:=(nN y).1;have Hp:Z_ (je (.either x y)=if 40<(je x).1+(je y).1 then (41,false) else ((je x).1+(je y).1,(je x).2&&(je y).2)):=rfl;clear hk hx hy hd;generalize je x=px at *;generalize je y=py at *;obtain⟨n1,b1⟩:=px;obtain⟨n2,b2⟩:=py;simp only[]at a41 b41 A B Hp;unfold pq at ca cb;go_enter Tryz.func40,Tryz.ntmps40
   go_wp2_with fail
   refine(A.o).mono ?_;rintro e w1 ⟨rfl,rfl⟩;go_wp2_with fail
   refine(B.o).mono ?_;rintro e w1 ⟨rfl,rfl⟩
   by_cases hg:40<n1+n2
   ·cases b1
    all_goals
     go_wp2;go_ret2;rw[Hp.o,a0j hg];exact⟨rfl,rfl⟩
   cases b1
   all_goals
    go_wp2;go_ret2;rw[Hp.o,a0g hg];exact⟨by first | rfl|(simp;done)|go_num,rfl⟩
 | .often x lo hi=>by
   intro w p h hd;obtain⟨a,hk,hx⟩:=h;have c0:=hk.c0;obtain⟨ca,_,cl,ch⟩:=hk.ends;have A:=aj (rA x w a hx hd.1);have a41:=(nN x).1;have l7:=hd.2.1;have zV:=hd.2.2;clear hk hx hd;unfold pq at ca;cases hi with
   | none =>
     simp only[hiT]at ch;have hm:(je x).1*(lo+1)<=41*10:=a0E a41 (by omega);have UN:((je x).1:Int)*((lo:Int)+1)=(((je x).1*(lo+1):Nat):Int):=by simp
     obtain⟨m,hm0⟩:∃m,(je x).1*(lo+1)=m:=⟨_,rfl⟩;have HP:=aj (aci x lo none m hm0);rw[hm0]at hm UN;clear hm0;generalize je x=px at *;obtain⟨n1,b1⟩:=px;simp only[]at a41 A HP UN;go_enter Tryz.func40,Tryz.ntmps40
     go_wp2_with fail
     refine(A.o).mono ?_;rintro e w1 ⟨rfl,rfl⟩
     by_cases hg:40<m
     ·have HP2:=aj (HP.o.1 hg)
      go_wp2;go_ret2;rw[HP2.o];exact⟨rfl,rfl⟩
     have HP2:=aj (HP.o.2 hg);go_wp2;go_ret2;rw[HP2.o];exact⟨by first | rfl|(simp;done)|go_num,rfl⟩
   | some k =>
     have hk9:=zV k rfl;simp only[hiT]at ch;have hm:(je x).1*k<=41*10:=a0E a41 (by omega);have UN:((je x).1:Int)*(k:Int)=(((je x).1*k:Nat):Int):=by simp
     obtain⟨m,hm0⟩:∃m,(je x).1*k=m:=⟨_,rfl⟩;have HP:=aj (aci x lo (some k) m hm0);rw[hm0]at hm UN;clear hm0 zV;generalize je x=px at *;obtain⟨n1,b1⟩:=px;simp only[]at a41 A HP UN;go_enter Tryz.func40,Tryz.ntmps40
     go_wp2_with fail
     refine(A.o).mono ?_;rintro e w1 ⟨rfl,rfl⟩
     by_cases hg:40<m
     ·have HP2:=aj (HP.o.1 hg)
      go_wp2;go_ret2;rw[HP2.o];exact⟨rfl,rfl⟩
     have HP2:=aj (HP.o.2 hg);go_wp2;go_ret2;rw[HP2.o];exact⟨by first | rfl|(simp;done)|go_num,rfl⟩
end Go.Proofs.YtgbdcmpmmkfbhaaGreat
