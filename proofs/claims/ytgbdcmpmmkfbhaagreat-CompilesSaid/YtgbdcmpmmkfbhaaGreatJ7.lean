import Derived.Test.YtgbdcmpmmkfbhaaGreatJ6
import Derived.Test.YtgbdcmpmmkfbhaaGreatJ5
import Derived.Test.YtgbdcmpmmkfbhaaGreatJ1
import Derived.Lib.ItoaNum
set_option linter.unusedVariables false
set_option linter.unusedSimpArgs false
set_option linter.unnecessarySimpa false
set_option maxRecDepth 100000
set_option maxHeartbeats 8000000
namespace Go.Proofs.YtgbdcmpmmkfbhaaGreat
variable {S:LN} {w w':World} {R:List RV} {C:List CR} {base' cap n rb:Nat} {v vr vt:Value} {ln:Int} {tmps:Array Value} {e:TypeId} {xs:List Value} {α:Type} {a:Option Addr}
open Go.RowKit
def oH(base:Nat)(w:World)(R:List RV)(C:List CR):Prop:=R.length=C.length/\∀(i:Nat) (rv:RV) (c:CR),R[i]?=some rv->C[i]?=some c->Ew base w rv c
theorem oH.aB {base:Nat}(h:oH base w R C)(f:aA S w w')(hS:Apart w base S):oH base w' R C :=
 ⟨h.1,λi rv c h1 h2=>(h.2 i rv c h1 h2).aB f hS⟩
theorem oH.nil(base:Nat)(w:World):oH base w [] []:=⟨rfl,λi rv c h=>by simp at h⟩
theorem oH.snoc {base:Nat} {rv:RV} {c:CR}(h:oH base w R C)(h1:Ew base w rv c):oH base w (R++[rv]) (C++[c]):=by
 refine⟨by simp[h.1],λi rv' c' h2 h3=>?_⟩
 by_cases hi:i<R.length
 ·rw[a0u hi]at h2
  rw[a0u (by rw[<-h.1];exact hi)]at h3;exact h.2 i rv' c' h2 h3
 rw[a0R (by omega)]at h2;rw[a0R (by rw[<-h.1];omega)]at h3;rw[<-h.1]at h3;have hz:i-R.length=0:=by
  by_cases hz:i-R.length=0
  ·exact hz
  rw[a1W (by simp;omega)]at h2;cases h2
 rw[hz]at h2 h3;simp at h2 h3;subst h2 h3;exact h1
theorem oH.base{base:Nat}(h:oH base w R C)(hb:base'<=base):oH base' w R C :=
 ⟨h.1,λi rv c h1 h2=>(h.2 i rv c h1 h2).base hb⟩
def wh:LB->Nat->LB->List LB->List CR->Except Nat (List LB × List CR)
 | [],ln,cur,R,C=>if !(cur.isEmpty)||ln==1 then .error ln else .ok (R,C)
 | c::r,ln,cur,R,C =>
   if c==10 then
    (if ln==1 then (match iy cur with | none=>.error 1|some R'=>wh r 2 [] R' C)
     else (match fI cur with | none=>.error ln|some x=>wh r (ln+1) [] R (C++[x])))
   else wh r ln (cur++[c]) R C
def mD(t:LB):Except Nat (List LB × List CR):=wh t 1 [] [] []
theorem Zm {cb:Nat}(h:CB w cb vr vt):(loadVar 38 ⟨cb,0,none⟩).run Tryz.prog w=.ok (.agg #[vr,vt]) w:=by
 have h0:=h.c0;have h1:=h.c1;simp[go_sem,h0,h1]
theorem qP(h:CB w rb vr vt)(h2:tmps.getD 2 undef=.pointer (some ⟨rb,0,none⟩))(h3:tmps.getD 3 undef=.int .i64 ln) :
 (results Tryz.f11 tmps).run Tryz.prog w=.ok (.tuple #[.agg #[vr,vt],.int .i64 ln]) w:=by
 rw[results_cell_tmp Tryz.results11,h2,h3];simp[asAddr,Zm h]
theorem RL.aB {base:Nat}(h:RL base w v R)(f:aA S w w')(hS:∀k,k∈S->k<base):RL base w' v R:=ek h f hS
theorem DW {base:Nat} {size:Nat}(h:w.ownsRow base e size v n xs)(k:Nat)(hk:v.ownBlock=some k):∃cur fz,w.heap[k]?=some (.cells cur e fz):=by
 rcases h.2 with⟨rfl,_⟩|⟨g,cap,cur,rfl,hb,hg,_⟩
 ·simp[Value.ownBlock]at hk
 simp[Value.ownBlock]at hk;subst hk;exact⟨cur,_,hg⟩
theorem uF{base:Nat} {size:Nat}(h:w.ownsRow base e size v n xs)(hb:base'<=base):w.ownsRow base' e size v n xs:=by
 refine⟨h.1,?_⟩;rcases h.2 with hn|⟨g,cap,cur,rfl,hg,rest⟩
 ·exact .inl hn
 exact .inr ⟨g,cap,cur,rfl,by omega,rest⟩
def ag0(base:Nat)(w:World)(vr vt:Value)(ln:Int):Except Nat (List LB × List CR)->Prop
 | .error n=>vr=.slice none 0 0/\vt=.slice none 0 0/\ln=n/\1<=n
 | .ok (R,C)=>ln=0/\SL base w vr R/\∃vX,RL base w vt vX/\oH base w vX C/\vX.length<=1048576
theorem Vp(t:LB)(w:World)(ht:t.length<=1040000) :
 Calls Tryz.prog 11 #[.string (bs t)] w λe w'=>aA [] w w'/\∃vr vt ln,e=.returned (.tuple #[.agg #[vr,vt],.int .i64 ln])/\ag0 w.heap.size w' vr vt ln (mD t):=by
 have fM:=bS t;have hx:=qF t;have j6:CB ((w.alloc (Obj.cells #[.slice none 0 0,.slice none 0 0] 38)).alloc (Obj.cells #[.slice none 0 0,.slice none 0 0] 38)) w.heap.size (.slice none 0 0) (.slice none 0 0):=by
  unfold CB;rw[Below.heap_alloc _ _ _ (by simp)];exact heap_alloc_new w _
 have mV:CB ((w.alloc (Obj.cells #[.slice none 0 0,.slice none 0 0] 38)).alloc (Obj.cells #[.slice none 0 0,.slice none 0 0] 38)) (w.heap.size+1) (.slice none 0 0) (.slice none 0 0):=by
  unfold CB;have:=heap_alloc_new (w.alloc (Obj.cells #[.slice none 0 0,.slice none 0 0] 38)) (Obj.cells #[.slice none 0 0,.slice none 0 0] 38);rw[<-this];simp
 have B0:=j6;have vG:Z_ (CB ((w.alloc (Obj.cells #[.slice none 0 0,.slice none 0 0] 38)).alloc (Obj.cells #[.slice none 0 0,.slice none 0 0] 38)) w.heap.size (.slice none 0 0) (.slice none 0 0)):=j6;have HB1:Z_ (CB ((w.alloc (Obj.cells #[.slice none 0 0,.slice none 0 0] 38)).alloc (Obj.cells #[.slice none 0 0,.slice none 0 0] 38)) (w.heap.size+1) (.slice none 0 0) (.slice none 0 0)):=mV;clear j6 mV B0;go_enter Tryz.func11,Tryz.ntmps11
 go_wp2_with fail
 go_loopg [5,6,7] t.length (λk vl vs vi wr=>∃(ln st ii:Nat) (L:List LB) (vr vt:Value) (C:List CR) (R:List RV),ii+k=t.length/\st<=ii/\1<=ln/\ln<=ii+1/\vl=.int .i64 ln/\vs=.int .i64 st/\vi=.int .i64 ii /\
  CB wr (w.heap.size+1) vr vt/\CB wr w.heap.size (.slice none 0 0) (.slice none 0 0)/\SL (w.heap.size+2) wr vr L/\RL (w.heap.size+2) wr vt R/\oH (w.heap.size+2) wr R C/\R.length<=ln/\wh (t.drop ii) ln ((t.take ii).drop st) L C=mD t/\aA [] w wr/\w.heap.size+2<=wr.heap.size)
 case atStart=>exact⟨1,0,0,[],_,_,[],[],by omega,by omega,by omega,by omega,rfl,rfl,rfl,HB1,vG,SL.nil _ _,RL.nil _ _,oH.nil _ _,by simp,rfl,((aA.refl _ _).alloc _).alloc _,by simp⟩
 case round =>
 obtain⟨ln,st,ii,L,vr,vt,C,R,hk,dM,sH,Ji,rfl,rfl,rfl,jX,ko,pF,KQ,KW,uO,gP,bU,hz⟩:=hrel;have KC:Z_ (CB wr (w.heap.size+1) vr vt):=jX;have KR:Z_ (CB wr w.heap.size (.slice none 0 0) (.slice none 0 0)):=ko;have KS:Z_ (SL (w.heap.size+2) wr vr L):=pF;have KL:Z_ (RL (w.heap.size+2) wr vt R):=KQ;have KP:Z_ (oH (w.heap.size+2) wr R C):=KW;have KG:Z_ (wh (t.drop ii) ln ((t.take ii).drop st) L C=mD t):=gP;have KF:Z_ (aA [] w wr):=bU;clear jX ko pF KQ KW gP bU vG HB1
 by_cases aO:ii<t.length
 ·have aia:(bs t)[ii]'(by rw[fM];omega)=t[ii]:=rfl
  have Hd:Z_ (t.drop ii=t[ii]::t.drop (ii+1)):=a0q aO;have Ht:Z_ (t.take (ii+1)=t.take ii++[t[ii]]):=a0I aO;generalize t[ii]=c at *
  by_cases hc:(c==10)=true
  ·have nL:((c.toNat:Int) != 10)=false:=by
    have:c=10:=by simpa using hc
    subst this;rfl
   by_cases hl:ln=1
   ·subst hl
    have DX:Z_ (mD t=(match iy ((t.take ii).drop st) with | none=>.error 1|some R'=>wh (t.drop (ii+1)) 2 [] R' C)):=by
     show _=_;rw[<-KG.o,Hd.o];conv=>lhs;unfold wh
     rw[hc];rfl
    go_wp2_with fail
    refine(Yj (w.heap.size+1) ((t.take ii).drop st) vr vt wr (by simp;omega) KC).mono ?_;rintro e w1 ⟨aZ,rfl,vr',L',Vq,lK,hL⟩;have Pj:Z_ (CB w1 w.heap.size (.slice none 0 0) (.slice none 0 0)):=KR.o.aB aZ (by simp);have Vr:Z_ (aA [] w w1):=KF.o.new aZ (by simp);have fT:w.heap.size+2<=w1.heap.size:=by have:=aZ.size;omega
    cases hR:iy ((t.take ii).drop st) with
    | none =>
      rw[hR]at DX;have d0:=Pj.o.c0;have d1:=Pj.o.c1;have df:=Pj.o.fz;clear aZ Vq lK hL;simp only[Option.isSome_none];go_wp2;refine bodyPost_ret (qP (vr:=.slice none 0 0) (vt:=.slice none 0 0) (ln:=1) (rb:=w.heap.size) ?_ (by rfl) (by rfl)) rfl ?_
      ·exact(Pj.o.set0 _).set1 _
      refine⟨(Vr.o.setCell (by simp) _).setCell (by simp) _,_,_,_,rfl,?_⟩;rw[DX.o];exact⟨rfl,rfl,rfl,a0a _⟩
    | some R' =>
      rw[hR]at DX;obtain rfl:=hL R' hR;have KC1:Z_ (CB w1 (w.heap.size+1) vr' vt):=Vq;have KS1:Z_ (SL (w.heap.size+2) w1 vr' L'):=lK.base hz;have KL1:Z_ (RL (w.heap.size+2) w1 vt R):=KL.o.aB aZ (by simp);have KP1:Z_ (oH (w.heap.size+2) w1 R C):=KP.o.aB aZ (by intro k hk;simp at hk;exact Or.inl (by omega));clear aZ Vq lK hL hR KC KR KS KL KP KF;simp only[Option.isSome_some];go_wp2;go_roundg (gk-1)
      case measure=>omega
      case rel =>
       refine⟨2,ii+1,ii+1,L',vr',vt,C,R,by omega,by omega,by omega,by omega,by go_num,by go_num,by go_num,KC1,Pj,KS1,KL1,KP1,by omega,?_,Vr,fT⟩;have he:(t.take (ii+1)).drop (ii+1)=[]:=a0p (by rw[a1q];omega);rw[DX.o,he]
   have DX:Z_ (mD t=(match fI ((t.take ii).drop st) with | none=>.error ln|some x=>wh (t.drop (ii+1)) (ln+1) [] L (C++[x]))):=by
    show _=_;rw[<-KG.o,Hd.o];conv=>lhs;unfold wh
    rw[hc,a0j rfl,a0g (by simpa using hl)]
   have hl':((ln:Int)==1)=false:=a0k.2 (by omega);go_wp2_with fail
   refine(Yl (w.heap.size+1) (w.heap.size+2) ln ((t.take ii).drop st) vr vt R wr (by simp;omega) KC.o KL.o (by omega) (by omega) hz hl').mono ?_;rintro e w1 ⟨aZ,rfl,vt',rv,Vq,ai0,kz⟩;have Pj:Z_ (CB w1 w.heap.size (.slice none 0 0) (.slice none 0 0)):=KR.o.aB aZ (by
    simp only[a0l,a0H,not_or];exact⟨by omega,λe=>by have:=(KL.o.lt _ e).1;omega⟩)
   have Vr:Z_ (aA [] w w1):=KF.o.new aZ (by
    simp only[a0l,a0H];rintro x (rfl|e)
    ·omega
    have:=(KL.o.lt _ e).1;omega)
   have fT:w.heap.size+2<=w1.heap.size:=by have:=aZ.size;omega
   cases hR:fI ((t.take ii).drop st) with
   | none =>
     rw[hR]at DX;have d0:=Pj.o.c0;have d1:=Pj.o.c1;have df:=Pj.o.fz;clear aZ Vq ai0 kz;simp only[Option.isSome_none];go_wp2;refine bodyPost_ret (qP (vr:=.slice none 0 0) (vt:=.slice none 0 0) (ln:=ln) (rb:=w.heap.size) ?_ (by rfl) (by rfl)) rfl ?_
     ·exact(Pj.o.set0 _).set1 _
     refine⟨(Vr.o.setCell (by simp) _).setCell (by simp) _,_,_,_,rfl,?_⟩;rw[DX.o];exact⟨rfl,rfl,rfl,sH⟩
   | some x =>
     rw[hR]at DX;have Jr:Apart wr (w.heap.size+2) ((w.heap.size+1)::vt.ownBlock.toList):=by
      intro k hk;simp only[a0l,a0H]at hk;rcases hk with rfl|e
      ·exact Or.inl (by omega)
      obtain⟨cur,fz,h1⟩:=DW KL.o k e;exact Or.inr ⟨cur,_,fz,h1,by decide,by decide⟩
     have KC1:Z_ (CB w1 (w.heap.size+1) vr vt'):=Vq;have KS1:Z_ (SL (w.heap.size+2) w1 vr L):=jb KS.o aZ (λk hk=>(Jr k hk).imp id (λ⟨a,b,c,d,e⟩=>⟨a,b,c,d,e.1⟩));have KL1:Z_ (RL (w.heap.size+2) w1 vt' (R++[rv])):=ai0;have KP1:Z_ (oH (w.heap.size+2) w1 (R++[rv]) (C++[x])):=(KP.o.aB aZ Jr).snoc ((kz x hR).base hz);clear aZ Vq ai0 kz hR KC KR KS KL KP KF;simp only[Option.isSome_some];go_wp2;go_roundg (gk-1)
     case measure=>omega
     case rel =>
      refine⟨ln+1,ii+1,ii+1,L,vr,vt',C++[x],R++[rv],by omega,by omega,by omega,by omega,by go_num,by go_num,by go_num,KC1,Pj,KS1,KL1,KP1,by simp;omega,?_,Vr,fT⟩;have he:(t.take (ii+1)).drop (ii+1)=[]:=a0p (by rw[a1q];omega);rw[DX.o,he]
  have nL:((c.toNat:Int) != 10)=true:=by
   rw[a1O];intro h;apply hc;have:c.toNat=10:=by omega
   have:c=10:=a1w.1 this;subst this;rfl
  have DX:Z_ (wh (t.drop (ii+1)) ln ((t.take (ii+1)).drop st) L C=mD t):=by
   show _=_;rw[<-KG.o,Hd.o];conv=>rhs;unfold wh
   rw[a0g hc,Ht.o,a2t (by simp;omega)]
  go_wp2;go_roundg (gk-1)
  case measure=>omega
  case rel =>
   exact⟨ln,st,ii+1,L,vr,vt,C,R,by omega,by omega,by omega,by omega,rfl,rfl,by go_num,KC,KR,KS,KL,KP,uO,DX,KF,hz⟩
 have DX:Z_ (mD t=if !((t.drop st).isEmpty)||ln==1 then .error ln else .ok (L,C)):=by
  show _=_;rw[<-KG.o,a0p (by omega),a0D (by omega)];rfl
 have d0:=KR.o.c0;have d1:=KR.o.c1;have df:=KR.o.fz
 by_cases hs:st<t.length
 ·have Ya:decide ((st:Int)<(t.length:Int))=true:=a0h (by omega)
  have Hg3:Z_ (mD t=.error ln):=by
   show _=_;rw[DX.o];have:(t.drop st).isEmpty=false:=by simpa using hs
   rw[this];rfl
  go_wp2;refine bodyPost_ret (qP (vr:=.slice none 0 0) (vt:=.slice none 0 0) (ln:=ln) (rb:=w.heap.size) ?_ (by rfl) (by rfl)) rfl ?_
  ·exact(KR.o.set0 _).set1 _
  refine⟨(KF.o.setCell (by simp) _).setCell (by simp) _,_,_,_,rfl,?_⟩;rw[Hg3.o];exact⟨rfl,rfl,rfl,sH⟩
 have Ya:decide ((st:Int)<(t.length:Int))=false:=a0f (by omega);have he:(t.drop st).isEmpty=true:=by simpa using hs
 by_cases hl:ln=1
 ·subst hl
  have Hg3:Z_ (mD t=.error 1):=by
   show _=_;rw[DX.o];simp
  go_wp2;refine bodyPost_ret (qP (vr:=.slice none 0 0) (vt:=.slice none 0 0) (ln:=1) (rb:=w.heap.size) ?_ (by rfl) (by rfl)) rfl ?_
  ·exact(KR.o.set0 _).set1 _
  refine⟨(KF.o.setCell (by simp) _).setCell (by simp) _,_,_,_,rfl,?_⟩;rw[Hg3.o];exact⟨rfl,rfl,rfl,sH⟩
 have hl':((ln:Int)==1)=false:=a0k.2 (by omega);have Hg3:Z_ (mD t=.ok (L,C)):=by
  show _=_;rw[DX.o,he];have:(ln==1)=false:=by simpa using hl
  rw[this];rfl
 have e0:=KC.o.c0;have e1:=KC.o.c1;obtain⟨a0,n0,rfl⟩:=KS.o.shape;obtain⟨a1,n1,rfl⟩:=aT KL;go_wp2;refine bodyPost_ret (qP (vr:=.slice a0 L.length n0) (vt:=.slice a1 R.length n1) (ln:=0) (rb:=w.heap.size) ?_ (by rfl) (by rfl)) rfl ?_
 ·exact(KR.o.set0 _).set1 _
 have F:aA [w.heap.size] wr ((wr.setCell ⟨w.heap.size,0,none⟩ (.slice a0 L.length n0)).setCell ⟨w.heap.size,1,none⟩ (.slice a1 R.length n1)):=((aA.refl _ _).setCell (by simp) _).setCell (by simp) _;refine⟨(KF.o.setCell (by simp) _).setCell (by simp) _,_,_,_,rfl,?_⟩;rw[Hg3.o];exact⟨rfl,(KS.o.aB F (by simp)).base (by omega),R,uF (KL.o.aB F (by simp)) (by omega),(KP.o.aB F (by intro k hk;simp at hk;exact Or.inl (by omega))).base (by omega),by omega⟩
theorem xK(n:Int)(w:World)(h0:0<=n)(h1:n<=2000000) :
 Calls Tryz.prog 15 #[.int .i64 n] w λe w'=>e=.returned (.int .i64 (n+2))/\w=w':=by
 go_enter Tryz.func15,Tryz.ntmps15
 go_wp2;go_ret;exact⟨rfl,rfl⟩
def jH(d da:Int):Bool:=decide (1<=d)&&decide (d<=5)&&decide (d<=da+1)
def nG(c:CR):Bool:=(c.d==0)&&c.ifs.isEmpty&&!c.co&&!(c.rc == [45])
theorem Vs(rv:RV)(da:Int)(w:World)(h0:0<=da)(h1:da<=2000000)(hb:∃a n c,rv.dP=.slice a n c)(hi:∃a n c,rv.iB=.slice a n c) :
 Calls Tryz.prog 24 #[.agg rv.cells,.int .i64 da] w λe w'=>e=.returned (.bool (jH rv.d da))/\aA [] w w':=by
 obtain⟨d,rc,tb,dP,wt,ev,rp,iB,co⟩:=rv;obtain⟨ab,nb,cb,hb⟩:=hb;obtain⟨ai,ni,ci,hi⟩:=hi;simp only at hb hi;subst hb hi;show Calls Tryz.prog 24 #[.agg #[.int .i64 d,.string (bs rc),.bool tb,.slice ab nb cb,.int .i64 wt,.int .i64 ev,.int .i64 rp,.slice ai ni ci,.bool co],.int .i64 da] w _
 by_cases h2:1<=d
 ·by_cases h3:d<=5
  ·have e2:decide (1<=d)=true:=a0h h2
   have e3:decide (d<=5)=true:=a0h h3;go_enter Tryz.func24,Tryz.ntmps24
   go_wp2;go_ret;exact⟨bT (by simp[jH,e2,e3]),(aA.refl _ _).alloc _⟩
  have e2:decide (1<=d)=true:=a0h h2;have e3:decide (d<=5)=false:=a0f h3;go_enter Tryz.func24,Tryz.ntmps24
  go_wp2;go_ret;exact⟨bT (by simp[jH,e2,e3]),(aA.refl _ _).alloc _⟩
 have e2:decide (1<=d)=false:=a0f h2;go_enter Tryz.func24,Tryz.ntmps24
 go_wp2;go_ret;exact⟨bT (by simp[jH,e2]),(aA.refl _ _).alloc _⟩
theorem Vt(d:Int)(rc:LB)(tb:Bool)(ab:Option Addr)(nb cb:Nat)(wt ev rp:Int)(ai:Option Addr)(ni ci:Nat)(co:Bool)(da:Int)(w:World)(h0:0<=da)(h1:da<=2000000) :
 Calls Tryz.prog 24 #[.agg #[.int .i64 d,.string (bs rc),.bool tb,.slice ab nb cb,.int .i64 wt,.int .i64 ev,.int .i64 rp,.slice ai ni ci,.bool co],.int .i64 da] w λe w'=>e=.returned (.bool (jH d da))/\aA [] w w' :=
 Vs ⟨d,rc,tb,.slice ab nb cb,wt,ev,rp,.slice ai ni ci,co⟩ da w h0 h1 ⟨_,_,_,rfl⟩ ⟨_,_,_,rfl⟩
theorem Vu(rv:RV)(ni:Nat)(w:World)(hb:∃a n c,rv.dP=.slice a n c)(hi:∃a c,rv.iB=.slice a ni c) :
 Calls Tryz.prog 25 #[.agg rv.cells] w λe w'=>e=.returned (.bool ((rv.d==0)&&(ni==0)&&!rv.co&&!(rv.rc == [45])))/\aA [] w w':=by
 obtain⟨d,rc,tb,dP,wt,ev,rp,iB,co⟩:=rv;obtain⟨ab,nb,cb,hb⟩:=hb;obtain⟨ai,ci,hi⟩:=hi;simp only at hb hi;subst hb hi;have hl:=bg;have hk:({ data:=#[45] }:ByteArray).toList=[45]:=bg [45];show Calls Tryz.prog 25 #[.agg #[.int .i64 d,.string (bs rc),.bool tb,.slice ab nb cb,.int .i64 wt,.int .i64 ev,.int .i64 rp,.slice ai ni ci,.bool co]] w _;cases h1:(d==0)
 ·go_enter Tryz.func25,Tryz.ntmps25
  go_wp2;go_ret;exact⟨bT (by simp[h1]),(aA.refl _ _).alloc _⟩
 cases h2:((ni:Int)==0)
 ·have h2':(ni==0)=false:=by rw[a0k]at h2 |-;omega
  go_enter Tryz.func25,Tryz.ntmps25
  go_wp2;go_ret;exact⟨bT (by simp[h1,h2']),(aA.refl _ _).alloc _⟩
 have h2':(ni==0)=true:=by rw[a0X]at h2 |-;omega
 cases co
 all_goals
  go_enter Tryz.func25,Tryz.ntmps25
  go_wp2;go_ret;exact⟨bT (by simp[h1,h2']),(aA.refl _ _).alloc _⟩
theorem Vv(d:Int)(rc:LB)(tb:Bool)(ab:Option Addr)(nb cb:Nat)(wt ev rp:Int)(ai:Option Addr)(ni ci:Nat)(co:Bool)(w:World) :
 Calls Tryz.prog 25 #[.agg #[.int .i64 d,.string (bs rc),.bool tb,.slice ab nb cb,.int .i64 wt,.int .i64 ev,.int .i64 rp,.slice ai ni ci,.bool co]] w λe w'=>e=.returned (.bool ((d==0)&&(ni==0)&&!co&&!(rc == [45])))/\aA [] w w' :=
 Vu ⟨d,rc,tb,.slice ab nb cb,wt,ev,rp,.slice ai ni ci,co⟩ ni w ⟨_,_,_,rfl⟩ ⟨_,_,rfl⟩
def qh:List CR->Nat->Int->Nat
 | [],_,_=>0
 | c::r,i,da=>if !(if i==0 then nG c else jH c.d da)||decide (16<=i) then i+2 else qh r (i+1) c.d
def iX(C:List CR):Nat:=if C.isEmpty then 2 else qh C 0 0
theorem flat_get{β:Type}(f:α->List β)(s:Nat)(hf:∀a,(f a).length=s):∀(L:List α) (j k:Nat) (a:α),L[j]?=some a->k<s->(L.flatMap f)[j*s+k]?=(f a)[k]?
 | [],j,k,a,h,_=>by simp at h
 | x::L,0,k,a,h,hk=>by
   simp at h;subst h;rw[a3a,a1v,a0Z,a0u (by rw[hf];exact hk)]
 | x::L,j+1,k,a,h,hk=>by
   simp at h;rw[a0Z,a0R (by rw[hf,a0r];omega),hf,show(j+1)*s+k-s=j*s+k by rw[a0r];omega];exact flat_get f s hf L j k a h hk
theorem RL.cell {base:Nat}{g:Nat}(h:RL base w (.slice (some ⟨g,0,none⟩) n cap) R) {j:Nat} {rv:RV}(hj:R[j]?=some rv)(k:Nat)(hk:k<9):w.cell? ⟨g,j*9+k,none⟩=rv.cells[k]?:=by
 have h1:=flat_get Ar 9 (λa=>rfl) R j k rv hj hk;have h2:(Ar rv)[k]?=rv.cells[k]?:=by simp[Ar]
 have h3:=World.ownsRow.cells h (g:=g) rfl (j*9+k);have aO:k<rv.cells.size:=hk;rw[Array.getElem?_eq_getElem aO]at h2 |-;have:=h3 _ (h1.trans h2);rw[add0]at this;exact this
theorem Vw(base:Nat)(v:Value)(R:List RV)(C:List CR)(w:World)(hr:RL base w v R)(hp:oH base w R C)(hR:R.length<=1048576)(hd:∀c∈C,c.d<=1048576) :
 Calls Tryz.prog 12 #[v] w λe w'=>e=.returned (.int .i64 (iX C))/\aA [] w w':=by
 obtain⟨a,cap,rfl⟩:=aT hr;have yx:R.length=C.length:=hp.1;have HR:Z_ (RL base w (.slice a R.length cap) R):=hr;have HP:Z_ (oH base w R C):=hp;have HD:Z_ (∀c∈C,c.d<=1048576):=hd;clear hr hp hd
 by_cases h0:R.length=0
 ·have hg:Z_ (iX C=2):=by
   show _=_;unfold iX;rw[a1l (yx.symm.trans h0)];rfl
  have hb:((R.length:Int)==0)=true:=by simp[h0]
  go_enter Tryz.func12,Tryz.ntmps12
  go_wp2_with (go_at_call 15;refine(xK _ _ (by omega) (by omega)).mono ?_;rintro e w' ⟨rfl,rfl⟩)
  go_ret;exact⟨kU (by rw[hg.o];rfl),aA.refl _ _⟩
 have hb:((R.length:Int)==0)=false:=a0k.2 (by omega);have hg:Z_ (iX C=qh C 0 0):=by
  show _=_;unfold iX;have:C.isEmpty=false:=by
   cases C with
   | nil=>rw[a1f]at yx;omega
   | cons=>rfl
  rw[this];rfl
 obtain⟨g,rfl⟩:∃g,a=some ⟨g,0,none⟩:=by
  rcases HR.o.2 with⟨e,h⟩|⟨g,c,cur,e,_⟩
  ·omega
  simp at e;exact⟨g,e.1⟩
 have Vx:Z_ (R.length=C.length):=yx;clear yx;go_enter Tryz.func12,Tryz.ntmps12
 go_wp2_with fail
 go_loopg [3,13] R.length (λk vd vi wr=>∃(j:Nat) (da:Nat),j+k=R.length/\vi=.int .i64 j/\vd=.int .i64 da/\da<=1048576/\qh (C.drop j) j da=iX C/\aA [] w wr)
 case atStart=>exact⟨0,0,by omega,rfl,rfl,by omega,hg.o.symm,aA.refl _ _⟩
 case round =>
  obtain⟨j,da,hj,rfl,rfl,hda,gP,bU⟩:=hrel;have KG:Z_ (qh (C.drop j) j da=iX C):=gP;have KF:Z_ (aA [] w wr):=bU;clear gP bU
  by_cases aO:j<R.length
  ·have yx:=Vx.o
   have hjR:R[j]?=some R[j]:=a0c aO;have hjC:C[j]?=some (C[j]'(by omega)):=a0c (by omega);have kz:=HP.o.2 j _ _ hjR hjC;have hdc:=HD.o _ (a0z (l:=C) (n:=j) (by omega));have Hd:Z_ (C.drop j=(C[j]'(by omega))::C.drop (j+1)):=a0q (by omega);generalize (C[j]'(by omega))=c at *;have lG:RL base wr (.slice (some ⟨g,0,none⟩) R.length cap) R:=ek HR.o KF.o (by simp);have aV:=λk hk=>lG.cell hjR k hk
   generalize R[j]=rv at *;obtain⟨d,rc,tb,dP,wt,ev,rp,iB,co⟩:=rv;have q0:wr.cell? ⟨g,j*9,none⟩=some (.int .i64 d):=aV 0 (by omega);have q1:wr.cell? ⟨g,j*9+1,none⟩=some (.string (bs rc)):=aV 1 (by omega);have q2:wr.cell? ⟨g,j*9+2,none⟩=some (.bool tb):=aV 2 (by omega);have q3:wr.cell? ⟨g,j*9+3,none⟩=some dP:=aV 3 (by omega);have q4:wr.cell? ⟨g,j*9+4,none⟩=some (.int .i64 wt):=aV 4 (by omega);have q5:wr.cell? ⟨g,j*9+5,none⟩=some (.int .i64 ev):=aV 5 (by omega);have q6:wr.cell? ⟨g,j*9+6,none⟩=some (.int .i64 rp):=aV 6 (by omega);have q7:wr.cell? ⟨g,j*9+7,none⟩=some iB:=aV 7 (by omega);have q8:wr.cell? ⟨g,j*9+8,none⟩=some (.bool co):=aV 8 (by omega);obtain⟨ab,cb,eb⟩:=kz.KI.shape;obtain⟨ai,ci,ei⟩:=aT kz.ifs;have hrd:=kz.d;have qQ:=kz.rc;have hco:=kz.co;simp only at eb ei hrd qQ hco;subst eb ei hrd qQ hco;clear aV lG kz hjR hjC yx;have Vy:=bK wr (Obj.cells #[Value.int IntKind.i64 c.d,Value.string (bs c.rc),Value.bool tb,Value.slice ab c.nU.length cb,Value.int IntKind.i64 wt,Value.int IntKind.i64 ev,Value.int IntKind.i64 rp,Value.slice ai c.ifs.length ci,Value.bool c.co] 62);have HN:Z_ (RT (wr.alloc (Obj.cells #[Value.int IntKind.i64 c.d,Value.string (bs c.rc),Value.bool tb,Value.slice ab c.nU.length cb,Value.int IntKind.i64 wt,Value.int IntKind.i64 ev,Value.int IntKind.i64 rp,Value.slice ai c.ifs.length ci,Value.bool c.co] 62)) wr.heap.size ⟨c.d,c.rc,tb,.slice ab c.nU.length cb,wt,ev,rp,.slice ai c.ifs.length ci,c.co⟩):=Vy;clear Vy;have bN:Z_ (iX C=if !(if j==0 then nG c else jH c.d da)||decide (16<=j) then j+2 else qh (C.drop (j+1)) (j+1) c.d):=by
    show _=_;rw[<-KG.o,Hd.o];rfl
   clear KG Hd;go_wp2_with fail
   refine(Vt c.d c.rc tb ab _ cb wt ev rp ai _ ci c.co da _ (by omega) (by omega)).mono ?_;rintro e w1 ⟨rfl,aZ⟩;have Vr:Z_ (aA [] w w1):=(KF.o.alloc _).trans aZ;have La:=HN.o.aB aZ (by simp);have HN1:Z_ (RT w1 wr.heap.size ⟨c.d,c.rc,tb,.slice ab c.nU.length cb,wt,ev,rp,.slice ai c.ifs.length ci,c.co⟩):=La;have q0:w1.cell? ⟨wr.heap.size,0,none⟩=some (.int .i64 c.d):=La.cell 0;have q1:w1.cell? ⟨wr.heap.size,1,none⟩=some (.string (bs c.rc)):=La.cell 1;have q2:w1.cell? ⟨wr.heap.size,2,none⟩=some (.bool tb):=La.cell 2;have q3:w1.cell? ⟨wr.heap.size,3,none⟩=some (.slice ab c.nU.length cb):=La.cell 3;have q4:w1.cell? ⟨wr.heap.size,4,none⟩=some (.int .i64 wt):=La.cell 4;have q5:w1.cell? ⟨wr.heap.size,5,none⟩=some (.int .i64 ev):=La.cell 5;have q6:w1.cell? ⟨wr.heap.size,6,none⟩=some (.int .i64 rp):=La.cell 6;have q7:w1.cell? ⟨wr.heap.size,7,none⟩=some (.slice ai c.ifs.length ci):=La.cell 7;have q8:w1.cell? ⟨wr.heap.size,8,none⟩=some (.bool c.co):=La.cell 8;clear aZ La HN
   by_cases si:j=0
   ·subst si
    have Cr:nG c=(((c.d:Int)==0)&&(c.ifs.length==0)&&!c.co&&!(c.rc == [45])):=by
     unfold nG;have e1:((c.d:Int)==0)=(c.d==0):=by
      rw[a0P];simp
     have e2:(c.ifs.length==0)=c.ifs.isEmpty:=by cases c.ifs<;>rfl
     rw[e1,e2]
    have Hrt:=aj Cr;clear Cr;go_wp2_with fail
    refine(Vv c.d c.rc tb ab _ cb wt ev rp ai _ ci c.co _).mono ?_;rintro e w2 ⟨rfl,aS⟩;have KF2:Z_ (aA [] w w2):=Vr.o.trans aS;have q0':w2.cell? ⟨wr.heap.size,0,none⟩=some (.int .i64 c.d):=(HN1.o.aB aS (by simp)).cell 0;rw[<-Hrt.o];clear aS q0 q1 q2 q3 q4 q5 q6 q7 q8;cases jT:nG c
    ·have Hx:Z_ (iX C=2):=by show _=_;rw[bN.o,jT];rfl
     go_wp2_with (go_at_call 15;refine(xK _ _ (by omega) (by omega)).mono ?_;rintro e w' ⟨rfl,rfl⟩)
     go_ret;exact⟨kU (by rw[Hx.o];rfl),KF2⟩
    have Hx:Z_ (qh (C.drop 1) 1 c.d=iX C):=by show _=_;rw[bN.o,jT];rfl
    go_wp2;go_roundg (gk-1)
    case measure=>omega
    case rel=>exact⟨1,c.d,by omega,by go_num,rfl,hdc,Hx,KF2⟩
   have aqh:((j:Int)==0)=false:=a0k.2 (by omega);have hjn:(j==0)=false:=a0k.2 si;cases jT:jH c.d da
   ·have Hx:Z_ (iX C=j+2):=by show _=_;rw[bN.o,jT,hjn];rfl
    go_wp2_with (go_at_call 15;refine(xK _ _ (by omega) (by omega)).mono ?_;rintro e w' ⟨rfl,rfl⟩)
    go_ret;exact⟨kU (by rw[Hx.o];simp),Vr⟩
   by_cases h16:16<=j
   ·have Hx:Z_ (iX C=j+2):=by show _=_;rw[bN.o,jT,hjn];simp[h16]
    go_wp2_with (go_at_call 15;refine(xK _ _ (by omega) (by omega)).mono ?_;rintro e w' ⟨rfl,rfl⟩)
    go_ret;exact⟨kU (by rw[Hx.o];simp),Vr⟩
   have Hx:Z_ (qh (C.drop (j+1)) (j+1) c.d=iX C):=by show _=_;rw[bN.o,jT,hjn];simp[h16]
   go_wp2;go_roundg (gk-1)
   case measure=>omega
   case rel=>exact⟨j+1,c.d,by omega,by go_num,rfl,hdc,Hx,Vr⟩
  have hgz:Z_ (iX C=0):=by
   show _=_;rw[<-KG.o,a0p (by have:=Vx.o;omega)];rfl
  go_wp2;go_ret;exact⟨kU (by rw[hgz.o];rfl),KF⟩
def kM:List LB->List LB->Bool
 | _,[]=>false
 | pre,x::r=>if pre.contains x then true else kM (pre++[x]) r
def tK(L:List LB):List CR->Nat->Nat
 | [],_=>0
 | c::r,i=>if !(c.rc == [45])&&!(L.contains c.rc) then i+2 else tK L r (i+1)
def kN(L:List LB)(C:List CR):Nat:=if kM [] L then 1 else tK L C 0
theorem RS.take {base:Nat} {L:List LB}(h:RS base w (.slice a n cap) L)(k:Nat)(hk:k<=L.length):RS base w (.slice a k cap) (L.take k):=by
 obtain⟨a',xJ,e,h1,h2,h3⟩:=h;simp at e;obtain⟨rfl,rfl,rfl⟩:=e;refine⟨a,cap,by simp;omega,by simp;omega,by simp;omega,λj hj=>?_⟩;simp at hj;obtain⟨g,off,h4,h5,h6⟩:=h3 j (by omega);exact⟨g,off,h4,h5,by simpa using h6⟩
theorem Vz(base:Nat)(vr vt:Value)(L:List LB)(R:List RV)(C:List CR)(w:World)(hs:SL base w vr L)(hr:RL base w vt R)(hp:oH base w R C)(hR:R.length<=1048576)(hL:L.length<=1048576) :
 Calls Tryz.prog 13 #[.agg #[vr,vt]] w λe w'=>e=.returned (.int .i64 (kN L C))/\aA [] w w':=by
 obtain⟨a,cap,rfl⟩:=aT hr;obtain⟨a0,Ey,rfl⟩:=hs.shape;have Vx:Z_ (R.length=C.length):=hp.1;have HR:Z_ (RL base w (.slice a R.length cap) R):=hr;have HS:Z_ (RS 0 w (.slice a0 L.length Ey) L):=(hs.rs hL).base (a1C _);have HP:Z_ (oH base w R C):=hp;clear hr hp hs;have hl:=bg;have aoC:({ data:=#[45] }:ByteArray).toList=[45]:=bg [45];have j6:=bK w (Obj.cells #[.slice a0 L.length Ey,.slice a R.length cap] 38);have vG:Z_ (CB (w.alloc (Obj.cells #[.slice a0 L.length Ey,.slice a R.length cap] 38)) w.heap.size (.slice a0 L.length Ey) (.slice a R.length cap)):=j6;clear j6;go_enter Tryz.func13,Tryz.ntmps13
 go_wp2_with fail
 go_loopg [10] L.length (λk vi wr=>∃(j:Nat),j+k=L.length/\vi=.int .i64 j/\kM (L.take j) (L.drop j)=kM [] L/\CB wr w.heap.size (.slice a0 L.length Ey) (.slice a R.length cap)/\aA [] w wr)
 case atStart=>exact⟨0,by omega,rfl,rfl,vG,(aA.refl _ _).alloc _⟩
 case round =>
  obtain⟨j,hj,rfl,hdu,jX,bU⟩:=hrel;have KD:Z_ (kM (L.take j) (L.drop j)=kM [] L):=hdu;have KC:Z_ (CB wr w.heap.size (.slice a0 L.length Ey) (.slice a R.length cap)):=jX;have KF:Z_ (aA [] w wr):=bU;have d0:=jX.c0;have d1:=jX.c1;clear hdu jX bU
  by_cases aO:j<L.length
  ·have wR:RS 0 wr (.slice a0 L.length Ey) L:=HS.o.aB KF.o (by simp)
   have Bq:Z_ (RS 0 wr (.slice a0 L.length Ey) L):=wR;obtain⟨a',xJ,e,h1,h2,h3⟩:=wR;simp at e;obtain⟨e1,e2⟩:=e;subst e1 e2;obtain⟨g,off,h4,h5,h6⟩:=h3 j aO;subst h4;clear h3;have Hd:Z_ (L.drop j=L[j]::L.drop (j+1)):=a0q aO;have Ht:Z_ (L.take (j+1)=L.take j++[L[j]]):=a0I aO;generalize L[j]=x at *;go_wp2_with fail
   refine(Vb _ (L.take j) x _ (Bq.o.take j (by omega))).mono ?_;rintro e w' ⟨rfl,rfl⟩;cases Pg:(L.take j).contains x
   ·have KD2:Z_ (kM (L.take (j+1)) (L.drop (j+1))=kM [] L):=by
     show _=_;rw[<-KD.o,Hd.o,Ht.o];conv=>rhs;unfold kM
     rw[Pg];rfl
    go_wp2;go_roundg (gk-1)
    case measure=>omega
    case rel=>exact⟨j+1,by omega,by go_num,KD2,KC,KF⟩
   have Hx:Z_ (kN L C=1):=by
    show _=_;unfold kN;rw[<-KD.o,Hd.o];unfold kM;rw[Pg];rfl
   go_wp2;go_ret;exact⟨kU (by rw[Hx.o];rfl),KF⟩
  have Hx0:Z_ (kN L C=tK L C 0):=by
   show _=_;unfold kN;rw[<-KD.o,a0p (by omega)];rfl
  clear KD;go_wp2_with fail
  go_loopg [25] R.length (λk vi wr=>∃(j:Nat),j+k=R.length/\vi=.int .i64 j/\tK L (C.drop j) j=kN L C/\CB wr w.heap.size (.slice a0 L.length Ey) (.slice a R.length cap)/\aA [] w wr)
  case atStart=>exact⟨0,by omega,rfl,Hx0.o.symm,KC,KF⟩
  case round =>
   clear d0 d1 KC KF aO hj;obtain⟨j,hj,rfl,gP,jX,bU⟩:=hrel;have KG:Z_ (tK L (C.drop j) j=kN L C):=gP;have KC:Z_ (CB wr w.heap.size (.slice a0 L.length Ey) (.slice a R.length cap)):=jX;have KF:Z_ (aA [] w wr):=bU;have d0:=jX.c0;have d1:=jX.c1;have za:=jX.lt;clear gP jX bU
   by_cases aO:j<R.length
   ·have yx:=Vx.o
    have hjR:R[j]?=some R[j]:=a0c aO;have hjC:C[j]?=some (C[j]'(by omega)):=a0c (by omega);have kz:=HP.o.2 j _ _ hjR hjC;have Hd:Z_ (C.drop j=(C[j]'(by omega))::C.drop (j+1)):=a0q (by omega);generalize (C[j]'(by omega))=c at *;have lG:RL base wr (.slice a R.length cap) R:=ek HR.o KF.o (by simp);obtain⟨g,hg⟩:∃g,a=some ⟨g,0,none⟩:=by
     rcases lG.2 with⟨e,h⟩|⟨g,c,cur,e,_⟩
     ·omega
     simp at e;exact⟨g,e.1⟩
    subst hg;have aV:=λk hk=>lG.cell hjR k hk
    generalize R[j]=rv at *;obtain⟨d,rc,tb,dP,wt,ev,rp,iB,co⟩:=rv;have q0:wr.cell? ⟨g,j*9,none⟩=some (.int .i64 d):=aV 0 (by omega);have q1:wr.cell? ⟨g,j*9+1,none⟩=some (.string (bs rc)):=aV 1 (by omega);have q2:wr.cell? ⟨g,j*9+2,none⟩=some (.bool tb):=aV 2 (by omega);have q3:wr.cell? ⟨g,j*9+3,none⟩=some dP:=aV 3 (by omega);have q4:wr.cell? ⟨g,j*9+4,none⟩=some (.int .i64 wt):=aV 4 (by omega);have q5:wr.cell? ⟨g,j*9+5,none⟩=some (.int .i64 ev):=aV 5 (by omega);have q6:wr.cell? ⟨g,j*9+6,none⟩=some (.int .i64 rp):=aV 6 (by omega);have q7:wr.cell? ⟨g,j*9+7,none⟩=some iB:=aV 7 (by omega);have q8:wr.cell? ⟨g,j*9+8,none⟩=some (.bool co):=aV 8 (by omega);obtain⟨ab,cb,eb⟩:=kz.KI.shape;obtain⟨ai,ci,ei⟩:=aT kz.ifs;have qQ:=kz.rc;simp only at eb ei qQ;subst eb ei qQ;clear aV lG kz hjR hjC yx;have bN:Z_ (kN L C=if !(c.rc == [45])&&!(L.contains c.rc) then j+2 else tK L (C.drop (j+1)) (j+1)):=by
     show _=_;rw[<-KG.o,Hd.o];rfl
    have wR:∀o,RS 0 (wr.alloc o) (.slice a0 L.length Ey) L:=λo=>HS.o.aB (KF.o.alloc o) (by simp)
    have Bq:=aj wR;clear KG Hd wR;cases h45:(c.rc == [45])
    ·go_wp2_with fail
     refine(Vb _ L c.rc _ (Bq.o _)).mono ?_;rintro e w' ⟨rfl,rfl⟩;cases Pg:L.contains c.rc
     ·have Hx:Z_ (kN L C=j+2):=by show _=_;rw[bN.o,h45,Pg];rfl
      go_wp2_with (go_at_call 15;refine(xK _ _ (by omega) (by omega)).mono ?_;rintro e w' ⟨rfl,rfl⟩)
      go_ret;exact⟨kU (by rw[Hx.o];simp),KF.o.alloc _⟩
     have Hx:Z_ (tK L (C.drop (j+1)) (j+1)=kN L C):=by show _=_;rw[bN.o,h45,Pg];rfl
     go_wp2;go_roundg (gk-1)
     case measure=>omega
     case rel=>exact⟨j+1,by omega,by go_num,Hx,KC.o.aB (S:=[]) ((aA.refl _ _).alloc _) (by simp),KF.o.alloc _⟩
    have Hx:Z_ (tK L (C.drop (j+1)) (j+1)=kN L C):=by show _=_;rw[bN.o,h45];rfl
    go_wp2;go_roundg (gk-1)
    case measure=>omega
    case rel=>exact⟨j+1,by omega,by go_num,Hx,KC.o.aB (S:=[]) ((aA.refl _ _).alloc _) (by simp),KF.o.alloc _⟩
   have hgz:Z_ (kN L C=0):=by
    show _=_;rw[<-KG.o,a0p (by have:=Vx.o;omega)];rfl
   go_wp2;go_ret;exact⟨kU (by rw[hgz.o];rfl),KF⟩
structure aaO(m:CM):Prop where
 name:aI m.1=true
 kind:m.2.1<=3
 val:m.2.2.length<=40
structure ID(c:CR):Prop where
 d:c.d<=1048576
 rc:c.rc=[45]\/aI c.rc=true
 nU:∀n∈c.nU,aI n=true
 byl:c.nU.length<=4
 wt:-1<=c.wt/\c.wt<=99999
 ev:-1<=c.ev/\c.ev<=99999
 rp:-1<=c.rp/\c.rp<=99999
 ifs:∀m∈c.ifs,aaO m
 ifl:c.ifs.length<=4
theorem DY {n:LB}(h:aI n=true):n.length<=8:=by
 unfold aI at h;simp at h;exact h.1.1.2
theorem Zn:∀(k:Nat) (acc l:LB),acc.length<=40->(qN k acc l).1.length<=40
 | 0,acc,l,_=>by simp[qN]
 | k+1,acc,l,h=>by
   unfold qN
   split
   ·exact h
   split
   ·simp
   rename_i h1
   simp at h1;exact Zn k _ _ (by simp;omega)
theorem ag1(l:LB):(nS l).1.length<=40:=by
 unfold nS;split
 ·exact Zn _ _ _ (by simp)
 simp
theorem Zo(l:LB):(gQ l).1<=3:=by
 unfold gQ
 split
 ·simp
 split
 ·simp
 split
 ·simp
 simp
theorem aeE(l:LB)(h:(jB l).2.1=true):aaO (jB l).1:=by
 unfold jB at h |-;simp only[a0N]at h;exact⟨h.1.1,Zo _,ag1 _⟩
theorem VA:∀(k:Nat) (acc:List CM) (l:LB),(∀m∈acc,aaO m)->acc.length<=4->(∀m∈(uE k acc l).1,aaO m)/\(uE k acc l).1.length<=4
 | 0,acc,l,h,h4=>⟨h,h4⟩
 | k+1,acc,l,h,h4=>by
   unfold uE
   split
   ·dsimp only
    split
    ·exact⟨h,h4⟩
    rename_i h1
    simp at h1;refine VA k _ _ ?_ (by simp;omega);intro m hm;rw[a0b,a0y]at hm;rcases hm with hm|rfl
    ·exact h m hm
    exact aeE _ h1.1
   exact⟨h,h4⟩
theorem acz:∀(l:LB) (n:Nat),n<=99999->(rO l n).1<=99999
 | [],n,h=>h
 | c::r,n,h=>by
   unfold rO
   split
   ·split
    ·exact a1C _
    exact acz r _ (by omega)
   exact h
theorem ai1(l:LB):(jU l).1<=99999:=by
 unfold jU;split
 ·simp
 split
 ·simp
 exact acz _ _ (by omega)
theorem Pk(wd l:LB):-1<=(bP wd l).1/\(bP wd l).1<=99999:=by
 unfold bP;split
 ·have:=ai1 (aJ wd l);dsimp only;omega
 dsimp only;omega
theorem VB:∀(k:Nat) (acc:List LB) (l:LB),(∀m∈acc,aI m=true)->acc.length<=4->(∀m∈(rP k acc l).1,aI m=true)/\(rP k acc l).1.length<=4
 | 0,acc,l,h,h4=>by simp[rP]
 | k+1,acc,l,h,h4=>by
   unfold rP
   split
   ·exact⟨h,h4⟩
   dsimp only;generalize (if acc.isEmpty=true then l else aJ [44] l)=l1
   split
   ·simp
   rename_i h1
   rw[a0Y,not_or]at h1;simp only[a2J,Bool.not_eq_false',a1i]at h1;refine VB k _ _ ?_ (by simp;omega);intro m hm;rw[a0b,a0y]at hm;rcases hm with hm|rfl
   ·exact h m hm
   exact h1.1
theorem Zp(n:LB)(p:LB->Prop)(hn:p n):∀(L:List LB) (s:List LB × Bool),(∀x∈L,p x)->(∀x∈s.1,p x)->∀x∈(jV n L s).1,p x
 | [],s,_,h2=>h2
 | y::r,s,h1,h2=>by
   unfold jV;refine Zp n p hn r _ (λx hx=>h1 x (by simp[hx])) ?_
   split
   ·intro x hx;simp at hx;rcases hx with hx|rfl|rfl
    ·exact h2 x hx
    ·exact hn
    exact h1 _ (by simp)
   intro x hx;simp at hx;rcases hx with hx|rfl
   ·exact h2 x hx
   exact h1 _ (by simp)
theorem aeF(n:LB)(p:LB->Prop)(hn:p n)(L:List LB)(h:∀x∈L,p x):∀x∈qO L n,p x:=by
 have h1:=Zp n p hn L ([],false) h (by simp);unfold qO;split
 ·exact h1
 intro x hx;rw[a0b,a0y]at hx;rcases hx with hx|rfl
 ·exact h1 x hx
 exact hn
theorem VC(p:LB->Prop):∀(L acc:List LB) ,(∀x∈L,p x)->(∀x∈acc,p x)->(∀x∈L.foldl l9 acc,p x)/\(L.foldl l9 acc).length<=acc.length+L.length
 | [],acc,_,h=>⟨h,by simp⟩
 | y::r,acc,h1,h2=>by
   have h3:∀x∈l9 acc y,p x:=by
    unfold l9;split
    ·exact h2
    exact aeF y p (h1 y (by simp)) acc h2
   have:=VC p r (l9 acc y) (λx hx=>h1 x (by simp[hx])) h3;have hl:=aeC acc y;refine⟨this.1,?_⟩;have h4:=this.2;simp only[a1M,a0o];omega
theorem ag2(l:LB):(∀m∈(jW l).names,aI m=true)/\(jW l).names.length<=4:=by
 unfold jW;split
 ·dsimp only
  split
  ·simp
  have h:=VB 6 [] (aJ [32,98,121,32] l) (by simp) (by simp);have h2:=VC (λm=>aI m=true) (fG (aJ [32,98,121,32] l)).1 [] h.1 (by simp);refine⟨h2.1,?_⟩;have h3:=h2.2;have h4:(fG (aJ [32,98,121,32] l)).1.length<=4:=h.2;simp at h3;show(Ap (fG (aJ [32,98,121,32] l)).1).length<=4;unfold Ap;omega
 simp
theorem acA(l:LB)(h:(dR l).2.1=true):(dR l).1=[45]\/aI (dR l).1=true:=by
 unfold dR at h |-
 split
 ·exact Or.inl rfl
 rename_i h1;rw[a0g h1]at h;exact Or.inr h
theorem FZ:∀(t:LB),(bD t).1<=t.length
 | []=>by simp[bD]
 | c::r=>by
   unfold bD;have:=FZ r;split<;>simp<;>omega
def srA(t:LB):=dR (aJ jP (bD t).2)
def VD(t:LB):=jW (srA t).2.2
def Sw(t:LB):=dB (VD t).rest
def VE(t:LB):=kL (Sw t).rest
theorem VF(t:LB):fI t=if aL jP (bD t).2 then (if (srA t).2.1 then (if (VD t).ok then (if (Sw t).ok then (if (VE t).2.1 then (if (aJ gB (VE t).2.2).isEmpty then some ⟨(bD t).1,(srA t).1,(VD t).tells,(VD t).names,(Sw t).wt,(Sw t).ev,(Sw t).rp,(VE t).1,aL gB (VE t).2.2⟩ else none) else none) else none) else none) else none) else none:=rfl
theorem yY {b:Bool} {o:Option α} {c:α}(h:(if b then o else none)=some c):b=true/\o=some c:=by
 cases b
 ·cases h
 exact⟨rfl,h⟩
theorem aaP(t:LB)(c:CR)(h:fI t=some c):aL jP (bD t).2=true/\(srA t).2.1=true/\(VD t).ok=true/\(Sw t).ok=true/\(VE t).2.1=true/\(aJ gB (VE t).2.2).isEmpty=true /\
 (⟨(bD t).1,(srA t).1,(VD t).tells,(VD t).names,(Sw t).wt,(Sw t).ev,(Sw t).rp,(VE t).1,aL gB (VE t).2.2⟩:CR)=c:=by
 rw[VF]at h;obtain⟨h1,h⟩:=yY h;obtain⟨h2,h⟩:=yY h;obtain⟨h3,h⟩:=yY h;obtain⟨h4,h⟩:=yY h;obtain⟨h5,h⟩:=yY h;obtain⟨h6,h⟩:=yY h;exact⟨h1,h2,h3,h4,h5,h6,Option.some.inj h⟩
theorem aaQ(t:LB)(c:CR)(ht:t.length<=1048576)(h:fI t=some c):ID c:=by
 obtain⟨h1,h2,h3,h4,h5,h6,rfl⟩:=aaP t c h;have hb:=ag2 (dR (aJ jP (bD t).2)).2.2;have hm:=VA 6 [] (dB (jW (dR (aJ jP (bD t).2)).2.2).rest).rest (by simp) (by simp);exact⟨a0e (FZ t) ht,acA _ h2,hb.1,hb.2,Pk _ _,Pk _ _,Pk _ _,hm.1,hm.2⟩
theorem VG:∀(k:Nat) (acc:List LB) (l:LB) (L:List LB),(∀m∈acc,aI m=true)->acc.length<=8->Aq k acc l=some L->(∀m∈L,aI m=true)/\L.length<=8
 | 0,acc,l,L,_,_,h=>by simp[Aq]at h
 | k+1,acc,l,L,h1,h8,h=>by
   unfold Aq at h
   split at h
   ·dsimp only at h
    split at h
    ·cases h
    rename_i h2
    rw[a0Y,not_or]at h2;simp only[a2J,Bool.not_eq_false',a1i]at h2;refine VG k _ _ L ?_ (by simp;omega) h;intro m hm;rw[a0b,a0y]at hm;rcases hm with hm|rfl
    ·exact h1 m hm
    exact h2.1
   split at h
   ·simp only[Option.some.injEq]at h;subst h;exact⟨h1,h8⟩
   cases h
theorem aaR(t:LB)(L:List LB)(h:iy t=some L):(∀m∈L,aI m=true)/\L.length<=8:=by
 unfold iy at h
 split at h
 ·exact VG 10 [] _ L (by simp) (by simp) h
 cases h
theorem DZ:∀(t:LB) (ln:Nat) (cur:LB) (L:List LB) (C:List CR) (L':List LB) (C':List CR),t.length+cur.length<=1048576->(∀m∈L,aI m=true)->L.length<=8->(∀c∈C,ID c)->wh t ln cur L C=.ok (L',C')->(∀m∈L',aI m=true)/\L'.length<=8/\(∀c∈C',ID c)
 | [],ln,cur,L,C,L',C',_,h1,h2,h3,h=>by
   unfold wh at h
   split at h
   ·cases h
   simp only[Except.ok.injEq,Prod.mk.injEq]at h;obtain⟨rfl,rfl⟩:=h;exact⟨h1,h2,h3⟩
 | c::r,ln,cur,L,C,L',C',hl,h1,h2,h3,h=>by
   simp only[a0o]at hl;unfold wh at h
   split at h
   ·split at h
    ·split at h
     ·cases h
     rename_i R' hR
     have:=aaR _ _ hR;exact DZ r 2 [] R' C L' C' (by simp;omega) this.1 this.2 h3 h
    split at h
    ·cases h
    rename_i x hx
    have:=aaQ _ _ (by omega) hx;refine DZ r (ln+1) [] L (C++[x]) L' C' (by simp;omega) h1 h2 ?_ h;intro c hc;rw[a0b,a0y]at hc;rcases hc with hc|rfl
    ·exact h3 c hc
    exact this
   exact DZ r ln (cur++[c]) L C L' C' (by simp;omega) h1 h2 h3 h
theorem yJ(t:LB)(L:List LB)(C:List CR)(ht:t.length<=1048576)(h:mD t=.ok (L,C)):(∀m∈L,aI m=true)/\L.length<=8/\(∀c∈C,ID c) :=
 DZ t 1 [] [] [] L C (by simpa using ht) (by simp) (by simp) (by simp) h
def mX(t:LB):Except (Nat × Nat) (List LB × List CR) :=
 if 1200<t.length then .error (1,0) else
 match mD t with
 | .error n=>.error (2,n)
 | .ok (L,C)=>if 0<iX C then .error (3,iX C) else if 0<kN L C then .error (4,kN L C) else .ok (L,C)
def ai2(base:Nat)(w:World)(vr vt:Value)(e ln:Int):Except (Nat × Nat) (List LB × List CR)->Prop
 | .error (n,l)=>vr=.slice none 0 0/\vt=.slice none 0 0/\e=n/\ln=l/\1<=n
 | .ok (R,C)=>e=0/\ln=0/\SL base w vr R/\∃vX,RL base w vt vX/\oH base w vX C/\vX.length<=1048576
theorem results_read{e:Int}(h:CB w rb vr vt)(h2:tmps.getD 2 undef=.pointer (some ⟨rb,0,none⟩))(h3:tmps.getD 3 undef=.int .i64 e)(h4:tmps.getD 4 undef=.int .i64 ln) :
 (results Tryz.f7 tmps).run Tryz.prog w=.ok (.tuple #[.agg #[vr,vt],.int .i64 e,.int .i64 ln]) w:=by
 have h2':tmps[2]?.getD undef=.pointer (some ⟨rb,0,none⟩):=by simpa using h2
 have h3':tmps[3]?.getD undef=.int .i64 e:=by simpa using h3
 have h4':tmps[4]?.getD undef=.int .i64 ln:=by simpa using h4
 simp only[results,Tryz.results7];simp[Sem.run_bind,Result.andThen,h2',h3',h4',asAddr,Zm h]
theorem aaS(t:LB)(w:World)(ht:t.length<=1048576) :
 Calls Tryz.prog 7 #[.string (bs t)] w λe w'=>aA [] w w'/\∃vr vt er ln,e=.returned (.tuple #[.agg #[vr,vt],.int .i64 er,.int .i64 ln])/\ai2 w.heap.size w' vr vt er ln (mX t):=by
 have fM:=bS t;have j6:=bK w (Obj.cells #[.slice none 0 0,.slice none 0 0] 38);have vG:Z_ (CB (w.alloc (Obj.cells #[.slice none 0 0,.slice none 0 0] 38)) w.heap.size (.slice none 0 0) (.slice none 0 0)):=j6;clear j6
 by_cases ai3:1200<t.length
 ·have Hx:Z_ (mX t=.error (1,0)):=by show _=_;unfold mX;rw[a0j ai3]
  go_enter Tryz.func7,Tryz.ntmps7
  go_wp2;refine bodyPost_ret (results_read (vr:=.slice none 0 0) (vt:=.slice none 0 0) (e:=1) (ln:=0) (rb:=w.heap.size) ?_ (by rfl) (by rfl) (by rfl)) rfl ?_
  ·exact vG
  rw[Hx.o];exact⟨(aA.refl _ _).alloc _,_,_,_,_,rfl,rfl,rfl,rfl,rfl,a0a _⟩
 have HX:Z_ (mX t=match mD t with
  | .error n=>.error (2,n)
  | .ok (L,C)=>if 0<iX C then .error (3,iX C) else if 0<kN L C then .error (4,kN L C) else .ok (L,C)):=by
  show _=_;unfold mX;rw[a0g ai3]
 go_enter Tryz.func7,Tryz.ntmps7
 go_wp2_with fail
 refine(Vp t _ (by omega)).mono ?_;rintro e w1 ⟨aZ,vr,vt,ln,rfl,kz⟩;have fT:w.heap.size<w1.heap.size:=by have:=aZ.size;simp at this;omega
 have KB:Z_ (CB w1 w.heap.size (.slice none 0 0) (.slice none 0 0)):=vG.o.aB aZ (by simp);have KF:Z_ (aA [] w w1):=((aA.refl _ _).alloc _).trans aZ;clear aZ vG;cases lG:mD t with
 | error n =>
   rw[lG]at kz HX;obtain⟨rfl,rfl,rfl,hn⟩:=kz;have d0:=KB.o.c0;have d1:=KB.o.c1;have df:=KB.o.fz;have dJ:(0:Int)<(n:Int):=by omega
   go_wp2;refine bodyPost_ret (results_read (vr:=.slice none 0 0) (vt:=.slice none 0 0) (e:=2) (ln:=n) (rb:=w.heap.size) ?_ (by rfl) (by rfl) (by rfl)) rfl ?_
   ·exact((KB.o.set0 _).set1 _).aB (S:=[]) ((aA.refl _ _).alloc _) (by simp)
   rw[HX.o];exact⟨((KF.o.setCell (by simp) _).setCell (by simp) _).alloc _,_,_,_,_,rfl,rfl,rfl,rfl,rfl,by omega⟩
 | ok LC =>
   obtain⟨L,C⟩:=LC;have VH:=yJ t L C (by omega) lG;rw[lG]at kz HX;obtain⟨rfl,hs,vX,KQ,KW,uO⟩:=kz;obtain⟨a0,n0,rfl⟩:=hs.shape;obtain⟨a1,n1,rfl⟩:=aT KQ;have KS:Z_ (SL (w.heap.size+1) w1 (.slice a0 L.length n0) L):=aj (by simpa using hs);have KL:Z_ (RL (w.heap.size+1) w1 (.slice a1 vX.length n1) vX):=aj (by simpa using KQ);have KP:Z_ (oH (w.heap.size+1) w1 vX C):=aj (by simpa using KW);have KG:Z_ ((∀m∈L,aI m=true)/\L.length<=8/\(∀c∈C,ID c)):=VH;clear hs KQ KW VH lG;have Vy:=bK w1 (Obj.cells #[.slice a0 L.length n0,.slice a1 vX.length n1] 38);have HN:Z_ (CB (w1.alloc (Obj.cells #[.slice a0 L.length n0,.slice a1 vX.length n1] 38)) w1.heap.size (.slice a0 L.length n0) (.slice a1 vX.length n1)):=Vy;clear Vy;go_wp2_with fail
   refine(Vw (w.heap.size+1) _ vX C _ (KL.o.aB (S:=[]) ((aA.refl _ _).alloc _) (by simp)) (KP.o.aB (S:=[]) ((aA.refl _ _).alloc _) (by intro k hk;simp at hk)) uO (λc hc=>(KG.o.2.2 c hc).d)).mono ?_;rintro e w2 ⟨rfl,aS⟩;have F12:aA [] w1 w2:=((aA.refl _ _).alloc _).trans aS;have KN2:Z_ (CB w2 w1.heap.size (.slice a0 L.length n0) (.slice a1 vX.length n1)):=HN.o.aB aS (by simp);have KB2:Z_ (CB w2 w.heap.size (.slice none 0 0) (.slice none 0 0)):=KB.o.aB F12 (by simp);have KF2:Z_ (aA [] w w2):=KF.o.trans F12;have KS2:Z_ (SL (w.heap.size+1) w2 (.slice a0 L.length n0) L):=KS.o.aB F12 (by simp);have KL2:Z_ (RL (w.heap.size+1) w2 (.slice a1 vX.length n1) vX):=KL.o.aB F12 (by simp);have KP2:Z_ (oH (w.heap.size+1) w2 vX C):=KP.o.aB F12 (by intro k hk;simp at hk);clear aS F12 HN KB KF KS KL KP
   by_cases htf:0<iX C
   ·have Hx:Z_ (mX t=.error (3,iX C)):=by show _=_;rw[HX.o];simp[htf]
    have d0:=KB2.o.c0;have d1:=KB2.o.c1;have df:=KB2.o.fz;have dJ:(0:Int)<(iX C:Int):=by omega
    generalize iX C=tf at *;go_wp2;refine bodyPost_ret (results_read (vr:=.slice none 0 0) (vt:=.slice none 0 0) (e:=3) (ln:=tf) (rb:=w.heap.size) ?_ (by rfl) (by rfl) (by rfl)) rfl ?_
    ·exact(KB2.o.set0 _).set1 _
    rw[Hx.o];exact⟨(KF2.o.setCell (by simp) _).setCell (by simp) _,_,_,_,_,rfl,rfl,rfl,rfl,rfl,by omega⟩
   have htz:iX C=0:=by omega
   have e0:=KN2.o.c0;have e1:=KN2.o.c1;rw[htz];go_wp2_with fail
   refine(Vz (w.heap.size+1) _ _ L vX C _ KS2.o KL2.o KP2.o uO (by have:=KG.o.2.1;omega)).mono ?_;rintro e w3 ⟨rfl,bZ⟩;have KN3:Z_ (CB w3 w1.heap.size (.slice a0 L.length n0) (.slice a1 vX.length n1)):=KN2.o.aB bZ (by simp);have KB3:Z_ (CB w3 w.heap.size (.slice none 0 0) (.slice none 0 0)):=KB2.o.aB bZ (by simp);have KF3:Z_ (aA [] w w3):=KF2.o.trans bZ;have KS3:Z_ (SL (w.heap.size+1) w3 (.slice a0 L.length n0) L):=KS2.o.aB bZ (by simp);have KL3:Z_ (RL (w.heap.size+1) w3 (.slice a1 vX.length n1) vX):=KL2.o.aB bZ (by simp);have KP3:Z_ (oH (w.heap.size+1) w3 vX C):=KP2.o.aB bZ (by intro k hk;simp at hk);clear bZ KN2 KB2 KF2 KS2 KL2 KP2 e0 e1;have d0:=KB3.o.c0;have d1:=KB3.o.c1;have df:=KB3.o.fz
   by_cases hnf:0<kN L C
   ·have Hx:Z_ (mX t=.error (4,kN L C)):=by show _=_;rw[HX.o];simp[htz,hnf]
    have dJ:(0:Int)<(kN L C:Int):=by omega
    generalize kN L C=nf at *;clear htz htf;go_wp2;refine bodyPost_ret (results_read (vr:=.slice none 0 0) (vt:=.slice none 0 0) (e:=4) (ln:=nf) (rb:=w.heap.size) ?_ (by rfl) (by rfl) (by rfl)) rfl ?_
    ·exact(KB3.o.set0 _).set1 _
    rw[Hx.o];exact⟨(KF3.o.setCell (by simp) _).setCell (by simp) _,_,_,_,_,rfl,rfl,rfl,rfl,rfl,by omega⟩
   have hnz:kN L C=0:=by omega
   have Hx:Z_ (mX t=.ok (L,C)):=by show _=_;rw[HX.o];simp[htz,hnz]
   rw[hnz];have e0:=KN3.o.c0;have e1:=KN3.o.c1;clear htz htf hnz hnf;go_wp2;refine bodyPost_ret (results_read (vr:=.slice a0 L.length n0) (vt:=.slice a1 vX.length n1) (e:=0) (ln:=0) (rb:=w.heap.size) ?_ (by rfl) (by rfl) (by rfl)) rfl ?_
   ·exact(KB3.o.set0 _).set1 _
   have F:aA [w.heap.size] w3 ((w3.setCell ⟨w.heap.size,0,none⟩ (.slice a0 L.length n0)).setCell ⟨w.heap.size,1,none⟩ (.slice a1 vX.length n1)):=((aA.refl _ _).setCell (by simp) _).setCell (by simp) _;rw[Hx.o];refine⟨(KF3.o.setCell (by simp) _).setCell (by simp) _,_,_,_,_,rfl,rfl,rfl,(KS3.o.aB F (by simp)).base (by omega),vX,uF (KL3.o.aB F (by simp)) (by omega),(KP3.o.aB F (by intro k hk;simp at hk;exact Or.inl (by omega))).base (by omega),uO⟩
def iK(k:Nat):LB:=if k=1 then [33,61] else if k=2 then [61,126] else if k=3 then [33,126] else [61]
theorem kP(x y:UInt8):((x.toNat:Int)==(y.toNat:Int))=(x==y):=by
 rw[a0P,a0X,a0X]
 constructor
 ·intro h;exact a1w.1 (a2P.1 h)
 intro h;rw[h]
def ma(L:List LB)(n:LB):Int:=match L.findIdx? (·==n) with | some i=>(i:Int)|none=>-1
theorem ui(v:Value)(L:List LB)(n:LB)(w:World)(h:RS 0 w v L) :
 Calls Tryz.prog 38 #[v,.string (bs n)] w λe w'=>e=.returned (.int .i64 (ma L n))/\w=w':=by
 obtain⟨a,cap,rfl,h1,h2,h3⟩:=h;have H3:Z_ (∀j (h:j<L.length),∃g off,a=some ⟨g,off,none⟩/\0<=g/\w.cell? ⟨g,off+j,none⟩=some (.string (bs L[j]))):=h3;clear h3;have hl:=bg;go_enter Tryz.func38,Tryz.ntmps38
 go_wp2;go_loopg [5] L.length (λk i wr=>∃j,j+k=L.length/\i=.int .i64 j/\wr=w/\(∀x∈L.take j,(x==n)=false))
 case atStart=>exact⟨0,by omega,rfl,rfl,by simp⟩
 case round =>
  obtain⟨j,hj,rfl,hw,ja⟩:=hrel;subst hw;have mi:=aj ja;clear ja
  by_cases aO:j<L.length
  ·obtain⟨g,off,rfl,_,hc⟩:=H3.o j aO
   have Ht:Z_ (L.take (j+1)=L.take j++[L[j]]):=a0I aO;have Hf:Z_ ((L[j]==n)=true->L.findIdx? (·==n)=some j):=by
    intro he;rw[a1S];refine⟨aO,he,λi hi=>?_⟩;have:=mi.o (L[i]'(by omega)) (by rw[List.mem_take_iff_getElem];exact⟨i,by omega,rfl⟩);rw[this];simp
   generalize L[j]=x at *;cases he:(x==n)
   ·have xz:Z_ (∀y∈L.take (j+1),(y==n)=false):=by
     intro y hy;rw[Ht.o,a0b,a0y]at hy;rcases hy with hy|rfl
     ·exact mi.o y hy
     exact he
    go_wp2;go_roundg (gk-1)
    case measure=>omega
    case rel=>exact⟨j+1,by omega,by go_num,rfl,xz⟩
   have hg:Z_ (ma L n=(j:Int)):=by show _=_;unfold ma;rw[Hf.o he]
   go_wp2;go_ret;rw[hg.o];exact⟨rfl,rfl⟩
  have hg:Z_ (ma L n=-1):=by
   show _=_;have h:L.findIdx? (·==n)=none:=by
    rw[a2k];have:=mi.o;rw[a0D (by omega)]at this;exact this
   unfold ma;rw[h]
  go_wp2;go_ret;rw[hg.o];exact⟨rfl,rfl⟩
theorem IG(w:World)(c:UInt8):(convert 184 9 (.slice (some ⟨w.heap.size,0,none⟩) 1 1)).run Tryz.prog (w.alloc (.cells #[.int .u8 c.toNat] 5))=.ok (.string (bs [c])) (w.alloc (.cells #[.int .u8 c.toNat] 5)):=by
 have:=run_convert_bytes_back (P:=Tryz.prog) (w.alloc (.cells #[.int .u8 c.toNat] 5)) 184 9 5 ⟨w.heap.size,0,none⟩ 1 [c] Tryz.underlying184 Tryz.underlying5 Tryz.underlying9 (λj hj=>by
  have:j=0:=by simp at hj;exact hj
  subst this;rw[add0];unfold World.cell?;simp only[bK];rfl)
 exact this
def jE(c:UInt8):Int:=match uU.findIdx? (·==c) with | some i=>(i:Int)|none=>-1
theorem acB(c:UInt8):-1<=jE c/\jE c<=15:=by
 unfold jE;cases h:uU.findIdx? (·==c) with
 | none=>simp
 | some i =>
   have:=(a1S.1 h).1;have:uU.length=16:=rfl;simp only;omega
theorem VI(c:UInt8)(w:World) :
 Calls Tryz.prog 86 #[.int .u8 c.toNat] w λe w'=>e=.returned (.int .i64 (jE c))/\w=w':=by
 have afO:uU.length=16:=rfl;have fM:=bS uU;have aqi:({ data:=#[48,49,50,51,52,53,54,55,56,57,97,98,99,100,101,102] }:ByteArray)=bs uU:=rfl;go_enter Tryz.func86,Tryz.ntmps86
 go_wp2;go_loopg [3] 16 (λk i wr=>∃j,j+k=16/\i=.int .i64 j/\wr=w/\(∀x∈uU.take j,(x==c)=false))
 case atStart=>exact⟨0,by omega,rfl,rfl,by simp⟩
 case round =>
  obtain⟨j,hj,rfl,hw,ja⟩:=hrel;subst hw;have mi:=aj ja;clear ja
  by_cases aO:j<16
  ·have qM:j<uU.length:=aO
   have zS:(bs uU)[j]'(by rw[fM];exact qM)=uU[j]:=rfl;have Ht:Z_ (uU.take (j+1)=uU.take j++[uU[j]]):=a0I qM;have Hf:Z_ ((uU[j]==c)=true->jE c=(j:Int)):=by
    intro he;have:uU.findIdx? (·==c)=some j:=by
     rw[a1S];refine⟨qM,he,λi hi=>?_⟩;have:=mi.o (uU[i]'(by omega)) (by rw[List.mem_take_iff_getElem];exact⟨i,by omega,rfl⟩);rw[this];simp
    unfold jE;rw[this]
   generalize uU[j]=x at *;have FU:((x.toNat:Int)==(c.toNat:Int))=(x==c):=by
    rw[a0P,a0X,a0X]
    constructor
    ·intro h;exact a1w.1 (a2P.1 h)
    intro h;rw[h]
   cases he:(x==c)
   ·rw[he]at FU
    have xz:Z_ (∀y∈uU.take (j+1),(y==c)=false):=by
     intro y hy;rw[Ht.o,a0b,a0y]at hy;rcases hy with hy|rfl
     ·exact mi.o y hy
     exact he
    go_wp2;go_roundg (gk-1)
    case measure=>omega
    case rel=>exact⟨j+1,by omega,by go_num,rfl,xz⟩
   rw[he]at FU;have hg:=aj (Hf.o he);go_wp2;go_ret;rw[hg.o];exact⟨rfl,rfl⟩
  have hg:Z_ (jE c=-1):=by
   show _=_;have h:uU.findIdx? (·==c)=none:=by
    rw[a2k];have:=mi.o;rw[a0D (by rw[afO];omega)]at this;exact this
   unfold jE;rw[h]
  go_wp2;go_ret;rw[hg.o];exact⟨rfl,rfl⟩
def yc:LB->Int->Int
 | [],n=>n
 | c::r,n=>if kr c.toNat then yc r (10*n+c.toNat-48) else -1
def fZ(l:LB):Int :=
 if l.isEmpty then -1
 else if decide (5<l.length) then -1
 else if !(l.all lI) then -1
 else if (hd l==48)&&!(l == [48]) then -1 else yc l 0
abbrev ai4:ByteArray:=⟨#[48,49,50,51,52,53,54,55,56,57,97,98,99,100,101,102]⟩
theorem afP:∀(k:Nat) (h:k<ai4.size),ai4[k]'h=qa k:=by
 have h:∀k:Fin 16,ai4[k.1]'(by have:=k.2;exact this)=qa k.1:=by decide +kernel
 intro k hk;exact h ⟨k,hk⟩
theorem JM(s k:Nat):setName s (k+1)=setName s k++(if s.testBit k then [qa (k / 16),qa (k % 16)] else []):=rfl
theorem Br:∀(s k:Nat),(∀i,i<k->s.testBit i=false)↔(setName s k).isEmpty=true
 | s,0=>by simp[setName]
 | s,k+1=>by
   have ih:=Br s k;have ha:∀a b:LB,(a++b).isEmpty=(a.isEmpty&&b.isEmpty):=by intro a b;cases a<;>simp
   rw[JM,ha,a0N,<-ih]
   constructor
   ·intro h
    exact⟨λi hi=>h i (by omega),by rw[h k (by omega)];rfl⟩
   intro⟨h1,h2⟩ i hi
   by_cases e:i=k
   ·subst e
    cases hb:s.testBit i
    ·rfl
    rw[hb]at h2;simp at h2
   exact h1 i (by omega)
theorem ag3(w:World)(x y:UInt8):(convert 184 9 (.slice (some ⟨w.heap.size,0,none⟩) 2 2)).run Tryz.prog (w.alloc (.cells #[.int .u8 x.toNat,.int .u8 y.toNat] 5))=.ok (.string (bs [x,y])) (w.alloc (.cells #[.int .u8 x.toNat,.int .u8 y.toNat] 5)):=by
 have:=run_convert_bytes_back (P:=Tryz.prog) (w.alloc (.cells #[.int .u8 x.toNat,.int .u8 y.toNat] 5)) 184 9 5 ⟨w.heap.size,0,none⟩ 2 [x,y] Tryz.underlying184 Tryz.underlying5 Tryz.underlying9 (λj hj=>by
  have:j=0\/j=1:=by simp at hj;omega
  rcases this with rfl|rfl
  ·rw[add0];unfold World.cell?;simp only[bK];rfl
  rw[add0];unfold World.cell?;simp only[bK];rfl)
 exact this
def Pm(s:Nat):NF:=if s=0 then .zero else .set s
theorem ag4:(Tryz.prog.info? 137).map (·.size)=some 256:=by kernel_rfl
theorem aeG(b o s:Nat)(w wr:World)(z:ByteArray)(H:∀i,i<256->w.cell? ⟨b,o+i,none⟩=some (.bool (s.testBit i)))(F:aA [] w wr) :
 ∃LB:List Value,wr.rangeAt b o LB/\(Tryz.prog.info? 137).map (·.size)=some LB.length /\
  Tryz.prog.built 145 [(0,.int .u8 115),(1,.agg LB.toArray),(5,.string z)]=some (FJ 115 (bl s) qg qg yt z.data.toList):=by
 refine⟨(bl s).map Value.bool,?_,by rw[a0B,Iv];exact ag4,aoB s z⟩;intro j v hj;rw[a1d]at hj;cases jO:(bl s)[j]? with
 | none=>rw[jO]at hj;simp at hj
 | some x =>
   have qM:=(a0i.1 jO).1;rw[Iv]at qM;rw[Iw s j qM]at hj;simp only[a1x,Option.some.injEq]at hj;rw[<-hj];exact(F.cell (p:=⟨b,o+j,none⟩) (dL (H j qM)) (by simp)).trans (H j qM)
theorem M0(b o s:Nat)(w:World)(h:∀i,i<256->w.cell? ⟨b,o+i,none⟩=some (.bool (s.testBit i)))(hs:s<2 ^ 256) :
 Calls Tryz.prog 69 #[.pointer (some ⟨b,o,none⟩)] w (xI w (Pm s)):=by
 have H:=aj h;clear h;go_enter Tryz.func69,Tryz.ntmps69
 go_wp2_with fail
 go_loopg [3,4,5] 256 (λk v3 v4 v5 wr=>∃(c:Nat),c+k=256/\v5=.int .i64 c/\v3=.string (bs (115::setName s c))/\v4=.bool (!(setName s c).isEmpty)/\aA [] w wr)
 case atStart=>exact⟨0,rfl,rfl,rfl,rfl,aA.refl _ _⟩
 case round =>
  obtain⟨c,hck,rfl,rfl,rfl,hf⟩:=hrel;have F:=aj hf;clear hf;have Hn:=aj (JM s c)
  by_cases hc:c<256
  ·have aV:wr.cell? ⟨b,o+c,none⟩=some (.bool (s.testBit c)):=(F.o.cell (p:=⟨b,o+c,none⟩) (dL (H.o c hc)) (by simp)).trans (H.o c hc)
   cases hb:s.testBit c
   ·rw[hb]at aV Hn
    simp only[a0n,a0G,a0Q]at Hn;go_wp2;go_roundg (gk-1)
    case measure=>omega
    case rel=>exact⟨c+1,by omega,by go_num,by rw[Hn.o],by rw[Hn.o],F⟩
   rw[hb]at aV Hn;simp only[a0C]at Hn;have hq:(c:Int).tdiv 16=((c / 16:Nat):Int):=by rw[a2D (by omega)];omega
   have hm:(c:Int).tmod 16=((c % 16:Nat):Int):=by rw[a2f (by omega)];omega
   have aoD:c / 16<16:=by omega
   have aoE:c % 16<16:=by omega
   have hx:=afP (c / 16) aoD;have hy:=afP (c % 16) aoE;have hl:=Dx s c;have e1:bs (115::setName s c)++bs [qa (c / 16),qa (c % 16)]=bs (115::setName s (c+1)):=by rw[kH,Hn.o];rfl
   have s1:(bs (115::setName s c)).size=(setName s c).length+1:=bS _;have s2:(bs [qa (c / 16),qa (c % 16)]).size=2:=rfl;have q1:¬ (9223372036854775807<(setName s c).length+1+2):=by omega
   have hcv:(convert 184 9 (.slice (some ⟨wr.heap.size,0,none⟩) 2 2)).run Tryz.prog (wr.alloc (.cells #[.int .u8 (qa (c / 16)).toNat,.int .u8 (qa (c % 16)).toNat] 5)).drew=.ok (.string (bs [qa (c / 16),qa (c % 16)])) (wr.alloc (.cells #[.int .u8 (qa (c / 16)).toNat,.int .u8 (qa (c % 16)).toNat] 5)).drew:=ag3 wr.drew (qa (c / 16)) (qa (c % 16));have x8:=(qa (c / 16)).toNat_lt;have y8:=(qa (c % 16)).toNat_lt;generalize c / 16=cq at *;generalize c % 16=cm at *;go_wp2_with fail
   go_region
   go_wp2;go_roundg (gk-1)
   case measure=>omega
   case rel=>exact⟨c+1,by omega,by go_num,rfl,by rw[Hn.o];simp,(F.o.drew).alloc _⟩
  have VJ:c=256:=by omega
  subst VJ;have hz:(setName s 256).isEmpty=decide (s=0):=by
   by_cases e:s=0
   ·subst e
    rw[(Br 0 256).1 (λi _=>Nat.zero_testBit i)];rfl
   have:¬ (setName s 256).isEmpty=true:=by
    rw[<-Br s 256];intro fJ;obtain⟨i,hi⟩:=Nat.exists_testBit_of_ne_zero e
    by_cases Si:i<256
    ·rw[fJ i Si]at hi;simp at hi
    have aO:s<2 ^ i:=a0x hs (a1r (by decide) (by omega));rw[a1B aO]at hi;simp at hi
   simp only[a2J]at this;rw[this];simp[e]
  by_cases e:s=0
  ·rw[a0h e]at hz
   have HR:Z_ (Pm s=.zero):=a0j e;have N:=aj (lC wr);rw[hz];clear Hn hz;simp only[a2q];go_wp2_with fail
   refine(N.o).mono ?_;rintro e2 w1 ⟨p,rfl,hp,hf⟩;have P:=aj hp;have F2:=aj (F.o.trans hf);clear hp hf N;unfold aK;go_wp2;go_ret;rw[HR.o];exact⟨p,rfl,P,F2⟩
  rw[a0f e]at hz;have HR:Z_ (Pm s=.set s):=a0g e;rw[hz];obtain⟨LB,Hrg,fM,ST⟩:=aeG b o s w wr (bs (115::setName s 256)) H.o F;have fin:Z_ (TN (wr.alloc (Obj.cells (FJ 115 (bl s) qg qg yt (bs (115::setName s 256)).data.toList) 145)) wr.heap.size (.set s)):=by
   show TN _ _ _;simp only[TN];refine TK.of ?_ (Iv s);rw[Iz];simp only[name]
  obtain⟨C,hC⟩:∃C,FJ 115 (bl s) qg qg yt (bs (115::setName s 256)).data.toList=C:=⟨_,rfl⟩;rw[hC]at ST fin;clear Hn hz hC;simp only[a1y];go_wp2_with (first | refine wpList_load_mid rfl 137 _ rfl b o rfl LB _ Hrg Tryz.underlying137 rfl fM ?_|refine wpList_buildTo rfl 145 _ rfl _ rfl C (by rw[Array.toList_map];exact ST) ?_)
  go_ret;rw[HR.o];exact⟨_,rfl,fin,F.o.alloc _⟩
theorem Zr:∀(a b:LB),Op.bytesLess a b=blt a b
 | [],[]=>rfl
 | [],_::_=>rfl
 | _::_,[]=>rfl
 | a::x,b::y=>by
   simp only[Op.bytesLess,blt,Zr x y];cases h1:decide (a<b)
   ·have:¬ a<b:=by simpa using h1
    rw[a0g this];cases h2:(a==b)<;>simp
   have:a<b:=by simpa using h1
   rw[a0j this];simp
theorem aaT:∀(l:List NF) (x:NF) (j:Nat),(∀y∈l.take j,blt (name y) (name x)=true)->(∀y,l[j]?=some y->blt (name y) (name x)=false)->j<=l.length ->
 put l x=(match l[j]? with | some y=>if name y==name x then l else l.take j++x::l.drop j|none=>l.take j++x::l.drop j)
 | [],x,j,_,_,hj=>by
   have:j=0:=by simpa using hj
   subst this;simp[put]
 | y::r,x,0,_,h2,_=>by
   have h3:=h2 y rfl;simp only[put,h3,a0n,a0G,a2O,List.take_zero,a1a,a2A]
 | y::r,x,j+1,h1,h2,hj=>by
   have h3:=h1 y (by simp);have ih:=aaT r x j (λz hz=>h1 z (by simp[hz])) (λz hz=>h2 z (by simpa using hz)) (by simpa using hj);simp only[put,h3,a0C,a1u,a2N,a3j,a0J];rw[ih];cases r[j]? with
   | none=>rfl
   | some z=>simp only[];split<;>rfl
theorem Au:(Tryz.prog.info? 141).map (λi=>(i.zero,i.size,i.bytes))=some (some (.pointer none),1,8):=by kernel_rfl
theorem M3 {ops:Array Oper} {rest:List Oper} {o:Oper} {a:Act} {Q:Exit->Act->World->Prop}(w:World)(nJ:o.guard=none)(s x:Operand)
 (ho:o.op=.call { callee:=.builtin .append,args:=#[s,x],argTypes:=#[143,143] })
 (base:Nat) (v:Value) (xs news:List Value) (N g2 o2 m c:Nat) (hN:N=xs.length+m) (Jq:news.length=m) (hs:a.eval s=v) (aQ:OV 141 base w v xs) (hx:a.eval x=.slice (some ⟨g2,o2,none⟩) m c)
 (hc:∀j u,news[j]?=some u->w.cell? ⟨g2,o2+j,none⟩=some u) (hv:∀u∈news,u.oneCell'=true) (hm:0<m) (hlen:(xs.length+m)*8<=140737488355328) (iW:base<=w.heap.size)
 (h:∀g cap w',OV 141 base w' (.slice (some ⟨g,0,none⟩) N cap) (xs++news)->w.grownBy w' v.ownBlock->wpList Tryz.prog ops Q rest (a.put o.dst (.slice (some ⟨g,0,none⟩) N cap)) w') :
 wpList Tryz.prog ops Q (o::rest) a w:=by
 subst hN;obtain⟨i0,hi,iA,fT,gF⟩:=info_parts Au;refine wpList_append_lies w nJ s x 143 ho base 141 i0 (.pointer none) 1 8 Tryz.underlying143 hi iA fT gF rfl (by decide) v xs.length xs hs aQ ⟨g2,o2,none⟩ m c news hx (by omega) ?_ hv hm (by unfold maxLen;omega) hlen iW w.heap.size rfl ?_
 ·intro j y hj
  rw[Addr.add_mid];exact hc j y hj
 intro g cap w' h1 h2 h3 h4;exact h g cap w' (by unfold OV;rw[a0v,Jq];exact h1) h2
theorem OV.afQ {base:Nat}(h:OV e base w (.slice a n cap) xs):n<=cap:=by
 rcases h.2 with⟨e,h0⟩|⟨g,c,cur,e,hb,hg,hnc,rest⟩
 ·simp only[Value.slice.injEq]at e;omega
 simp only[Value.slice.injEq]at e;obtain⟨_,h1,h2⟩:=e;omega
theorem Ga(L:LN):∀u∈L.map aK,u.oneCell'=true:=by
 intro u hu;obtain⟨n,_,rfl⟩:=a0s.1 hu
 rfl
def TV(w:World)(v:Value)(l:List NF):Prop:=∃ps,RVq w v (ps.map aK)/\iQ w ps l
theorem TV.aB {l:List NF}(h:TV w v l)(f:aA [] w w'):TV w' v l:=by
 obtain⟨ps,h1,h2⟩:=h;exact⟨ps,h1.aB f,h2.aB f⟩
def PtQ(w:World)(l:List NF)(e:Ending)(w':World):Prop:=∃v,e=.returned v/\TV w' v l/\aA [] w w'
theorem Zs(w:World)(v:Value)(l:List NF)(p:Nat)(x:NF)(hv:TV w v l)(hx:TN w p x)(hl:l.length<=10000000000000) :
 Calls Tryz.prog 89 #[v,aK p] w (PtQ w (put l x)):=by
 obtain⟨ps,⟨Jo,av,n,cap,rfl,hn,acu,qZ,hc⟩,hs⟩:=hv;have hlen:=hs.len;rw[a0B]at hn;have rU:n=l.length:=hn.trans hlen;subst rU;have nmx:=hx.nm;have X:=aj hx;have Hc:=aj hc;have Hs:=aj hs;have Av:=aj hlen;have Hbd:=aj Jo;have Hab:=aj qZ;clear qZ;have jO:=bg;unfold aK;clear hc hs hx hn hlen Jo;go_enter Tryz.func89,Tryz.ntmps89
 go_wp2_with fail
 go_loopg [5] l.length (λk v5 wr=>∃(j:Nat),j+k=l.length/\v5=.int .i64 j/\aA [] w wr/\(∀y∈l.take j,blt (name y) (name x)=true))
 case atStart=>exact⟨0,by omega,rfl,aA.refl _ _,by simp⟩
 case round =>
  obtain⟨j,sI,rfl,hf,ja⟩:=hrel;have F:=aj hf;have mi:=aj ja;have aqj:=(hf.cell (p:=⟨p,260,none⟩) (dL nmx) (by simp)).trans nmx;clear hf ja
  by_cases hj:j<l.length
  ·obtain⟨y,hy⟩:∃y,l[j]?=some y:=⟨l[j],a0c hj⟩
   obtain⟨q,hq,DK⟩:=Hs.o.get j y hy;obtain⟨g,rfl,aV⟩:=Hc.o j (aK q) (by rw[a1d,hq];rfl);have afR:=(F.o.cell (p:=⟨g,j,none⟩) (dL aV) (by simp)).trans aV;have nmy:=(DK.aB F).nm;have Sy:decide ((j:Int)<(l.length:Int))=true:=a0h (by omega);have hji:(j:Int)<(l.length:Int):=by omega
   have Hy:=aj hy;have aO:=Zr (name y) (name x);unfold aK at afR;clear aV hq DK hy;cases hb:blt (name y) (name x)
   case true =>
    rw[hb]at aO;have Ht:Z_ (l.take (j+1)=l.take j++[y]):=by show _=_;rw[a1n,Hy.o];rfl
    go_wp2_with fail
    go_quiet (fail)
    go_wp2;go_roundg (gk-1)
    case measure=>omega
    case rel =>
     refine⟨j+1,by omega,by go_num,F.o.drewN _,?_⟩;intro z hz;rw[Ht.o,a0b,a0y]at hz;rcases hz with hz|rfl
     ·exact mi.o z hz
     exact hb
   case false =>
    rw[hb]at aO;have HP:=aj (aaT l x j mi.o (λz hz=>by rw[Hy.o]at hz;simp at hz;subst hz;exact hb) (by omega));rw[Hy.o]at HP;simp only[]at HP;cases TS:(name y==name x)
    case true =>
     rw[TS]at HP;simp only[a0C]at HP;go_wp2_with fail
     go_quiet (fail)
     go_wp2_with fail
     go_quiet (fail)
     go_wp2;go_ret;rw[HP.o];exact⟨_,rfl,TV.aB ⟨ps,⟨Hbd,_,_,cap,rfl,by rw[a0B,Av.o],acu,.inr ⟨g,rfl⟩,Hc⟩,Hs⟩ ((F.o.drewN _).drewN _),(F.o.drewN _).drewN _⟩
    case false =>
     rw[TS]at HP;simp only[a0n,a0G]at HP;go_wp2_with fail
     go_quiet (fail)
     go_wp2_with fail
     go_quiet (fail)
     have Lb:∀i u,(ps.map aK)[i]?=some u->w.cell? ⟨g,i,none⟩=some u:=by
      intro i u hu;obtain⟨g',e,h⟩:=Hc.o i u hu;simp at e;subst e;exact h
     have HF:Z_ (∀n,aA [] w (wr.drewN n)):=λn=>F.o.drewN n
     have pY:=Av.o;have zw:=F.o.size;have Yk:Z_ (∀n i u,((ps.take j).map aK)[i]?=some u->(wr.drewN n).cell? ⟨g,0+i,none⟩=some u):=by
      intro n i u hu;rw[a1v];rw[List.map_take,List.getElem?_take]at hu
      split at hu
      ·have h:=Lb i u hu
       exact((HF.o n).cell (p:=⟨g,i,none⟩) (dL h) (by simp)).trans h
      simp at hu
     have HC2:Z_ (∀W,aA [] w W->∀i u,((ps.drop j).map aK)[i]?=some u->W.cell? ⟨g,j+i,none⟩=some u):=by
      intro W hW i u hu;rw[List.map_drop,List.getElem?_drop]at hu;have h:=Lb (j+i) u hu;exact(hW.cell (p:=⟨g,j+i,none⟩) (dL h) (by simp)).trans h
     have HC3:Z_ (∀W,aA [] w W->∀i u,(ps.map aK)[i]?=some u->W.cell? ⟨g,0+i,none⟩=some u):=by
      intro W hW i u hu;rw[a1v];have h:=Lb i u hu;exact(hW.cell (p:=⟨g,i,none⟩) (dL h) (by simp)).trans h
     clear Lb
     by_cases j0:j=0
     ·subst j0
      go_wp2_with (first | (at_builtin;refine Ak _ rfl _ _ 143 141 _ 8 Au Tryz.underlying143 rfl rfl w.heap.size (.slice none 0 0) [] 1 wr.heap.size (aK p) rfl rfl (OV.nil _ _ _) rfl (kK _ _ _ _ rfl) rfl (by simp) (by simp) (by simp;omega) ?_;intro g8 c8 w8 aQ aG aX iD;have O8:=aj aQ;have F8:=aj (((HF.o _).alloc _).grown aG (λk hk=>by simp[Value.ownBlock]at hk));have z8:=F8.o.size;have k8:=OV.afQ aQ;clear aQ aG aX iD)|(at_builtin;refine M3 _ rfl _ _ rfl w.heap.size (.slice (some ⟨g8,0,none⟩) 1 c8) ([]++[aK p]) (ps.map aK) (l.length+1) _ _ _ _ (by simp;omega) (by simp;omega) rfl O8.o rfl (HC3.o _ F8) (Ga _) (by omega) (by simp;omega) z8 ?_;intro g9 c9 w9 aQ aG;have O9:=aj aQ;have F9:=aj (F8.o.grown aG (λk hk=>.inr (O8.o.base k hk)));clear aQ aG))
      go_ret;rw[HP.o];have e:(([]:List Value)++[aK p])++ps.map aK=(p::ps).map aK:=rfl;refine⟨_,rfl,⟨p::ps,?_,?_⟩,F9⟩
      ·rw[<-e];exact O9.o.rv (by simp;omega)
      show iQ _ _ (x::l);simp only[iQ];exact⟨X.o.aB F9,Hs.o.aB F9⟩
     go_wp2_with (first | (at_builtin;refine M3 _ rfl _ _ rfl w.heap.size (.slice none 0 0) [] ((ps.take j).map aK) j _ _ _ _ (by simp) (by simp;omega) rfl (OV.nil _ _ _) rfl (Yk.o _) (Ga _) (by omega) (by simp;omega) (HF.o _).size ?_;intro g7 c7 w7 aQ aG;have O7:=aj aQ;have F7:=aj ((HF.o _).grown aG (λk hk=>by simp[Value.ownBlock]at hk));have z7:=a0e (HF.o _).size aG.size;clear aQ aG)|(at_builtin;refine Ak _ rfl _ _ 143 141 _ 8 Au Tryz.underlying143 rfl rfl w.heap.size (.slice (some ⟨g7,0,none⟩) j c7) ([]++(ps.take j).map aK) (j+1) w7.heap.size (aK p) (by simp;omega) rfl (O7.o.aB (S:=[]) ((aA.refl [] _).alloc _) (by simp)) rfl (kK _ _ _ _ rfl) rfl (by simp;omega) (by simp;omega) (by simp;omega) ?_;intro g8 c8 w8 aQ aG aX iD;have O8:=aj aQ;have F8:=aj ((F7.o.alloc _).grown aG (λk hk=>.inr (O7.o.base k hk)));have z8:=F8.o.size;have k8:=OV.afQ aQ;clear aQ aG aX iD)|(at_builtin;refine M3 _ rfl _ _ rfl w.heap.size (.slice (some ⟨g8,0,none⟩) (j+1) c8) ([]++(ps.take j).map aK++[aK p]) ((ps.drop j).map aK) (l.length+1) _ _ _ _ (by simp;omega) (by simp;omega) rfl O8.o rfl (HC2.o _ F8) (Ga _) (by omega) (by simp;omega) z8 ?_;intro g9 c9 w9 aQ aG;have O9:=aj aQ;have F9:=aj (F8.o.grown aG (λk hk=>.inr (O8.o.base k hk)));clear aQ aG))
     go_ret;rw[HP.o];have e:([]++(ps.take j).map aK++[aK p])++(ps.drop j).map aK=(ps.take j++p::ps.drop j).map aK:=by simp
     have ht:=(Hs.o.aB F9).take j;refine⟨_,rfl,⟨ps.take j++p::ps.drop j,?_,?_⟩,F9⟩
     ·rw[<-e];exact O9.o.rv (by simp;omega)
     refine ht.1.app ?_;simp only[iQ];exact⟨X.o.aB F9,ht.2⟩
  have ou:j=l.length:=by omega
  have Sy:decide ((j:Int)<(l.length:Int))=false:=a0f (by omega);have HP:=aj (aaT l x j mi.o (λz hz=>by rw[a1W (by omega)]at hz;simp at hz) (by omega));rw[a1W (by omega)]at HP;simp only[]at HP;rw[a0D (by omega),a0p (by omega)]at HP;have HF:Z_ (∀n,aA [] w (wr.drewN n)):=λn=>F.o.drewN n
  have pY:=Av.o;have zw:=F.o.size;have fin:Z_ (∀W v7,aA [] w W->OV 141 w.heap.size W v7 ((ps++[p]).map aK)->PtQ w (put l x) (.returned v7) W):=by
   intro W v7 hW hO;rw[HP.o];refine⟨_,rfl,⟨ps++[p],hO.rv (by simp;omega),(Hs.o.aB hW).app ?_⟩,hW⟩;simp only[iQ];exact⟨X.o.aB hW,trivial⟩
  by_cases l0:l.length=0
  ·have aoF:ps=[]:=List.length_eq_zero_iff.1 (by omega)
   have si:j=0:=by omega
   subst si;rw[l0]at Sy |-;clear ou l0 hj pY sI;rcases Hab.o with⟨rfl,rfl⟩|⟨g,rfl⟩
   all_goals
    go_wp2_with fail
    go_quiet (fail)
    go_wp2_with fail
    go_quiet (fail)
    go_wp2_with (first | (at_builtin;refine Ak _ rfl _ _ 143 141 _ 8 Au Tryz.underlying143 rfl rfl w.heap.size (.slice none 0 0) [] 1 wr.heap.size (aK p) rfl rfl (OV.nil _ _ _) rfl (kK _ _ _ _ rfl) rfl (by simp) (by simp) (by simp;omega) ?_;intro g8 c8 w8 aQ aG aX iD;have O8:=aj aQ;have F8:=aj (((HF.o _).alloc _).grown aG (λk hk=>by simp[Value.ownBlock]at hk));have z8:=F8.o.size;have k8:=OV.afQ aQ;clear aQ aG aX iD))
    all_goals
     go_ret;refine fin.o _ _ F8.o ?_;rw[aoF];exact O8
  obtain⟨y,hy⟩:∃y,l[0]?=some y:=⟨l[0]'(by omega),a0c (by omega)⟩;obtain⟨q,hq,_⟩:=Hs.o.get 0 y hy;obtain⟨g,rfl,_⟩:=Hc.o 0 (aK q) (by rw[a1d,hq];rfl);clear hq hy;have Yk:Z_ (∀n i u,((ps.take j).map aK)[i]?=some u->(wr.drewN n).cell? ⟨g,0+i,none⟩=some u):=by
   intro n i u hu;rw[a1v];rw[a0D (by omega)]at hu;obtain⟨g',e,h⟩:=Hc.o i u hu;simp at e;subst e;exact((HF.o n).cell (p:=⟨g,i,none⟩) (dL h) (by simp)).trans h
  have si:¬ j=0:=by omega
  have amd:l.length=j:=ou.symm;rw[amd]at Sy |-;have aqa:j<=cap:=by omega
  clear amd;have hpj:ps.length=j:=by omega
  have hlj:j<=10000000000000:=by omega
  have Hje:=aj ou;clear ou;go_wp2_with fail
  go_quiet (fail)
  go_wp2_with fail
  go_quiet (fail)
  go_wp2_with (first | (at_builtin;refine M3 _ rfl _ _ rfl w.heap.size (.slice none 0 0) [] ((ps.take j).map aK) j _ _ _ _ (by simp) (by simp;omega) rfl (OV.nil _ _ _) rfl (Yk.o _) (Ga _) (by omega) (by simp;omega) (HF.o _).size ?_;intro g7 c7 w7 aQ aG;have O7:=aj aQ;have F7:=aj ((HF.o _).grown aG (λk hk=>by simp[Value.ownBlock]at hk));have z7:=a0e (HF.o _).size aG.size;clear aQ aG)|(at_builtin;refine Ak _ rfl _ _ 143 141 _ 8 Au Tryz.underlying143 rfl rfl w.heap.size (.slice (some ⟨g7,0,none⟩) j c7) ([]++(ps.take j).map aK) (j+1) w7.heap.size (aK p) (by simp;omega) rfl (O7.o.aB (S:=[]) ((aA.refl [] _).alloc _) (by simp)) rfl (kK _ _ _ _ rfl) rfl (by simp;omega) (by simp;omega) (by simp;omega) ?_;intro g8 c8 w8 aQ aG aX iD;have O8:=aj aQ;have F8:=aj ((F7.o.alloc _).grown aG (λk hk=>.inr (O7.o.base k hk)));have z8:=F8.o.size;have k8:=OV.afQ aQ;clear aQ aG aX iD))
  all_goals
   go_ret;refine fin.o _ _ F8.o ?_;have e:[]++(ps.take j).map aK++[aK p]=(ps++[p]).map aK:=by rw[a0D (by have:=Hje.o;omega)];simp
   rw[<-e];exact O8
end Go.Proofs.YtgbdcmpmmkfbhaaGreat
