import Derived.Test.YtgbdcmpmmkfbhaaGreatJ15
import Derived.Deep.RegionLaw
import Derived.Test.YtgbdcmpmmkfbhaaGreatJ7
import Derived.Deep.DeepCutAuto
import Derived.Test.YtgbdcmpmmkfbhaaGreatJ1
set_option linter.unusedVariables false
set_option linter.unusedSimpArgs false
set_option linter.unnecessarySimpa false
set_option maxRecDepth 100000
set_option maxHeartbeats 8000000
namespace Go.Proofs.YtgbdcmpmmkfbhaaGreat
variable {w w' w4:World} {b cap cb g g0 j k k0 n n0:Nat} {B S:LN} {v vl vr vw x y z:Value} {L W:List LB} {a:Option Addr} {M:List RM} {cur adv:Array Value} {t:TypeId} {s0:LB} {e0:RX}
open Go.RowKit
structure jK where
 rc:LB
 dP:Value
 t0:Int
 t1:Int
 t2:Int
 iB:Value
 on:Bool
 vk:Value
 d:Int
 row:Int
def jK.cells(r:jK):Array Value:=#[.string (bs r.rc),r.dP,.int .i64 r.t0,.int .i64 r.t1,.int .i64 r.t2,r.iB,.bool r.on,r.vk,.int .i64 r.d,.int .i64 r.row]
def pN(w:World)(b:Nat)(r:jK):Prop:=w.heap[b]?=some (.cells r.cells 77 (0,0))
theorem pN.lt {r:jK}(h:pN w b r):b<w.heap.size:=(a0d.1 h).1
theorem pN.cell {r:jK}(h:pN w b r)(o:Nat):w.cell? ⟨b,o,none⟩=r.cells[o]?:=by
 unfold pN at h;simp[World.cell?,h]
theorem pN.fz {r:jK}(h:pN w b r)(o:Nat):w.frozen? ⟨b,o,none⟩=false:=by
 unfold pN at h;simp[World.frozen?,h]
theorem pN.aB {r:jK}(h:pN w b r)(f:aA S w w')(hS:b∉S):pN w' b r:=(f.block b h.lt hS).trans h
theorem pN.set {r:jK}(h:pN w b r)(o:Nat)(v:Value)(r':jK)(e:r'.cells=r.cells.setIfInBounds o v):pN (w.setCell ⟨b,o,none⟩ v) b r':=by
 unfold pN at *;simp[World.setCell,a0t,h,e]
def AM(m:RM):List Value:=[.string (bs m.1),.string (bs m.2.1),.string (bs m.2.2),.pointer none]
def ivl(M:List RM):List Value:=M.flatMap AM
def PQ(base:Nat)(w:World)(v:Value)(M:List RM):Prop:=w.ownsRow base 82 4 v M.length (ivl M)
theorem PQ.aB {base:Nat} {L:List RM}(h:PQ base w v L)(f:aA S w w')(hS:∀k,k∈S->k<base):PQ base w' v L:=ek h f hS
theorem PQ.nil(base:Nat)(w:World):PQ base w (.slice none 0 0) []:=World.ownsRow_nil w base _ 4
theorem alT:(Tryz.prog.info? 82).map (λi=>(i.zero,i.size,i.bytes))=some (some (.agg #[.string ByteArray.empty,.string ByteArray.empty,.string ByteArray.empty,.pointer none]),4,56):=by kernel_rfl
def wIf:LB:=[105,102]
def zN:LB:=[99,111,110,116,105,110,117,101]
def dC:Nat->List LB->List RM->List RM × Bool × Bool
 | 0,_,acc=>(acc,false,false)
 | k+1,W,acc =>
   if decide (1<W.length)&&(W.getD 0 []==wIf) then
    (if (pM (W.getD 1 [])).2 then dC k (W.drop 2) (acc++[(pM (W.getD 1 [])).1]) else (acc,false,false))
   else if (W.length==1)&&(W.getD 0 []==zN) then (acc,true,decide (acc.length<=4))
   else (acc,false,W.isEmpty&&decide (acc.length<=4))
theorem RS.yg {base:Nat}(h:RS base w (.slice a n cap) W)(h0:0<W.length):∃g off,a=some ⟨g,off,none⟩/\base<=g/\n=W.length/\W.length<=cap/\∀j,j<W.length->w.cell? ⟨g,off+j,none⟩=some (.string (bs (W.getD j []))):=by
 obtain⟨a',xJ,e,h1,h2,h3⟩:=h;simp at e;obtain⟨rfl,rfl,rfl⟩:=e;obtain⟨g,off,rfl,hb,_⟩:=h3 0 h0;refine⟨g,off,rfl,hb,rfl,h2,λj hj=>?_⟩;obtain⟨g',off',e,Jf,hc⟩:=h3 j hj;simp at e;obtain⟨rfl,rfl⟩:=e;rw[hc];simp[hj]
theorem RS.drop2 {base:Nat}{off:Nat}(h:RS base w (.slice (some ⟨g,off,none⟩) n cap) W)(k:Nat)(hk:k<=W.length):RS base w (.slice (some ⟨g,off+k,none⟩) (n-k) (cap-k)) (W.drop k):=by
 obtain⟨a',xJ,e,h1,h2,h3⟩:=h;simp at e;obtain⟨rfl,rfl,rfl⟩:=e;refine⟨some ⟨g,off+k,none⟩,cap-k,by simp,by simp;omega,by simp;omega,λj hj=>?_⟩;simp at hj;obtain⟨g',off',e,Jf,hc⟩:=h3 (k+j) (by omega);simp at e;obtain⟨rfl,rfl⟩:=e;refine⟨g,off+k,rfl,Jf,?_⟩;rw[Nat.add_assoc,hc];simp
theorem ahB(b base:Nat)(v:Value)(W:List LB)(r:jK)(w:World)(hr:pN w b r)(hw:RS base w v W)(hb:b<base)(Ph:r.iB=.slice none 0 0)(hon:r.on=false)(hW:W.length<=10000)(EH:∀x∈W,x.length<=100000) :
 Calls Tryz.prog 37 #[.pointer (some ⟨b,0,none⟩),v] w λe w'=>e=.returned (.bool (dC (W.length+1) W []).2.2)/\(∃v',pN w' b { r with iB:=v',on:=(dC (W.length+1) W []).2.1 }/\PQ w.heap.size w' v' (dC (W.length+1) W []).1)/\aA [b] w w':=by
 obtain⟨rc,dP,t0,t1,t2,iB,on,vk,d,row⟩:=r;simp only at Ph hon;subst Ph hon;have Hw:=aj hw;have Hr:=aj hr;have Hl:=aj EH;have jO:=hr.lt;obtain⟨a,cap,e,_⟩:=hw;subst e;clear hr EH;have EM:=bg;have kI:({ data:=#[105,102] }:ByteArray).toList=wIf:=bg _;have kC:({ data:=#[99,111,110,116,105,110,117,101] }:ByteArray).toList=zN:=bg _;obtain⟨i0,hi,KH,Sv,EK⟩:=info_parts alT;generalize amM:dC (W.length+1) W []=RES at *;have apo:=aj amM;clear amM;go_enter Tryz.func37,Tryz.ntmps37
 go_wp2_with fail
 go_loopg [1] (W.length+1) (λk vw wr=>∃(W':List LB) (acc:List RM) (vi:Value),W'.length<k/\acc.length+W'.length<=W.length/\(∀x∈W',x.length<=100000)/\RS base w vw W'/\pN wr b ⟨rc,dP,t0,t1,t2,vi,false,vk,d,row⟩/\PQ w.heap.size wr vi acc/\dC k W' acc=RES/\aA [b] w wr)
 case atStart=>exact⟨W,[],_,a2B _,by simp,Hl,Hw,Hr,PQ.nil _ _,apo,aA.refl _ _⟩
 case round =>
 obtain⟨W',acc,vi,hWk,Ze,EH,wR,ko,jf,gP,bU⟩:=hrel;clear Hw Hr Hl;have Xf:=wR;obtain⟨a',xJ,e,_,hWc,_⟩:=wR;subst e;have Bq:=aj Xf;have rX:=aj ko;have Hil:=aj jf;have Hg:=aj gP;have Hf:=aj bU;have Hwl:=aj EH;have Be:=ko.lt;have hzr:=bU.size;obtain⟨m,rfl⟩:∃m,gk=m+1:=⟨gk-1,by omega⟩;clear Xf ko jf gP bU EH
 by_cases h1:1<W'.length
 ·have iH:decide ((1:Int)<(W'.length:Int))=true:=a0h (by omega)
  obtain⟨g,off,ha,NG,_,_,aV⟩:=(Bq.o.aB Hf.o (by simp;omega)).yg (by omega);subst ha;have c0:wr.cell? ⟨g,off,none⟩=some (.string (bs (W'.getD 0 []))):=aV 0 (by omega);have c1:wr.cell? ⟨g,off+1,none⟩=some (.string (bs (W'.getD 1 []))):=aV 1 (by omega);have hx1:(W'.getD 1 []).length<=100000:=Hwl.o _ (by rw[a0F,a0c h1];exact a0z h1);have bN:Z_ (RES=if (W'.getD 0 []==wIf) then (if (pM (W'.getD 1 [])).2 then dC m (W'.drop 2) (acc++[(pM (W'.getD 1 [])).1]) else (acc,false,false)) else (acc,false,false)):=by
   show _=_;rw[<-Hg.o];conv=>lhs;unfold dC
   have e1:(W'.length==1)=false:=a0k.2 (by omega);have e2:W'.isEmpty=false:=by
    cases W' with
    | nil=>simp at h1
    | cons=>rfl
   rw[a0h h1,e1,e2];simp
  clear aV Hg;generalize W'.getD 0 []=x0 at *;generalize W'.getD 1 []=x1 at *;cases h0:(x0==wIf)
  case false =>
   have Hx:Z_ (RES=(acc,false,false)):=by show _=_;rw[bN.o,h0];rfl
   have e1:((W'.length:Int)==1)=false:=a0k.2 (by omega);have e2:((W'.length:Int)==0)=false:=a0k.2 (by omega);go_wp2;go_ret;rw[Hx.o];exact⟨rfl,⟨vi,rX,Hil⟩,Hf⟩
  case true =>
  go_wp2_with fail
  refine(abl x1 _ hx1).mono ?_;rintro e w1 ⟨rfl,aZ⟩;have Z4:=aj (rX.o.aB aZ (by simp));have Z5:=aj (Hil.o.aB aZ (by simp));have Vf:=aj (Hf.o.trans aZ.nil);have fT:=aZ.size;clear aZ c0 c1 rX Hil Hf;generalize pM x1=mm at *;obtain⟨⟨m1,m2,m3⟩,mok⟩:=mm;cases mok
  case false =>
   have Hx:Z_ (RES=(acc,false,false)):=by show _=_;rw[bN.o,h0];rfl
   unfold ifV;go_wp2;go_ret;rw[Hx.o];exact⟨rfl,⟨vi,Z4.o.aB (S:=[]) ((aA.refl _ _).alloc _) (by simp),Z5.o.aB (S:=[]) ((aA.refl _ _).alloc _) (by simp)⟩,Vf.o.alloc _⟩
  case true =>
  have Hx:Z_ (dC m (W'.drop 2) (acc++[(m1,m2,m3)])=RES):=by show _=_;rw[bN.o,h0];rfl
  obtain⟨ai,ci,rfl⟩:=aT Z5;have c5:w1.cell? ⟨b,5,none⟩=some (.slice ai acc.length ci):=Z4.o.cell 5;have f5:=Z4.o.fz 5;have mV:=Z4.o.lt;have ag:Value.ownBlock (.slice ai acc.length ci)≠some b:=λe=>by have:=Z5.o.lt _ e;omega
  have g2:∀o o':Obj,((w1.alloc o).alloc o').drew.frozen? ⟨b,5,none⟩=false:=λo o'=>(((((aA.refl [] w1).alloc o).alloc o').drew).frozen mV (by simp)).trans f5
  have g3:∀o o':Obj,((w1.alloc o).alloc o').drew.cell? ⟨b,5,none⟩=some (.slice ai acc.length ci):=λo o'=>(((((aA.refl [] w1).alloc o).alloc o').drew).cell mV (by simp)).trans c5
  have EU:=aj (Bq.o.drop2 2 (by omega));unfold ifV;go_wp2_with fail
  go_region_law ((refine step_append_lies _ (by rfl) _ _ _ (by rfl) w.heap.size 82 i0 _ 4 56 Tryz.underlying75 hi KH Sv EK rfl (by omega) (.slice ai acc.length ci) acc.length (ivl acc) (by rfl) (by exact(Z5.o.alloc _).alloc _) ⟨w1.heap.size+1,0,none⟩ 1 1 (AM (m1,m2,m3)) (by rfl) (by rfl) (World.news_of_block (cs:=(AM (m1,m2,m3)).toArray) (t:=82) (fr:=(0,0)) (by exact DU _ _ _)) (by simp[Value.oneCell',AM]) (by omega) (by unfold maxLen;omega) (by omega) (by simp;omega) (w1.heap.size+2) (by simp) ?_;intro gg aP w4 bF aG aX aO))
  all_goals
   have HO:Z_ (World.grownBy _ w4 (Value.ownBlock (.slice ai acc.length ci))):=aG;have HO4:Z_ (w4.ownsRow w.heap.size 82 4 (.slice (some ⟨gg,0,none⟩) (acc.length+1) aP) (acc.length+1) (ivl acc++AM (m1,m2,m3))):=bF;clear aG bF;have c6:=(HO.o.cell_far ⟨b,5,none⟩ (by simp;omega) (Ne.symm ag)).trans (g3 _ _);have f6:=(HO.o.frozen_far ⟨b,5,none⟩ (by simp;omega) (Ne.symm ag)).trans (g2 _ _)
   by_cases uM:xJ=2
   ·have CK:RS base w (.slice (some ⟨g,off,none⟩) (W'.length-2) 0) (W'.drop 2):=⟨some ⟨g,off,none⟩,0,by simp,by simp;omega,by simp;omega,λj hj=>by simp at hj;omega⟩
    have qE:=aj CK;clear CK;go_wp2;go_roundg m
    case measure=>omega
    case rel =>
     have F4:=aA.dS HO;have R4:pN w4 b ⟨rc,dP,t0,t1,t2,.slice ai acc.length ci,false,vk,d,row⟩:=(Z4.o.aB (S:=[]) ((((aA.refl _ _).alloc _).alloc _).drew) (by simp)).aB F4 (by simpa[a0H] using λe=>ag e);refine⟨W'.drop 2,acc++[(m1,m2,m3)],.slice (some ⟨gg,0,none⟩) (acc.length+1) aP,by simp;omega,by simp;omega,λx hx=>Hwl.o x (a1h hx),qE,R4.set 5 _ _ rfl,?_,Hx,?_⟩
     ·have:=ownsRow_setCell_below HO4.o (a:=⟨b,5,none⟩) jO (.slice (some ⟨gg,0,none⟩) (acc.length+1) aP)
      simpa[PQ,ivl] using this
     exact((((Vf.o.alloc _).alloc _).drew).grown HO.o (λk hk=>Or.inr (Z5.o.lt _ hk).1)).setCell (by simp) _
   go_wp2;go_roundg m
   case measure=>omega
   case rel =>
    have F4:=aA.dS HO;have R4:pN w4 b ⟨rc,dP,t0,t1,t2,.slice ai acc.length ci,false,vk,d,row⟩:=(Z4.o.aB (S:=[]) ((((aA.refl _ _).alloc _).alloc _).drew) (by simp)).aB F4 (by simpa[a0H] using λe=>ag e);refine⟨W'.drop 2,acc++[(m1,m2,m3)],.slice (some ⟨gg,0,none⟩) (acc.length+1) aP,by simp;omega,by simp;omega,λx hx=>Hwl.o x (a1h hx),EU,R4.set 5 _ _ rfl,?_,Hx,?_⟩
    ·have:=ownsRow_setCell_below HO4.o (a:=⟨b,5,none⟩) jO (.slice (some ⟨gg,0,none⟩) (acc.length+1) aP)
     simpa[PQ,ivl] using this
    exact((((Vf.o.alloc _).alloc _).drew).grown HO.o (λk hk=>Or.inr (Z5.o.lt _ hk).1)).setCell (by simp) _
 have iH:decide ((1:Int)<(W'.length:Int))=false:=a0f (by omega);obtain⟨ai,ci,rfl⟩:=aT Hil;have c5:wr.cell? ⟨b,5,none⟩=some (.slice ai acc.length ci):=rX.o.cell 5;have c6:wr.cell? ⟨b,6,none⟩=some (.bool false):=rX.o.cell 6;have f6:=rX.o.fz 6;have h4d:decide (acc.length<=4)=decide ((acc.length:Int)<=4):=by
  rw[a0P,a1E,a1E];omega
 by_cases sH:W'.length=1
 ·have e1:((W'.length:Int)==1)=true:=by simp[sH]
  have e0:((W'.length:Int)==0)=false:=a0k.2 (by omega);obtain⟨g,off,ha,NG,_,_,aV⟩:=(Bq.o.aB Hf.o (by simp;omega)).yg (by omega);subst ha;have c0:wr.cell? ⟨g,off,none⟩=some (.string (bs (W'.getD 0 []))):=aV 0 (by omega);have bN:Z_ (RES=if (W'.getD 0 []==zN) then (acc,true,decide ((acc.length:Int)<=4)) else (acc,false,false)):=by
   show _=_;rw[<-Hg.o];conv=>lhs;unfold dC
   have e2:W'.isEmpty=false:=by
    cases W' with
    | nil=>simp at sH
    | cons=>rfl
   rw[a0f h1,sH,e2,h4d];simp
  clear aV Hg h4d;generalize W'.getD 0 []=x0 at *;cases h0:(x0==zN)
  ·have Hx:Z_ (RES=(acc,false,false)):=by show _=_;rw[bN.o,h0];rfl
   have apq:0<W'.length:=by omega
   clear sH;go_wp2;go_ret;rw[Hx.o];exact⟨rfl,⟨_,rX,Hil⟩,Hf⟩
  have Hx:Z_ (RES=(acc,true,decide ((acc.length:Int)<=4))):=by show _=_;rw[bN.o,h0];rfl
  have apq:0<W'.length:=by omega
  clear sH;go_wp2;go_ret;rw[Hx.o];exact⟨rfl,⟨_,rX.o.set 6 _ _ rfl,Hil.o.aB (S:=[b]) ((aA.refl _ _).setCell (by simp) _) (by simp;omega)⟩,Hf.o.setCell (by simp) _⟩
 have Tk:W'.length=0:=by omega
 have e1:((W'.length:Int)==1)=false:=a0k.2 (by omega);have e0:((W'.length:Int)==0)=true:=by simp[Tk]
 have Hx:Z_ (RES=(acc,false,decide ((acc.length:Int)<=4))):=by
  show _=_;rw[<-Hg.o];conv=>lhs;unfold dC
  have:W'=[]:=a1l Tk;rw[this,h4d];rfl
 clear Tk sH h4d;go_wp2;go_ret;rw[Hx.o];exact⟨rfl,⟨_,rX,Hil⟩,Hf⟩
theorem IZ(q:Bool)(c:UInt8)(N:Nat):∀(k:Nat) (l:LB) (i:Bool) (t:LB) (out:List LB),t.length+l.length<=N->(∀x∈out,x.length<=N)->(∀x∈fQ q c k l i t out,x.length<=N)/\(fQ q c k l i t out).length<=out.length+l.length+1/\out.length+1<=(fQ q c k l i t out).length
 | 0,l,i,t,out,h1,h2=>by
   unfold fQ;refine⟨λx hx=>?_,by simp,by simp⟩;rw[a0b,a0y]at hx;rcases hx with hx|rfl
   ·exact h2 x hx
   omega
 | k+1,[],i,t,out,h1,h2=>by
   unfold fQ;refine⟨λx hx=>?_,by simp,by simp⟩;rw[a0b,a0y]at hx;rcases hx with hx|rfl
   ·exact h2 x hx
   simp at h1;omega
 | k+1,y::r,i,t,out,h1,h2=>by
   simp only[a0o]at h1;unfold fQ;dsimp only;generalize (if (q&&y==34)=true then !i else i)=i1
   by_cases hA:(i1&&y==92&&!(r.isEmpty))=true
   ·rw[a0j hA]
    have hr:r≠[]:=by
     intro e;subst e;simp at hA
    have KQ:0<r.length:=a1P.2 hr;have:=IZ q c N k (r.drop 1) i1 (t++([y]++r.take 1)) out (by simp;omega) h2;refine⟨this.1,?_,this.2.2⟩;have h3:=this.2.1;simp only[a2I,a0o]at h3 |-;omega
   rw[a0g hA]
   by_cases hB:(y==c&&!i1)=true
   ·rw[a0j hB]
    have:=IZ q c N k r i1 [] (out++[t]) (by simp;omega) (λx hx=>by
     rw[a0b,a0y]at hx;rcases hx with hx|rfl
     ·exact h2 x hx
     omega)
    refine⟨this.1,?_,?_⟩
    ·have h3:=this.2.1;simp at h3 |-;omega
    have h3:=this.2.2;simp at h3;omega
   rw[a0g hB];have:=IZ q c N k r i1 (t++[y]) out (by simp;omega) h2;refine⟨this.1,?_,this.2.2⟩;have h3:=this.2.1;simp at h3 |-;omega
theorem GB(q:Bool)(c:UInt8)(l:LB):(∀x∈dm q c l,x.length<=l.length)/\(dm q c l).length<=l.length+1/\1<=(dm q c l).length:=by
 have:=IZ q c l.length (l.length+1) l false [] [] (by simp) (by simp);unfold dm;refine⟨this.1,by have:=this.2.1;simp at this;omega,by have:=this.2.2;simp at this;omega⟩
theorem ae9(out:List LB)(n:LB):1<=(jY out n).length:=by
 unfold jY;split
 ·rename_i h
  cases out with
  | nil=>simp at h
  | cons=>simp
 rw[IY];simp
theorem Xg:∀(L out:List LB),out.length<=(L.foldl jY out).length/\(L.foldl jY out).length<=out.length+L.length/\(1<=L.length->1<=(L.foldl jY out).length)
 | [],out=>by simp
 | x::L,out=>by
   have h:=Xg L (jY out x);have h1:=ae8 out x;have h2:=ae9 out x;have h3:out.length<=(jY out x).length:=by
    unfold jY;split
    ·omega
    rw[IY];simp
   simp only[a1M,a0o];exact⟨by omega,by omega,λ_=>by omega⟩
theorem ahC(L:List LB):(AL L).length<=L.length/\(1<=L.length->1<=(AL L).length):=by
 have:=Xg L [];unfold AL;simp at this |-;exact⟨this.1,this.2⟩
theorem Z6 {ops:Array Oper} {rest:List Oper} {o:Oper} {a:Act} {Q:Exit->Act->World->Prop}(w:World)(nJ:o.guard=none)(s x:Operand)
 (ho:o.op=.call { callee:=.builtin .append,args:=#[s,x],argTypes:=#[35,35] })
 (base anQ:Nat) (v:Value) (L M:List LB) (g2 c2:Nat) (hs:a.eval s=v) (aQ:SL base w v L) (hx:a.eval x=.slice (some ⟨g2,0,none⟩) M.length c2)
 (hM:SL anQ w (.slice (some ⟨g2,0,none⟩) M.length c2) M) (hm:0<M.length) (hlen:L.length+M.length<=1048576) (iW:base<=w.heap.size)
 (h:∀g cap w',SL base w' (.slice (some ⟨g,0,none⟩) (L.length+M.length) cap) (L++M)->w.grownBy w' v.ownBlock->base<=g->wpList Tryz.prog ops Q rest (a.put o.dst (.slice (some ⟨g,0,none⟩) (L.length+M.length) cap)) w') :
 wpList Tryz.prog ops Q (o::rest) a w:=by
 obtain⟨i0,hi,iA,fT,gF⟩:=info_parts uS;refine wpList_append_own w nJ s x 35 ho base 9 i0 (.string ByteArray.empty) 1 16 Tryz.underlying35 hi iA fT gF rfl (by decide) v L.length (sv L) hs aQ ⟨g2,0,none⟩ M.length c2 (sv M) hx (by simp[sv]) ?_ (λx hx=>by simp[sv]at hx;obtain⟨c,_,rfl⟩:=hx;rfl) (by unfold maxLen;omega) (by omega) iW ?_
 ·intro j u hj
  exact hM.cells rfl j u hj
 intro v' w' h1 h2 h3;obtain⟨g,cap,rfl⟩:=On h1 (λe=>by have:=(h3.1 e).2;omega);have TQ:SL base w' (.slice (some ⟨g,0,none⟩) (L.length+M.length) cap) (L++M):=by
  unfold SL;simpa[sv] using h1
 exact h g cap w' TQ h2 (h1.lt g rfl).1
def yN:LB:=[114,111,117,116,101]
def wBy:LB:=[98,121]
def yh:LB:=[119,97,105,116]
def tL:LB:=[101,118,101,114,121]
def pO:LB:=[114,101,112,101,97,116]
structure RR where
 rc:LB
 told:Bool
 names:List LB
 t0:Int
 t1:Int
 t2:Int
 ifs:List RM
 on:Bool
 d:Nat
def oU(W:List LB):Option (Bool × List LB × List LB) :=
 if decide (1<W.length)&&(W.getD 0 []==wBy) then
  (if W.getD 1 [] == [45] then some (true,[],W.drop 2)
   else if (dm false 44 (W.getD 1 [])).all aI&&decide ((dm false 44 (W.getD 1 [])).length<=4) then some (true,AL (dm false 44 (W.getD 1 [])),W.drop 2) else none)
 else some (false,[],W)
def agd:Nat->LB
 | 2=>yh
 | 1=>tL
 | _=>pO
def aj1(r:Nat)(ts:Int × Int × Int)(n:Int):Int × Int × Int :=
 match r with
 | 2=>(n,ts.2.1,ts.2.2)
 | 1=>(ts.1,n,ts.2.2)
 | _=>(ts.1,ts.2.1,n)
def lQ:Nat->Int × Int × Int->List LB->Option ((Int × Int × Int) × List LB)
 | 0,ts,W=>some (ts,W)
 | r+1,ts,W =>
   if decide (1<W.length)&&(W.getD 0 []==agd r) then
    (if decide (fZ (W.getD 1 [])<0) then none else lQ r (aj1 r ts (fZ (W.getD 1 []))) (W.drop 2))
   else lQ r ts W
def rtW(d:Nat)(W:List LB):Option RR :=
 if decide (W.length<2)||!(W.getD 0 []==yN) then none
 else if !(aI (W.getD 1 []))&&!(W.getD 1 [] == [45]) then none
 else match oU (W.drop 2) with
  | none=>none
  | some (told,names,W1)=>match lQ 3 (-1,-1,-1) W1 with
    | none=>none
    | some (ts,W2)=>if (dC (W2.length+1) W2 []).2.2 then some ⟨W.getD 1 [],told,names,ts.1,ts.2.1,ts.2.2,(dC (W2.length+1) W2 []).1,(dC (W2.length+1) W2 []).2.1,d⟩ else none
def wZ(l:LB):Option RR:=rtW (bD l).1 (dm true 32 (bD l).2)
def byW(told:Bool)(names:List LB):List LB:=if told then [58]::names else []
structure apr(base:Nat)(w:World)(b:Nat)(v:jK)(r:RR):Prop where
 at_:pN w b v
 rc:v.rc=r.rc
 KI:SL base w v.dP (byW r.told r.names)
 t0:v.t0=r.t0
 t1:v.t1=r.t1
 t2:v.t2=r.t2
 ifs:PQ base w v.iB r.ifs
 on:v.on=r.on
 vk:v.vk=.slice none 0 0
 d:v.d=r.d
 row:v.row=0
def aj2(w:World)(e:Ending)(w':World):Option RR->Prop
 | none=>∃p,e=.returned (.tuple #[.pointer p,.bool false])
 | some r=>∃b v,w.heap.size<=b/\e=.returned (.tuple #[.pointer (some ⟨b,0,none⟩),.bool true])/\apr w.heap.size w' b v r
def sU(b:Nat):Value:=.pointer (some ⟨b,0,none⟩)
def LP(base:Nat)(w:World)(v:Value)(B:LN):Prop:=w.ownsRow base 68 1 v B.length (B.map sU)
theorem LP.cell {base:Nat}(h:LP base w (.slice (some ⟨g,0,none⟩) n cap) B)(j:Nat)(hj:j<B.length):w.cell? ⟨g,j,none⟩=some (sU B[j]):=by
 have:=World.ownsRow.cells h (g:=g) rfl j (sU B[j]) (by simp[hj]);rw[add0]at this;exact this
def oV(w:World)(cb:Nat)(vr vt vl:Value):Prop:=w.heap[cb]?=some (.cells #[vr,vt,vl] 71 (0,0))
theorem oV.lt(h:oV w b x y z):b<w.heap.size:=(a0d.1 h).1
theorem oV.cell(h:oV w b x y z)(o:Nat):w.cell? ⟨b,o,none⟩=(#[x,y,z]:Array Value)[o]?:=by
 unfold oV at h;simp[World.cell?,h]
theorem oV.fz(h:oV w b x y z)(o:Nat):w.frozen? ⟨b,o,none⟩=false:=by
 unfold oV at h;simp[World.frozen?,h]
theorem oV.aB(h:oV w b x y z)(f:aA S w w')(hS:b∉S):oV w' b x y z:=(f.block b h.lt hS).trans h
structure zZ(base:Nat)(w:World)(b:Nat)(v:jK)(r:RR):Prop where
 at_:pN w b v
 rc:v.rc=r.rc
 KI:SL base w v.dP (byW r.told r.names)
 t0:v.t0=r.t0
 t1:v.t1=r.t1
 t2:v.t2=r.t2
 ifs:PQ base w v.iB r.ifs
 on:v.on=r.on
 d:v.d=r.d
theorem zZ.aB {base:Nat} {v:jK} {r:RR}(h:zZ base w b v r)(f:aA S w w')(hS:b∉S)(h2:∀k∈S,k<base):zZ base w' b v r :=
 ⟨h.at_.aB f hS,h.rc,h.KI.aB f h2,h.t0,h.t1,h.t2,h.ifs.aB f h2,h.on,h.d⟩
structure age(r:RR):Prop where
 d:r.d<=9000
 rc:r.rc.length<=8
 names:r.names.length<=4
 nm:∀n∈r.names,n.length<=8
 t0:-1<=r.t0/\r.t0<=99999
 t1:-1<=r.t1/\r.t1<=99999
 t2:-1<=r.t2/\r.t2<=99999
 ifs:r.ifs.length<=4
 im:∀m∈r.ifs,m.1.length<=8/\m.2.1.length<=2/\m.2.2.length<=40
/-! The agf as a tree: its faults. -/
def rY(i:Nat)(r:RR):Bool:=(i==0)&&(r.d==0)&&r.ifs.isEmpty&&!r.on&&!(r.rc == [45])
def oW(i n:Nat)(r:RR):Bool:=decide (0<i)&&decide (0<r.d)&&decide (r.d<=n)
def nI:List RR->Nat->Nat->Nat
 | [],_,_=>0
 | r::R,i,n=>if (!(rY i r)&&!(oW i n r))||decide (5<r.d)||decide (16<=i) then i+2 else nI R (i+1) (r.d+1)
def rG(R:List RR):Nat:=if R.isEmpty then 2 else nI R 0 0
def jZ(L:List LB):List RR->Nat->Nat
 | [],_=>0
 | r::R,i=>if !(r.rc == [45])&&!(L.contains r.rc) then i+2 else jZ L R (i+1)
def uQ(L:List LB)(R:List RR):Nat × Nat :=
 if rG R≠0 then (3,rG R) else if kM [] L then (4,1) else if jZ L R 0≠0 then (4,jZ L R 0) else (0,0)
theorem LP.take {base:Nat}(h:LP base w (.slice a n cap) B)(d:Nat)(hd:d<=B.length):LP base w (.slice a d cap) (B.take d):=by
 have hn:n=B.length:=by
  rcases h.2 with⟨e,e2⟩|⟨g,c,cur,e,_⟩
  ·simp at e;omega
  simp at e;exact e.2.1
 subst hn;have hm:min d B.length=d:=a2S hd;unfold LP at *;rw[a1q,hm];refine⟨by simp[hm],?_⟩;rcases h.2 with⟨e,e2⟩|⟨g,c,cur,e,h1,h2,h3,h4,h5,h6⟩
 ·simp at e
  obtain⟨rfl,_,rfl⟩:=e;have:d=0:=by omega
  subst this;exact .inl ⟨rfl,rfl⟩
 simp at e;obtain⟨rfl,rfl⟩:=e;refine .inr ⟨g,cap,cur,rfl,h1,h2,by omega,h4,h5,?_⟩;rw[a1c]at h6 |-;rw[List.map_take,<-h6,List.take_take,hm]
theorem LP.aB {base:Nat}(h:LP base w v B)(f:aA S w w')(hS:∀k,k∈S->k<base):LP base w' v B:=ek h f hS
def afa(s:LN × (Nat->LN))(x:Nat × Nat):LN × (Nat->LN) :=
 (s.1.take x.2++[x.1],match (s.1.take x.2).getLast? with | none=>s.2|some u=>λk=>if k=u then s.2 k++[x.1] else s.2 k)
def Bv(l:List (Nat × Nat)):LN × (Nat->LN):=l.foldl afa ([],λ_=>[])
def xd(X:List (Nat × jK × RR)):List (Nat × Nat):=X.map λx=>(x.1,x.2.2.d)
structure GI(w wr:World)(cb:Nat)(X:List (Nat × jK × RR))(K:Nat->Value)(C:Nat->LN)(B:LN)(vw:Value)(j:Nat):Prop where
 lt:∀x∈X,x.1<w.heap.size
 rb:∀x∈X,pN wr x.1 { x.2.1 with vk:=K x.1 }
 PU:∀x∈X,(C x.1).length<=j/\LP w.heap.size wr (K x.1) (C x.1)
 sep:∀x∈X,∀y∈X,x.1≠y.1->∀g,(K x.1).ownBlock=some g->(K y.1).ownBlock≠some g
 NH:∀x∈X,∀g,(K x.1).ownBlock=some g->vw.ownBlock≠some g
 way:LP w.heap.size wr vw B
 Xh:∀b∈B,∃x∈X,x.1=b
 aB:aA (cb::X.map (·.1)) w wr
theorem GI.NJ{wr wq:World} {X:List (Nat × jK × RR)} {K:Nat->Value} {C:Nat->LN}(h:GI w wr cb X K C B vw j)(f:aA [] wr wq):GI w wq cb X K C B vw j :=
 ⟨h.lt,λx hx=>(h.rb x hx).aB f (by simp),λx hx=>by
   obtain⟨h1,h2⟩:=h.PU x hx;exact⟨h1,ek h2 f (by simp)⟩,h.sep,h.NH,h.way.aB f (by simp),h.Xh,h.aB.trans f.nil⟩
theorem GI.root{wr:World} {X:List (Nat × jK × RR)} {K:Nat->Value} {C:Nat->LN}(h:GI w wr cb X K C B vw j)(jX:cb<w.heap.size)(hcx:∀x∈X,x.1≠cb)(v:Value):GI w (wr.setCell ⟨cb,1,none⟩ v) cb X K C B vw j:=by
 have f:aA [cb] wr (wr.setCell ⟨cb,1,none⟩ v):=(aA.refl _ _).setCell (by simp) _;refine⟨h.lt,λx hx=>(h.rb x hx).aB f (by simpa using hcx x hx),λx hx=>?_,h.sep,h.NH,h.way.aB f (by simpa using jX),h.Xh,h.aB.setCell (by simp) _⟩;obtain⟨h1,h2⟩:=h.PU x hx;exact⟨h1,ek h2 f (by simpa using jX)⟩
theorem GI.cut{wr:World} {X:List (Nat × jK × RR)} {K:Nat->Value} {C:Nat->LN}(h:GI w wr cb X K C B (.slice a n cap) j)(d:Nat)(hd:d<=B.length):GI w wr cb X K C (B.take d) (.slice a d cap) j :=
 ⟨h.lt,h.rb,h.PU,h.sep,λx hx g hg=>by
   have:=h.NH x hx g hg;cases a<;>simpa[Value.ownBlock] using this,h.way.take d hd,λb hb=>h.Xh b (a3g hb),h.aB⟩
theorem GI.up{wr:World} {X:List (Nat × jK × RR)} {K:Nat->Value} {C:Nat->LN}(h:GI w wr cb X K C B vw j):GI w wr cb X K C B vw (j+1) :=
 ⟨h.lt,h.rb,λx hx=>by
   obtain⟨h1,h2⟩:=h.PU x hx;exact⟨by omega,h2⟩,h.sep,h.NH,h.way,h.Xh,h.aB⟩
theorem GI.adu{wr:World} {X:List (Nat × jK × RR)} {K:Nat->Value} {C:Nat->LN}(h:GI w wr cb X K C B vw j)(hb:∃x∈X,x.1=b)
 (hg:wr.grownBy w4 vw.ownBlock) (ho:LP w.heap.size w4 (.slice (some ⟨g,0,none⟩) n cap) (B++[b])) (aX:vw.ownBlock=some g\/g=wr.heap.size):GI w w4 cb X K C (B++[b]) (.slice (some ⟨g,0,none⟩) n cap) j:=by
 have F4:=aA.dS hg;have Gm:∀k,vw.ownBlock=some k->w.heap.size<=k:=λk hk=>(h.way.lt k hk).1
 have bL:∀x∈X,(K x.1).ownBlock=none\/(K x.1).ownBlock≠vw.ownBlock:=λx hx=>by
  cases e:(K x.1).ownBlock with
  | none=>exact .inl rfl
  | some k=>exact .inr (λe2=>h.NH x hx k e e2.symm)
 refine⟨h.lt,λx hx=>(h.rb x hx).aB F4 ?_,λx hx=>?_,h.sep,λx hx k hk=>?_,ho,λb' Jf=>?_,h.aB.grown hg (λk hk=>.inr (Gm k hk))⟩
 ·rw[a0H]
  intro e;have:=Gm _ e;have:=h.lt x hx;omega
 ·obtain⟨h1,h2⟩:=h.PU x hx
  exact⟨h1,World.ownsRow.kept h2 hg (bL x hx)⟩
 ·obtain⟨h1,h2⟩:=h.PU x hx
  have ME:=h2.lt k hk;intro e;simp[Value.ownBlock]at e;subst e;rcases aX with aX|aX
  ·exact h.NH x hx _ hk aX
  omega
 rw[a0b,a0y]at Jf;rcases Jf with Jf|rfl
 ·exact h.Xh b' Jf
 exact hb
theorem pN.kids {r:jK}(h:pN w b r)(v:Value):pN (w.setCell ⟨b,7,none⟩ v) b { r with vk:=v }:=by
 obtain⟨rc,dP,t0,t1,t2,iB,on,vk,d,row⟩:=r;exact h.set 7 v _ rfl
theorem LP.anR {base:Nat} {row:Option Nat}(h:LP base w v B)(hg:w.grownBy w4 row)(bL:v.ownBlock=none\/v.ownBlock≠row):LP base w4 v B:=World.ownsRow.kept h hg bL
theorem GI.aj3{wr:World} {X:List (Nat × jK × RR)} {K:Nat->Value} {C:Nat->LN}(h:GI w wr cb X K C B vw j) {x:Nat × jK × RR}(hx:x∈X) {xs:List Value}(hnj:n<=j)(hn:n=(C x.1).length)(hxs:xs=(C x.1++[b]).map sU)
 (hg:wr.grownBy w4 (K x.1).ownBlock) (ho:w4.ownsRow w.heap.size 68 1 (.slice (some ⟨g,0,none⟩) (n+1) cap) (n+1) xs) (aX:(K x.1).ownBlock=some g\/g=wr.heap.size) :
 GI w (w4.setCell ⟨x.1,7,none⟩ (.slice (some ⟨g,0,none⟩) (n+1) cap)) cb X (λb=>if b=x.1 then .slice (some ⟨g,0,none⟩) (n+1) cap else K b) (λk=>if k=x.1 then C k++[b] else C k) B vw (j+1):=by
 have F4:=aA.dS hg;obtain⟨_,hox⟩:=h.PU x hx;have Gm:∀k,(K x.1).ownBlock=some k->w.heap.size<=k:=λk hk=>(hox.lt k hk).1
 have f:∀u,aA [x.1] w4 (w4.setCell ⟨x.1,7,none⟩ u):=λu=>(aA.refl _ _).setCell (by simp) _
 have hlx:=h.lt x hx;have rb4:∀y∈X,pN w4 y.1 { y.2.1 with vk:=K y.1 }:=λy hy=>(h.rb y hy).aB F4 (by
  rw[a0H];intro e;have:=Gm _ e;have:=h.lt y hy;omega)
 have old:∀y∈X,∀k,(K y.1).ownBlock=some k->k<wr.heap.size:=λy hy k hk=>by
  obtain⟨_,h2⟩:=h.PU y hy;exact(h2.lt k hk).2
 refine⟨h.lt,λy hy=>?_,λy hy=>?_,λy hy z hz hyz k hk=>?_,λy hy k hk=>?_,?_,h.Xh,?_⟩
 ·by_cases e:y.1=x.1
  ·simp only[e,a0C]
   have:=rb4 y hy;rw[e]at this;exact this.kids _
  simp only[e,a0G];exact(rb4 y hy).aB (f _) (by simpa using e)
 ·by_cases e:y.1=x.1
  ·simp only[e,a0C]
   refine⟨by simp;omega,?_⟩;have:=ek ho (f (.slice (some ⟨g,0,none⟩) (n+1) cap)) (by simpa using hlx);unfold LP;rw[a0v,a1k,<-hn,<-hxs];exact this
  simp only[e,a0G];obtain⟨h1,h2⟩:=h.PU y hy;refine⟨by omega,ek (World.ownsRow.kept h2 hg ?_) (f _) (by simpa using hlx)⟩;cases e1:(K y.1).ownBlock with
  | none=>exact .inl rfl
  | some k=>exact .inr (λe2=>h.sep y hy x hx e k e1 e2.symm)
 ·by_cases e:y.1=x.1
  ·have e2:z.1≠x.1:=λe3=>hyz (e.trans e3.symm)
   simp only[e,a0C,Value.ownBlock,Option.some.injEq]at hk;subst hk;simp only[e2,a0G];intro e3;rcases aX with aX|aX
   ·exact h.sep x hx z hz (λe4=>e2 e4.symm) _ aX e3
   have:=old z hz _ e3;omega
  simp only[e,a0G]at hk
  by_cases e2:z.1=x.1
  ·simp only[e2,a0C,Value.ownBlock,ne_eq,Option.some.injEq]
   intro e3;subst e3;rcases aX with aX|aX
   ·exact h.sep y hy x hx e _ hk aX
   have:=old y hy _ hk;omega
  simp only[e2,a0G];exact h.sep y hy z hz hyz k hk
 ·by_cases e:y.1=x.1
  ·simp only[e,a0C,Value.ownBlock,Option.some.injEq]at hk
   subst hk;intro e3;rcases aX with aX|aX
   ·exact h.NH x hx _ aX e3
   have:=h.way.lt _ e3;omega
  simp only[e,a0G]at hk;exact h.NH y hy k hk
 ·refine LP.aB (LP.anR ?_ hg ?_) (f _) (by simpa using hlx)
  ·exact h.way
  cases e1:vw.ownBlock with
  | none=>exact .inl rfl
  | some k=>exact .inr (λe2=>h.NH x hx k e2.symm e1)
 exact(h.aB.grown hg (λk hk=>.inr (Gm k hk))).setCell (by simp;exact .inl (.inr ⟨_,_,hx⟩)) _
def Xi(l:LB):Option (List LB) :=
 if (((dm false 32 l).getD 0 []==nW)&&decide (1<(dm false 32 l).length)&&decide ((dm false 32 l).length<=9))&&((dm false 32 l).drop 1).all aI then some ((dm false 32 l).drop 1) else none
def qm:List LB->Nat->List LB->List RR->Except Nat (List LB × List RR)
 | [],i,_,_=>.error (i+1)
 | [x],i,L,R=>if !(x.isEmpty)||i==0 then .error (i+1) else .ok (L,R)
 | x::y::W,i,L,R =>
   if i==0 then (match Xi x with | none=>.error 1|some L'=>qm (y::W) 1 L' R)
   else (match wZ x with | none=>.error (i+1)|some r=>qm (y::W) (i+1) L (R++[r]))
def nu(t:LB):Except (Nat × Nat) (List LB × List RR) :=
 if 1200<t.length then .error (1,0) else
 match qm (dm false 10 t) 0 [] [] with
 | .error n=>.error (2,n)
 | .ok (L,R)=>if (uQ L R).1=0 then .ok (L,R) else .error (uQ L R)
structure RdM(w w':World)(cb base:Nat)(vt:Value)(X:List (Nat × jK × RR)):Prop where
 lo:w.heap.size<=cb
 up:cb<base
 row:∀(i:Nat) x,X[i]?=some x->x.2.1.row=(i:Int)+2
 nd:(X.map (·.1)).Nodup
 gt:∀x∈X,base<=x.1
 root:vt=sU ((X.map (·.1)).getD 0 0)
 PU:∀x∈X,LP base w' x.2.1.vk ((Bv (xd X)).2 x.1)
def xy(w:World)(e:Ending)(w':World):Except (Nat × Nat) (List LB × List RR)->Prop
 | .error (n,l)=>e=.returned (.tuple #[.pointer none,.int .i64 n,.int .i64 l])
 | .ok (L,R)=>∃(cb base:Nat) (vr vt vl:Value) (X:List (Nat × jK × RR)),e=.returned (.tuple #[sU cb,.int .i64 0,.int .i64 0])/\oV w' cb vr vt vl/\RS 0 w' vr L/\LP base w' vl (X.map (·.1))/\(∀x∈X,zZ base w' x.1 x.2.1 x.2.2)/\R=X.map (·.2.2)/\RdM w w' cb base vt X
theorem aj4 {a:Addr}(h:w.cell? a=some v):a.block<w.heap.size:=by
 by_cases aO:a.block<w.heap.size
 ·exact aO
 simp[World.cell?,aO]at h
theorem RS.amN {base:Nat}(h:RS base w v L)(f:aA S w w')(hS:∀k∈S,v.ownBlock≠some k):RS base w' v L:=by
 obtain⟨a,cap,rfl,h1,h2,h3⟩:=h;refine⟨a,cap,rfl,h1,h2,λj hj=>?_⟩;obtain⟨g,off,rfl,hb,hc⟩:=h3 j hj;refine⟨g,off,rfl,hb,?_⟩;rw[f.cell (p:=⟨g,off+j,none⟩) (aj4 hc) (λhm=>hS g hm rfl)];exact hc
def abm(w:World)(base:Nat)(S:LN):Prop:=∀k,k∈S->k<base\/∃cur e' fz,w.heap[k]?=some (.cells cur e' fz)/\e'≠9/\e'≠82
theorem zZ.aps {base:Nat} {v:jK} {r:RR}(h:zZ base w b v r)(f:aA S w w')(hb:b∉S)(hS:abm w base S):zZ base w' b v r :=
 ⟨h.at_.aB f hb,h.rc,jb h.KI f (λk hk=>(hS k hk).imp id (λ⟨a,b,c,d,e⟩=>⟨a,b,c,d,e.1⟩)),h.t0,h.t1,h.t2,jb h.ifs f (λk hk=>(hS k hk).imp id (λ⟨a,b,c,d,e⟩=>⟨a,b,c,d,e.2⟩)),h.on,h.d⟩
theorem zZ.base {base base':Nat} {v:jK} {r:RR}(h:zZ base w b v r)(hb:base'<=base):zZ base' w b v r :=
 ⟨h.at_,h.rc,uF h.KI hb,h.t0,h.t1,h.t2,uF h.ifs hb,h.on,h.d⟩
structure QI(w:World)(cb:Nat)(vr vl:Value)(L:List LB)(X:List (Nat × jK × RR)):Prop where
 rs:RS (cb+1) w vr L
 lp:LP (cb+1) w vl (X.map (·.1))
 rq:∀x∈X,zZ (cb+1) w x.1 x.2.1 x.2.2
 vk:∀x∈X,x.2.1.vk=.slice none 0 0
 gt:∀x∈X,cb<x.1
 row:∀(i:Nat) x,X[i]?=some x->x.2.1.row=(i:Int)+2
 nd:(X.map (·.1)).Nodup
 vrx:∀x∈X,vr.ownBlock≠some x.1
 vrb:vr.ownBlock≠some cb
 vrl:∀g,vr.ownBlock=some g->vl.ownBlock≠some g
 lt:∀x∈X,x.1<w.heap.size
 vrt:∀g,vr.ownBlock=some g->g<w.heap.size
theorem QI.NJ {X:List (Nat × jK × RR)}(h:QI w cb vr vl L X)(f:aA [] w w'):QI w' cb vr vl L X :=
 ⟨h.rs.aB f (by simp),h.lp.aB f (by simp),λx hx=>(h.rq x hx).aB f (by simp) (by simp),h.vk,h.gt,h.row,h.nd,h.vrx,h.vrb,h.vrl,λx hx=>a0x (h.lt x hx) f.size,λg hg=>a0x (h.vrt g hg) f.size⟩
theorem QI.apt {X:List (Nat × jK × RR)}(h:QI w cb vr vl L X)(o:Nat)(v:Value):QI (w.setCell ⟨cb,o,none⟩ v) cb vr vl L X:=by
 have f:aA [cb] w (w.setCell ⟨cb,o,none⟩ v):=(aA.refl _ _).setCell (by simp) _;refine⟨h.rs.aB f (by simp),h.lp.aB f (by simp),λx hx=>(h.rq x hx).aB f ?_ (by simp),h.vk,h.gt,h.row,h.nd,h.vrx,h.vrb,h.vrl,λx hx=>a0x (h.lt x hx) f.size,λg hg=>a0x (h.vrt g hg) f.size⟩;have:=h.gt x hx;simp;omega
theorem QI.nil(w:World)(cb:Nat):QI w cb (.slice none 0 0) (.slice none 0 0) [] [] :=
 ⟨⟨none,0,rfl,by simp,by simp,by simp⟩,World.ownsRow_nil _ _ _ _,by simp,by simp,by simp,by simp,by simp,by simp,by simp[Value.ownBlock],by simp[Value.ownBlock],by simp,by simp[Value.ownBlock]⟩
theorem QI.snoc {X:List (Nat × jK × RR)}(h:QI w cb vr vl L X) {x:Nat × jK × RR}(hx:zZ (cb+1) w x.1 x.2.1 x.2.2)(hk:x.2.1.vk=.slice none 0 0)(iN:x.2.1.row=(X.length:Int)+2)
 (Vy:∀y∈X,y.1<x.1) (jX:cb<x.1) (hvr:vr.ownBlock≠some x.1) (Dy:vl.ownBlock≠some x.1) (hg:w.grownBy w4 vl.ownBlock) (ho:LP (cb+1) w4 (.slice (some ⟨g,0,none⟩) n cap) (X.map (·.1)++[x.1])) (aX:vl.ownBlock=some g\/g=w.heap.size):QI w4 cb vr (.slice (some ⟨g,0,none⟩) n cap) L (X++[x]):=by
 have F4:=aA.dS hg;have hty:∀k,vl.ownBlock=some k->∃cur fz,w.heap[k]?=some (.cells cur 68 fz):=λk hk=>DW h.lp k hk
 have ap:abm w (cb+1) vl.ownBlock.toList:=λk hk=>by
  rw[a0H]at hk;obtain⟨cur,fz,e⟩:=hty k hk;exact .inr ⟨cur,_,fz,e,by decide,by decide⟩
 have Tf:∀y:Nat × jK × RR,zZ (cb+1) w y.1 y.2.1 y.2.2->y.1∉vl.ownBlock.toList:=λy hy hm=>by
  rw[a0H]at hm;obtain⟨cur,fz,e⟩:=hty _ hm;have:=hy.at_;unfold pN at this;rw[e]at this;simp at this
 have all:∀y∈X++[x],zZ (cb+1) w y.1 y.2.1 y.2.2:=λy hy=>by
  rw[a0b,a0y]at hy;rcases hy with hy|rfl
  ·exact h.rq y hy
  exact hx
 refine⟨h.rs.amN F4 (λk hk=>?_),by rw[a0T];exact ho,λy hy=>(all y hy).aps F4 (Tf y (all y hy)) ap,λy hy=>?_,λy hy=>?_,λi y hi=>?_,?_,λy hy=>?_,h.vrb,λk hk=>?_,λy hy=>?_,λk hk=>a0x (h.vrt k hk) F4.size⟩
 ·rw[a0H]at hk
  exact λe=>h.vrl k e hk
 ·rw[a0b,a0y]at hy
  rcases hy with hy|rfl
  ·exact h.vk y hy
  exact hk
 ·rw[a0b,a0y]at hy
  rcases hy with hy|rfl
  ·exact h.gt y hy
  exact jX
 ·by_cases hl:i<X.length
  ·rw[a0u hl]at hi;exact h.row i y hi
  rw[a0R (by omega)]at hi;have e0:i-X.length=0:=by
   cases e:i-X.length with
   | zero=>rfl
   | succ k=>rw[e]at hi;simp at hi
  rw[e0]at hi;simp at hi;subst hi;have:i=X.length:=by omega
  subst this;exact iN
 ·rw[a0T]
  refine List.nodup_append.2 ⟨h.nd,by simp,?_⟩;intro a ha b hb e;simp at hb;rw[a0s]at ha;obtain⟨y,hy,rfl⟩:=ha;have:=Vy y hy;omega
 ·rw[a0b,a0y]at hy
  rcases hy with hy|rfl
  ·exact h.vrx y hy
  exact hvr
 ·intro e
  simp only[Value.ownBlock,Option.some.injEq]at e;subst e;rcases aX with aX|aX
  ·exact h.vrl _ hk aX
  have:=h.vrt _ hk;omega
 have:=(all y hy).at_.lt;exact a0x this F4.size
theorem QI.kept {X:List (Nat × jK × RR)}(h:QI w cb vr vl L X)(f:aA (cb::X.map (·.1)) w w'):RS 0 w' vr L/\LP (cb+1) w' vl (X.map (·.1)):=by
 refine⟨(h.rs.amN f ?_).base (a1C _),jb h.lp f ?_⟩
 ·intro k hk
  rw[a0l,a0s]at hk;rcases hk with rfl|⟨x,hx,rfl⟩
  ·exact h.vrb
  exact h.vrx x hx
 intro k hk;rw[a0l,a0s]at hk;rcases hk with rfl|⟨x,hx,rfl⟩
 ·exact .inl (a2B _)
 exact .inr ⟨_,_,_,(h.rq x hx).at_,by decide⟩
theorem QI.rqs {X:List (Nat × jK × RR)}(h:QI w cb vr vl L X)(f:aA (cb::X.map (·.1)) w w') {K:Nat->Value}(hk:∀x∈X,pN w' x.1 { x.2.1 with vk:=K x.1 }):∀x∈X,zZ (cb+1) w' x.1 { x.2.1 with vk:=K x.1 } x.2.2:=by
 have ap:abm w (cb+1) (cb::X.map (·.1)):=λk hk=>by
  rw[a0l,a0s]at hk;rcases hk with rfl|⟨x,hx,rfl⟩
  ·exact .inl (a2B _)
  exact .inr ⟨_,_,_,(h.rq x hx).at_,by decide,by decide⟩
 intro x hx;have q:=h.rq x hx;exact⟨hk x hx,q.rc,jb q.KI f (λk hk=>(ap k hk).imp id (λ⟨a,b,c,d,e⟩=>⟨a,b,c,d,e.1⟩)),q.t0,q.t1,q.t2,jb q.ifs f (λk hk=>(ap k hk).imp id (λ⟨a,b,c,d,e⟩=>⟨a,b,c,d,e.2⟩)),q.on,q.d⟩
/-! The anS regular expressions,written beside them. -/
def CO(m:RM):Bool:=(m.2.1 == [61,126])||(m.2.1 == [33,126])
def Ro:List RM->Nat
 | []=>0
 | m::M=>if CO m&&!(jC m.2.2==0) then jC m.2.2 else Ro M
def Lx:List RR->Nat->Nat × Nat
 | [],_=>(0,0)
 | r::R,i=>if !(Ro r.ifs==0) then (Ro r.ifs,i+2) else Lx R (i+1)
def PV(w:World)(v:Value)(M:List RM)(D:Nat->Prop):Prop:=∃a cap,v=.slice a M.length cap/\M.length<=cap/\(M.length=0\/∃g cur,a=some ⟨g,0,none⟩/\w.heap[g]?=some (.cells cur 82 (0,0)) /\
 ∀k m,M[k]?=some m->cur[k*4]?=some (.string (bs m.1))/\cur[k*4+1]?=some (.string (bs m.2.1))/\cur[k*4+2]?=some (.string (bs m.2.2)) /\
  ∃q:Option Addr,cur[k*4+3]?=some (.pointer q)/\(D k->CO m=true->q≠none)/\(∀p,q=some p->∃n e,p=⟨n,0,none⟩/\fD m.2.2=some e/\RN w n (jl e)))
theorem PV.of {base:Nat} {D:Nat->Prop}(h:PQ base w v M)(hD:∀k,¬ D k):PV w v M D:=by
 have h0:=h;rcases h.2 with⟨e,h1⟩|⟨g,cap,cur,e,hb,hg,hn,hm,hs,ht⟩
 ·exact⟨none,0,by rw[e,h1],by omega,.inl h1⟩
 subst e;refine⟨_,cap,rfl,hn,.inr ⟨g,cur,rfl,hg,λk m hk=>?_⟩⟩;have c:∀o,o<4->cur[k*4+o]?=(AM m)[o]?:=λo ho=>by
  have h2:=flat_get AM 4 (λa=>rfl) M k o m hk ho;have aO:o<(AM m).length:=ho;rw[a0c aO]at h2 |-;have h3:=World.ownsRow.cells h0 (g:=g) rfl (k*4+o) _ h2;rw[add0,cell_of_row w g _ cur _ _ hg]at h3;exact h3
 refine⟨c 0 (by omega),c 1 (by omega),c 2 (by omega),none,c 3 (by omega),λhd=>absurd hd (hD k),λp hp=>by simp at hp⟩
theorem PV.aB {D:Nat->Prop}(h:PV w v M D)(f:aA [] w w'):PV w' v M D:=by
 obtain⟨a,cap,h1,h2,h3⟩:=h;refine⟨a,cap,h1,h2,?_⟩;rcases h3 with h3|⟨g,cur,e,hg,hk⟩
 ·exact .inl h3
 refine .inr ⟨g,cur,e,(f.block g (a0d.1 hg).1 (by simp)).trans hg,λk m hm=>?_⟩;obtain⟨c0,c1,c2,q,c3,hd,hq⟩:=hk k m hm;refine⟨c0,c1,c2,q,c3,hd,λp hp=>?_⟩;obtain⟨n,e,h4,h5,h6⟩:=hq p hp;exact⟨n,e,h4,h5,RN.aW (eU.of f) h6⟩
theorem PV.mono {D D':Nat->Prop}(h:PV w v M D)(hD:∀k m,M[k]?=some m->D' k->CO m=true->D k):PV w v M D':=by
 obtain⟨a,cap,h1,h2,h3⟩:=h;refine⟨a,cap,h1,h2,?_⟩;rcases h3 with h3|⟨g,cur,e,hg,hk⟩
 ·exact .inl h3
 refine .inr ⟨g,cur,e,hg,λk m hm=>?_⟩;obtain⟨c0,c1,c2,q,c3,hd,hq⟩:=hk k m hm;exact⟨c0,c1,c2,q,c3,λh hr=>hd (hD k m hm h hr) hr,hq⟩
theorem ahD(hg:w.heap[g]?=some (.cells cur 82 (0,0)))(o:Nat)(u:Value):eU w (w.setCell ⟨g,o,none⟩ u) :=
 eU.aB (S:=[g]) ((aA.refl _ _).setCell (by simp) _) (λb hb c fz e=>by
  simp at hb;subst hb;rw[hg]at e;simp at e)
theorem abn(hg:w.heap[g]?=some (.cells cur t (0,0)))(o:Nat)(u:Value):(w.setCell ⟨g,o,none⟩ u).heap[g]?=some (.cells (cur.setIfInBounds o u) t (0,0)):=by
 simp[World.setCell,a0t,hg]
theorem abo(o:Nat)(u:Value)(h:k≠g):(w.setCell ⟨g,o,none⟩ u).heap[k]?=w.heap[k]?:=by
 simp[World.setCell,a0t,Ne.symm h]
theorem aj5 {a b:LB}(h:(Value.string (bs a))=.string (bs b)):a=b:=by
 simp only[Value.string.injEq]at h;have:=congrArg ByteArray.toList h
 rwa [bg,bg]at this
theorem PV.set {D:Nat->Prop}(h:PV w v M D)(hg0:w.heap[g0]?=some (.cells adv 82 (0,0)))
 (h2:adv[k0*4+2]?=some (.string (bs s0))) (he:fD s0=some e0) (hn:RN w n0 (jl e0)) :
 PV (w.setCell ⟨g0,k0*4+3,none⟩ (.pointer (some ⟨n0,0,none⟩))) v M (λk=>D k\/(v.ownBlock=some g0/\k=k0)):=by
 obtain⟨a,cap,rfl,h1,h3⟩:=h;refine⟨a,cap,rfl,h1,?_⟩;rcases h3 with h3|⟨g,cur,rfl,hg,hk⟩
 ·exact .inl h3
 have kp:=ahD hg0 (k0*4+3) (.pointer (some ⟨n0,0,none⟩))
 by_cases mP:g=g0
 ·subst mP
  rw[hg0]at hg;simp at hg;subst hg;refine .inr ⟨g,_,rfl,abn hg0 _ _,λk m hm=>?_⟩;obtain⟨c0,c1,c2,q,c3,hd,hq⟩:=hk k m hm;refine⟨?_,?_,?_,?_⟩
  ·rw[a2b,a0g (by omega)];exact c0
  ·rw[a2b,a0g (by omega)];exact c1
  ·rw[a2b,a0g (by omega)];exact c2
  by_cases hkk:k=k0
  ·subst hkk
   have aO:=(a0d.1 c3).1;refine⟨some ⟨n0,0,none⟩,by rw[a2b,a0j rfl,a0j aO],λ_ _=>by simp,λp hp=>?_⟩;simp at hp;subst hp;rw[c2]at h2;have:=aj5 (Option.some.inj h2);rw[this];exact⟨n0,e0,rfl,he,RN.aW kp hn⟩
  refine⟨q,by rw[a2b,a0g (by omega)];exact c3,λh hr=>?_,λp hp=>?_⟩
  ·rcases h with h|⟨_,h⟩
   ·exact hd h hr
   exact absurd h hkk
  obtain⟨n,e,h4,h5,h6⟩:=hq p hp;exact⟨n,e,h4,h5,RN.aW kp h6⟩
 refine .inr ⟨g,cur,rfl,(abo _ _ mP).trans hg,λk m hm=>?_⟩;obtain⟨c0,c1,c2,q,c3,hd,hq⟩:=hk k m hm;refine⟨c0,c1,c2,q,c3,λh hr=>?_,λp hp=>?_⟩
 ·rcases h with h|⟨h,_⟩
  ·exact hd h hr
  simp[Value.ownBlock]at h;exact absurd h mP
 obtain⟨n,e,h4,h5,h6⟩:=hq p hp;exact⟨n,e,h4,h5,RN.aW kp h6⟩
def EV(w:World)(X:List (Nat × jK × RR))(P:Nat->Nat->Prop):Prop:=∀j x,X[j]?=some x->PV w x.2.1.iB x.2.2.ifs (P j)
theorem EV.aB {X:List (Nat × jK × RR)} {P:Nat->Nat->Prop}(h:EV w X P)(f:aA [] w w'):EV w' X P:=λj x hx=>(h j x hx).aB f
def LA(X:List (Nat × jK × RR)):LN:=X.filterMap λx=>x.2.1.iB.ownBlock
theorem TB {base:Nat} {X:List (Nat × jK × RR)}(hx:∀x∈X,zZ base w x.1 x.2.1 x.2.2)(hk:k∈LA X):base<=k/\∃cur,w.heap[k]?=some (.cells cur 82 (0,0)):=by
 unfold LA at hk;rw[List.mem_filterMap]at hk;obtain⟨x,hm,hk⟩:=hk;have h:=(hx x hm).ifs;rcases h.2 with⟨e,_⟩|⟨g,cap,cur,e,hb,hg,_⟩
 ·rw[e]at hk;simp[Value.ownBlock]at hk
 rw[e]at hk;simp[Value.ownBlock]at hk;subst hk;exact⟨hb,cur,hg⟩
theorem NK {base:Nat} {X:List (Nat × jK × RR)}(hx:∀x∈X,zZ base w x.1 x.2.1 x.2.2) {fz:Nat × Nat}(h:w.heap[k]?=some (.cells cur t fz))(ht:t≠82):k∉LA X:=λhk=>by
 obtain⟨_,c,hc⟩:=TB hx hk;rw[h]at hc;simp at hc;exact ht hc.2.1
theorem EV.set {X:List (Nat × jK × RR)} {P:Nat->Nat->Prop}(h:EV w X P){i:Nat} {x0:Nat × jK × RR}(hx0:X[i]?=some x0)(hv:x0.2.1.iB.ownBlock=some g0)
 (hg0:w.heap[g0]?=some (.cells adv 82 (0,0))) (h2:adv[k0*4+2]?=some (.string (bs s0))) (he:fD s0=some e0) (hn:RN w n0 (jl e0)) :
 EV (w.setCell ⟨g0,k0*4+3,none⟩ (.pointer (some ⟨n0,0,none⟩))) X (λa c=>P a c\/(a=i/\c=k0)):=by
 intro j x hx;refine((h j x hx).set hg0 h2 he hn).mono ?_;intro k m hm hP hr;rcases hP with h|⟨e1,e2⟩
 ·exact .inl h
 subst e1;rw[hx0]at hx;simp at hx;subst hx;exact .inr ⟨hv,e2⟩
def RxQ(w:World)(X:List (Nat × jK × RR))(e:Ending)(w':World):Prop :=
 e=.returned (.tuple #[.int .i64 ((Lx (X.map (·.2.2)) 0).1:Nat),.int .i64 ((Lx (X.map (·.2.2)) 0).2:Nat)])/\aA (LA X) w w'/\((Lx (X.map (·.2.2)) 0).1=0->EV w' X (λ_ _=>True))
def inF(M:List RM)(i:Nat)(rest:Nat × Nat):Nat × Nat:=if !(Ro M==0) then (Ro M,i+2) else rest
theorem ahE(m:RM)(M:List RM)(i:Nat)(rest:Nat × Nat):inF (m::M) i rest=if CO m&&!(jC m.2.2==0) then (jC m.2.2,i+2) else inF M i rest:=by
 unfold inF;rw[Ro];cases h:(CO m&&!(jC m.2.2==0))
 ·simp
 simp only[a0C];have:(jC m.2.2==0)=false:=by
  cases h2:(jC m.2.2==0)
  ·rfl
  rw[h2]at h;simp at h
 rw[this];simp
theorem abp(cb base:Nat)(vr vt vl:Value)(X:List (Nat × jK × RR))(w:World)(hc:oV w cb vr vt vl)(hl:LP base w vl (X.map (·.1)))(hx:∀x∈X,zZ base w x.1 x.2.1 x.2.2)
 (iN:∀(i:Nat) x,X[i]?=some x->x.2.1.row=(i:Int)+2) (hX:X.length<=9000) (hi:∀x∈X,x.2.2.ifs.length<=1000/\∀m∈x.2.2.ifs,m.2.2.length<=40) :
 Calls Tryz.prog 10 #[sU cb] w (RxQ w X):=by
 have EM:=bg;have k1:({ data:=#[61,126] }:ByteArray).toList=[61,126]:=bg _;have k2:({ data:=#[33,126] }:ByteArray).toList=[33,126]:=bg _;have Hc:=aj hc;have Hl:=aj hl;have Hx:=aj hx;have agh:=aj iN;have Hi:=aj hi;obtain⟨al,cl,Dy⟩:=aT hl;rw[a0B]at Dy;subst Dy;have A0:Z_ (EV w X (λj _=>j<0)):=λj x hxj=>PV.of (hx x (a0M hxj)).ifs (λk=>by omega)
 obtain⟨RES,JV⟩:∃RES,Lx (X.map (·.2.2)) 0=RES:=⟨_,rfl⟩;have agi:=aj JV;have aj6:Z_ (∀(e:Ending) (w':World),e=.returned (.tuple #[.int .i64 (RES.1:Nat),.int .i64 (RES.2:Nat)])->aA (LA X) w w'->(RES.1=0->EV w' X (λ_ _=>True))->RxQ w X e w'):=by
  intro e w' h1 h2 h3;unfold RxQ;rw[JV];exact⟨h1,h2,h3⟩
 clear hc hl hx iN hi JV;show Calls Tryz.prog 10 #[.pointer (some ⟨cb,0,none⟩)] w _;go_enter Tryz.func10,Tryz.ntmps10
 go_wp2_with fail
 go_loopg [4] X.length (λk v4 wr=>∃(i:Nat),i+k=X.length/\v4=.int .i64 i/\aA (LA X) w wr/\EV wr X (λj _=>j<i)/\Lx ((X.map (·.2.2)).drop i) i=RES)
 case atStart=>exact⟨0,by omega,rfl,aA.refl _ _,A0,by rw[a2A];exact agi⟩
 case round =>
  clear A0 agi;obtain⟨i,hik,rfl,hf,ha,gP⟩:=hrel;have F:=aj hf;have A:=aj ha;have GO:=aj gP;have c2:wr.cell? ⟨cb,2,none⟩=some (.slice al X.length cl):=(Hc.o.aB hf (NK Hx.o Hc.o (by decide))).cell 2;have LR:=aj (jb Hl.o hf (λk hk=>.inr (by obtain⟨_,c,h⟩:=TB Hx.o hk;exact⟨c,_,_,h,by decide⟩)));obtain⟨go,EE⟩:∃go,go=gk:=⟨_,rfl⟩;subst EE;obtain⟨wo,Pn⟩:∃wo,wo=wr:=⟨_,rfl⟩;subst Pn;clear hf ha gP
  by_cases aO:i<X.length
  ·obtain⟨x,YE⟩:∃x,X[i]?=some x:=⟨X[i],a0c aO⟩
   have GG:=a0M YE;have HXI:=aj YE;have VT:(X.map (·.1))[i]?=some x.1:=by rw[a1d,YE];rfl
   obtain⟨gl,ja,hcj⟩:∃g,al=some ⟨g,0,none⟩/\wo.cell? ⟨g,i,none⟩=some (sU x.1):=by
    have h:=LR.o;rcases h.2 with⟨e,h0⟩|⟨g,cap,cur,e,hb,hg,rest⟩
    ·rw[a0B]at h0;omega
    simp only[Value.slice.injEq]at e;obtain⟨rfl,_,rfl⟩:=e;refine⟨g,rfl,?_⟩;have h3:=World.ownsRow.cells h (g:=g) rfl i (sU x.1) (by rw[a1d,VT];rfl);rw[add0]at h3;exact h3
   subst ja;have aj7:=(Hx.o x GG).at_;have wW:Z_ (∀W,aA (LA X) w W->pN W x.1 x.2.1):=λW hf=>aj7.aB hf (NK Hx.o aj7 (by decide))
   obtain⟨ai,ci,DV,hci,Z7⟩:=A.o i x YE;have d5:wo.cell? ⟨x.1,5,none⟩=some x.2.1.iB:=(wW.o wo F).cell 5;rw[DV]at d5;obtain⟨M,hM⟩:∃M,x.2.2.ifs=M:=⟨_,rfl⟩;rw[hM]at d5 DV hci Z7;have hMi:=Hi.o x GG;rw[hM]at hMi;obtain⟨nM,hnM⟩:∃n,n=M.length:=⟨_,rfl⟩;rw[<-hnM]at d5 DV hci Z7;have HnM:=aj hnM;have La:nM<=1000:=by rw[hnM];exact hMi.1
   have apu:=aj hMi.2;have HVI:=aj DV;obtain⟨REST,afb⟩:∃r,Lx ((X.map (·.2.2)).drop (i+1)) (i+1)=r:=⟨_,rfl⟩;have anT:=aj afb;have HM:=aj hM;have G0:Z_ (inF (M.drop 0) i REST=RES):=by
    show _=_;have e:(X.map (·.2.2)).drop i=x.2.2::(X.map (·.2.2)).drop (i+1):=by
     rw[a0q (by simpa using aO)];have:=(a0i.1 YE).2;simp[this]
    have:=GO.o;rw[e,Lx,hM,afb]at this;rw[a2A];exact this
   have A1:Z_ (EV wo X (λa c=>a<i\/(a=i/\c<0))):=λa y hy=>(A.o a y hy).mono (λk m _ h _=>by
    rcases h with h|⟨_,h⟩
    ·exact h
    omega)
   clear Z7 hnM hMi DV afb hM VT GG YE aj7 LR GO A;obtain⟨b,hb⟩:∃b,b=x.1:=⟨_,rfl⟩;unfold sU at hcj;rw[<-hb]at hcj d5 wW;have hB:=aj hb;clear hb;have DD:Z_ (∀W,aA (LA X) w W->W.cell? ⟨b,5,none⟩=some (.slice ai nM ci)/\W.cell? ⟨b,9,none⟩=some (.int .i64 ((i:Int)+2))):=by
    intro W hf;refine⟨((wW.o W hf).cell 5).trans ?_,((wW.o W hf).cell 9).trans ?_⟩
    ·rw[<-HVI.o];rfl
    have:=agh.o i x HXI;rw[<-this];rfl
   go_wp2_with fail
   go_loopg [6] nM (λk v6 wr=>∃(j:Nat),j+k=nM/\v6=.int .i64 j/\aA (LA X) w wr/\EV wr X (λa c=>a<i\/(a=i/\c<j))/\inF (M.drop j) i REST=RES)
   case atStart=>exact⟨0,by omega,rfl,F,A1,G0⟩
   case round =>
    clear A1 G0 F c2 hcj d5;obtain⟨j,sI,rfl,hf,ha,gP⟩:=hrel;have F:=aj hf;have A:=aj ha;have GO:=aj gP;obtain⟨d5,d9⟩:=DD.o wr hf;clear hf ha gP
    by_cases lL:j<nM
    ·obtain⟨m,hm⟩:∃m,M[j]?=some m:=⟨M[j]'(by have:=HnM.o;omega),a0c (by have:=HnM.o;omega)⟩
     have Bp:=apu.o m (a0M hm);obtain⟨g,cur,hai,hg,aV⟩:∃g cur,ai=some ⟨g,0,none⟩/\wr.heap[g]?=some (.cells cur 82 (0,0))/\(cur[j*4+1]?=some (.string (bs m.2.1))/\cur[j*4+2]?=some (.string (bs m.2.2))/\∃q:Option Addr,cur[j*4+3]?=some (.pointer q)):=by
      obtain⟨a',xJ,e1,_,h3⟩:=A.o i x HXI;rw[HVI.o,HM.o,<-HnM.o]at e1;simp only[Value.slice.injEq]at e1;rcases h3 with h3|⟨g,cur,e2,h4,h5⟩
      ·rw[HM.o]at h3;have:=HnM.o;omega
      obtain⟨_,h6,h7,q,h8,_⟩:=h5 j m (by rw[HM.o];exact hm);exact⟨g,cur,e1.1.trans e2,h4,h6,h7,q,h8⟩
     subst hai;obtain⟨k1',k2',q,k3'⟩:=aV;have m1:wr.cell? ⟨g,j*4+1,none⟩=some (.string (bs m.2.1)):=by rw[cell_of_row wr g _ cur _ _ hg];exact k1'
     have m2:wr.cell? ⟨g,j*4+2,none⟩=some (.string (bs m.2.2)):=by rw[cell_of_row wr g _ cur _ _ hg];exact k2'
     have GS:=ahE m (M.drop (j+1)) i REST;have hdr:M.drop j=m::M.drop (j+1):=by
      have h1:=(a0i.1 hm).1;rw[a0q h1,(a0i.1 hm).2]
     rw[<-hdr,GO.o]at GS;have Xj:=aj GS;have HG:=aj hg;have K2:=aj k2';have K3:=aj k3';have HMJ:=aj hm;have amO:=(a0d.1 hg).1;obtain⟨bA,sg,val⟩:=m;simp only at m1 m2 Bp K2 Xj;clear hm hdr GS GO hg k1' k2' k3';cases lK:(sg == [61,126])
     case false =>
      cases nQ:(sg == [33,126])
      case false =>
       have HN:Z_ (inF (M.drop (j+1)) i REST=RES):=by
        show _=_;have:=Xj.o;simp only[CO,lK,nQ,Bool.or_false,a3p,a0n,a0G]at this;exact this.symm
       have A2:Z_ (EV wr X (λa c=>a<i\/(a=i/\c<j+1))):=λa y hy=>(A.o a y hy).mono (λk m' hm' h hr=>by
        rcases h with h|⟨h1,h2⟩
        ·exact .inl h
        refine .inr ⟨h1,?_⟩;rcases a3n k j with h3|h3
        ·exact h3
        exfalso
        have hkj:k=j:=by omega
        subst hkj h1;rw[HXI.o]at hy;simp at hy;subst hy;rw[HM.o,HMJ.o]at hm';simp at hm';subst hm';simp[CO,lK,nQ]at hr)
       clear Xj;go_wp2;go_roundg (gk-1)
       case measure=>omega
       case rel=>exact⟨j+1,by omega,by go_num,F,A2,HN⟩
      case true =>
       have hrx:Z_ (CO (bA,sg,val)=true):=by show _=_;simp[CO,lK,nQ]
       have NR:=aj (Rk val wr Bp);go_wp2_with fail
       refine(NR.o).mono ?_;rintro e w2 ⟨aS,q2,rfl,jT⟩;have F2:=aj (F.o.trans aS.nil);have A2:=aj (A.o.aB aS);have OK:=aj jT;have kg:w2.heap[g]?=some (.cells cur 82 (0,0)):=(aS.block g amO (by simp)).trans HG;have m3:w2.cell? ⟨g,j*4+3,none⟩=some (.pointer q):=by rw[cell_of_row w2 g _ cur _ _ kg];exact K3
       have z3:w2.frozen? ⟨g,j*4+3,none⟩=false:=by simp[World.frozen?,kg]
       have e9:=(DD.o w2 F2).2;have HG2:=aj kg;clear kg aS jT NR
       by_cases hz:jC val=0
       ·obtain⟨x1,n1,zK,hq,uO⟩:=OK.o hz
        subst hq;have A3:=aj (A2.o.set HXI.o (by rw[HVI.o];rfl) HG2.o K2.o zK uO);have HN:Z_ (inF (M.drop (j+1)) i REST=RES):=by
         show _=_;have:=Xj.o;rw[hz]at this;simp only[a2x,a2q,a3o,a0n,a0G]at this;exact this.symm
        have GM:Z_ (g∈LA X):=by
         show _∈_;unfold LA;exact List.mem_filterMap.2 ⟨x,a0M HXI,by rw[HVI.o];rfl⟩
        have A4:Z_ (EV (w2.setCell ⟨g,j*4+3,none⟩ (.pointer (some ⟨n1,0,none⟩))) X (λa c=>a<i\/(a=i/\c<j+1))):=λa y hy=>(A3.o a y hy).mono (λk m' _ h _=>by
         rcases h with h|⟨h1,h2⟩
         ·exact .inl (.inl h)
         rcases a3n k j with h3|h3
         ·exact .inl (.inr ⟨h1,h3⟩)
         exact .inr ⟨h1,by omega⟩)
        rw[hz];clear Xj OK A3 A2 hz zK uO;go_wp2;go_roundg (gk-1)
        case measure=>omega
        case rel=>exact⟨j+1,by omega,by go_num,F2.o.setCell (.inl GM.o) _,A4,HN⟩
       have HN:Z_ (RES=(jC val,i+2)):=by
        show _=_;have:=Xj.o;rw[hrx.o,a0k.2 hz]at this;exact this
       have bL:((jC val:Int)==0)=false:=a0k.2 (by omega);have HZ:=aj hz;clear Xj OK A2 hz;generalize jC val=rc at *;go_wp2_with fail
       go_quiet (fail)
       go_wp2;go_ret2;refine aj6.o _ _ (by rw[HN.o];rfl) (F2.o.drewN _) (λh=>?_);rw[HN.o]at h;exact absurd h HZ
     case true =>
      have hrx:Z_ (CO (bA,sg,val)=true):=by show _=_;simp[CO,lK]
      have NR:=aj (Rk val wr Bp);go_wp2_with fail
      refine(NR.o).mono ?_;rintro e w2 ⟨aS,q2,rfl,jT⟩;have F2:=aj (F.o.trans aS.nil);have A2:=aj (A.o.aB aS);have OK:=aj jT;have kg:w2.heap[g]?=some (.cells cur 82 (0,0)):=(aS.block g amO (by simp)).trans HG;have m3:w2.cell? ⟨g,j*4+3,none⟩=some (.pointer q):=by rw[cell_of_row w2 g _ cur _ _ kg];exact K3
      have z3:w2.frozen? ⟨g,j*4+3,none⟩=false:=by simp[World.frozen?,kg]
      have e9:=(DD.o w2 F2).2;have HG2:=aj kg;clear kg aS jT NR
      by_cases hz:jC val=0
      ·obtain⟨x1,n1,zK,hq,uO⟩:=OK.o hz
       subst hq;have A3:=aj (A2.o.set HXI.o (by rw[HVI.o];rfl) HG2.o K2.o zK uO);have HN:Z_ (inF (M.drop (j+1)) i REST=RES):=by
        show _=_;have:=Xj.o;rw[hz]at this;simp only[a2x,a2q,a3o,a0n,a0G]at this;exact this.symm
       have GM:Z_ (g∈LA X):=by
        show _∈_;unfold LA;exact List.mem_filterMap.2 ⟨x,a0M HXI,by rw[HVI.o];rfl⟩
       have A4:Z_ (EV (w2.setCell ⟨g,j*4+3,none⟩ (.pointer (some ⟨n1,0,none⟩))) X (λa c=>a<i\/(a=i/\c<j+1))):=λa y hy=>(A3.o a y hy).mono (λk m' _ h _=>by
        rcases h with h|⟨h1,h2⟩
        ·exact .inl (.inl h)
        rcases a3n k j with h3|h3
        ·exact .inl (.inr ⟨h1,h3⟩)
        exact .inr ⟨h1,by omega⟩)
       rw[hz];clear Xj OK A3 A2 hz zK uO;go_wp2;go_roundg (gk-1)
       case measure=>omega
       case rel=>exact⟨j+1,by omega,by go_num,F2.o.setCell (.inl GM.o) _,A4,HN⟩
      have HN:Z_ (RES=(jC val,i+2)):=by
       show _=_;have:=Xj.o;rw[hrx.o,a0k.2 hz]at this;exact this
      have bL:((jC val:Int)==0)=false:=a0k.2 (by omega);have HZ:=aj hz;clear Xj OK A2 hz;generalize jC val=rc at *;go_wp2_with fail
      go_quiet (fail)
      go_wp2;go_ret2;refine aj6.o _ _ (by rw[HN.o];rfl) (F2.o.drewN _) (λh=>?_);rw[HN.o]at h;exact absurd h HZ
    have HN:Z_ (REST=RES):=by
     show _=_;have:=GO.o;rw[a0p (by have:=HnM.o;omega)]at this;exact this
    have A2:Z_ (EV wr X (λa _=>a<i+1)):=λa y hy=>(A.o a y hy).mono (λk m' hm' h hr=>by
     rcases a3n a i with h3|h3
     ·exact .inl h3
     have hai:a=i:=by omega
     refine .inr ⟨hai,?_⟩;subst hai;rw[HXI.o]at hy;simp at hy;subst hy;have:=(a0i.1 hm').1;rw[HM.o]at this;have:=HnM.o;omega)
    go_wp2;go_roundg (go-1)
    case measure=>omega
    case rel=>exact⟨i+1,by omega,by go_num,F,A2,by rw[anT.o];exact HN⟩
  have HN:Z_ (RES=(0,0)):=by
   show _=_;rw[<-GO.o,a0p (by simp;omega)];rfl
  have A2:Z_ (EV wo X (λ_ _=>True)):=λa y hy=>(A.o a y hy).mono (λk m' _ _ _=>by
   have:=(a0i.1 hy).1;omega)
  go_wp2;go_ret2;exact aj6.o _ _ (by rw[HN.o];rfl) F.o (λ_=>A2)
end Go.Proofs.YtgbdcmpmmkfbhaaGreat
