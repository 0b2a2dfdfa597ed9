import Derived.Test.YtedmellodofajaaGreatDoorJ6
import Derived.Test.YtedmellodofajaaGreatDoorJ4
import Derived.Lib.ItoaNum
import Derived.Test.YtedmellodofajaaGreatDoorJ1
import Derived.Test.YtedmellodofajaaGreatDoorJ5
set_option linter.unusedVariables false
set_option linter.unusedSimpArgs false
set_option linter.unnecessarySimpa false
set_option linter.defProp false
set_option maxRecDepth 100000
set_option maxHeartbeats 8000000
namespace Go.Proofs.YtedmellodofajaaGreatDoor
open Go.RowKit
section
variable {α:Type} {w w':World} {b cap n:Nat} {a:Option Addr} {L:List Bool} {v:Value} {l:List NF}
def zW(n:Int)(w:World)(b:0<=n)(a:n<=2000000) :
 zF 28 #[zI n] w λe w'=>e=zR (zI (n+2))/\w=w':=by
 delta zF;go_in
 go_wp2;go_ret;exact⟨rfl,rfl⟩
def jN(d a:Int):Bool:=decide (1<=d)&&decide (d<=5)&&decide (d<=a+1)
def nW(c:CR):Bool:=(c.d==0)&&c.ifs.isEmpty&&!c.co&&!(c.rc == [45])
def aaj(rv:RV)(b:Int)(w:World)(o:0<=b)(m:b<=2000000)(hb:∃a n c,rv.ek=.slice a n c)(f:∃a n c,rv.iJ=.slice a n c) :
 zF 44 #[.agg rv.cells,zI b] w λe w'=>e=zR (.bool (jN rv.d b))/\aB [] w w':=by
 obtain⟨d,rc,tb,ek,wt,ev,rp,iJ,co⟩:=rv;obtain⟨l,nb,cb,hb⟩:=hb;obtain⟨ai,k,ci,f⟩:=f;simp only at hb f;subst hb f;show zF 44 #[.agg #[zI d,zT rc,.bool tb,.slice l nb cb,zI wt,zI ev,zI rp,.slice ai k ci,.bool co],zI b] w _
 by_cases h:1<=d
 .by_cases i:d<=5
  have g:decide (1<=d)=true:=a0g h;have j:decide (d<=5)=true:=a0g i
  rotate_left
  have g:decide (1<=d)=true:=a0g h;have j:decide (d<=5)=false:=a0f i
  all_goals
   delta zF;go_in
   go_wp2;go_ret;exact⟨dD (by simp[jN,g,j]),zJ⟩
 have g:decide (1<=d)=false:=a0f h;delta zF;go_in
 go_wp2;go_ret;exact⟨dD (by simp[jN,g]),zJ⟩
def aak(d:Int)(rc:LB)(tb:Bool)(c:Option Addr)(nb cb:Nat)(wt ev rp:Int)(ai:Option Addr)(b ci:Nat)(co:Bool)(a:Int)(w:World)(g:0<=a)(f:a<=2000000) :
 zF 44 #[.agg #[zI d,zT rc,.bool tb,.slice c nb cb,zI wt,zI ev,zI rp,.slice ai b ci,.bool co],zI a] w λe w'=>e=zR (.bool (jN d a))/\aB [] w w' :=
 aaj ⟨d,rc,tb,.slice c nb cb,wt,ev,rp,.slice ai b ci,co⟩ a w g f ⟨_,_,_,rfl⟩ ⟨_,_,_,rfl⟩
def aal(rv:RV)(b:Nat)(w:World)(hb:∃a n c,rv.ek=.slice a n c)(g:∃a c,rv.iJ=.slice a b c) :
 zF 45 #[.agg rv.cells] w λe w'=>e=zR (.bool ((rv.d==0)&&(b==0)&&!rv.co&&!(rv.rc == [45])))/\aB [] w w':=by
 obtain⟨d,rc,tb,ek,wt,ev,rp,iJ,co⟩:=rv;obtain⟨j,nb,cb,hb⟩:=hb;obtain⟨ai,ci,g⟩:=g;simp only at hb g;subst hb g;have k:=aT;have l:({ data:=#[45] }:ByteArray).toList=[45]:=aT [45];show zF 45 #[.agg #[zI d,zT rc,.bool tb,.slice j nb cb,zI wt,zI ev,zI rp,.slice ai b ci,.bool co]] w _;cases i:(d==0)
 .delta zF;go_in
  go_wp2;go_ret;exact⟨dD (by simp[i]),zJ⟩
 cases h:((b:Int)==0)
 have f:(b==0)=false:=by rw[a0j]at h |-;omega
 rotate_left
 have f:(b==0)=true:=by rw[a0W]at h |-;omega
 cases co
 all_goals
  delta zF;go_in
  go_wp2;go_ret;exact⟨dD (by simp[i,f]),zJ⟩
def aam(d:Int)(rc:LB)(tb:Bool)(b:Option Addr)(nb cb:Nat)(wt ev rp:Int)(ai:Option Addr)(a ci:Nat)(co:Bool)(w:World) :
 zF 45 #[.agg #[zI d,zT rc,.bool tb,.slice b nb cb,zI wt,zI ev,zI rp,.slice ai a ci,.bool co]] w λe w'=>e=zR (.bool ((d==0)&&(a==0)&&!co&&!(rc == [45])))/\aB [] w w' :=
 aal ⟨d,rc,tb,.slice b nb cb,wt,ev,rp,.slice ai a ci,co⟩ a w ⟨_,_,_,rfl⟩ ⟨_,_,rfl⟩
def lD:List CR->Nat->Int->Nat
 | [],_,_=>0
 | c::r,i,a=>if !(if i==0 then nW c else jN c.d a)||decide (16<=i) then i+2 else lD r (i+1) c.d
def iX(C:List CR):Nat:=if C.isEmpty then 2 else lD C 0 0
def flat_get{β:Type}(f:α->List β)(s:Nat)(b:∀a,(f a).length=s):∀(L:List α) (j k:Nat) (a:α),L[j]?=some a->k<s->(L.flatMap f)[j*s+k]?=(f a)[k]?
 | [],j,k,a,h,_=>by simp at h
 | x::L,0,k,a,h,c=>by simp at h;subst h;rw[Nat.zero_mul,a1n,a1i,a0s (by rw[b];exact c)]
 | x::L,j+1,k,a,h,c=>by simp at h;rw[a1i,a0K (by rw[b,a0J];omega),b,show(j+1)*s+k-s=j*s+k by rw[a0J];omega];exact flat_get f s b L j k a h c
theorem RL.cell {base:Nat} {R:List RV}{g:Nat}(h:RL base w (zS g n cap) R) {j:Nat} {rv:RV}(d:R[j]?=some rv)(k:Nat)(b:k<9):w.cell? (zB g (j*9+k))=rv.cells[k]?:=by
 have f:=flat_get DX 9 (λa=>rfl) R j k rv d b;have c:(DX rv)[k]?=rv.cells[k]?:=by simp[DX]
 have e:=World.ownsRow.cells h (g:=g) rfl (j*9+k);have i:k<rv.cells.size:=b;rw[Array.getElem?_eq_getElem i]at c |-;have:=e _ (f.trans c);rw[add0]at this;exact this
def aan(base:Nat)(v:Value)(R:List RV)(C:List CR)(w:World)(E:RL base w v R)(F:qL base w R C)(hR:R.length<=1048576)(hd:∀c∈C,c.d<=1048576) :
 zF 24 #[v] w λe w'=>e=zR (zI (iX C))/\aB [] w w':=by
 obtain⟨a,cap,rfl⟩:=aW E;have r:R.length=C.length:=F.1;have HR:Z_ (RL base w (.slice a R.length cap) R):=E;have HP:Z_ (qL base w R C):=F;have HD:Z_ (∀c∈C,c.d<=1048576):=hd;clear E F hd
 by_cases h0:R.length=0
 .have H:Z_ (iX C=2):=by show _=_;unfold iX;rw[a0S (r.symm.trans h0)];rfl
  have hb:((R.length:Int)==0)=true:=by simp[h0]
  delta zF;go_in
  go_wp2_with (go_at_call 28;refine(zW _ _ (by omega) (by omega)).mono ?_;rintro e w' ⟨rfl,rfl⟩)
  go_ret;exact⟨mJ (by rw[H.o];rfl),zK⟩
 have hb:((R.length:Int)==0)=false:=a0j.2 (by omega);have H:Z_ (iX C=lD C 0 0):=by
  show _=_;unfold iX;have:C.isEmpty=false:=by
   cases C with
   | nil=>rw[a1e]at r;omega
   | cons=>rfl
  rw[this];rfl
 obtain⟨g,rfl⟩:∃g,a=some (zA g):=by
  rcases HR.o.2 with⟨e,h⟩|⟨g,c,cur,e,_⟩
  .omega
  simp at e;exact⟨g,e.1⟩
 have Ao:Z_ (R.length=C.length):=r;clear r;delta zF;go_in
 go_wp2_with fail
 go_loopg [3,13] R.length (λk vd vi wr=>∃(j:Nat) (m:Nat),j+k=R.length/\vi=zI j/\vd=zI m/\m<=1048576/\lD (C.drop j) j m=iX C/\aB [] w wr)
 exact⟨0,0,by omega,rfl,rfl,by omega,H.o.symm,zK⟩
 .obtain⟨j,m,hj,rfl,rfl,hda,iD,bH⟩:=hrel;have KG:Z_ (lD (C.drop j) j m=iX C):=iD;have KF:Z_ (aB [] w wr):=bH;clear iD bH
  by_cases aL:j<R.length
  .have r:=Ao.o
   have L:R[j]?=some R[j]:=a0a aL;have u:C[j]?=some (C[j]'(by omega)):=a0a (by omega);have s:=HP.o.2 j _ _ L u;have x:=HD.o _ (a0u (l:=C) (n:=j) (by omega));have Hd:Z_ (C.drop j=(C[j]'(by omega))::C.drop (j+1)):=a0k (by omega);generalize (C[j]'(by omega))=c at *;have lz:RL base wr (zS g R.length cap) R:=fG HR.o KF.o (by simp);have aO:=λk hk=>lz.cell L k hk
   generalize R[j]=rv at *;obtain⟨d,rc,tb,ek,wt,ev,rp,iJ,co⟩:=rv;have q0:zC wr g (j*9) (zI d):=aO 0 (by omega);have q1:zC wr g (j*9+1) (zT rc):=aO 1 (by omega);have Z:zC wr g (j*9+2) (.bool tb):=aO 2 (by omega);have Y:zC wr g (j*9+3) ek:=aO 3 (by omega);have X:zC wr g (j*9+4) (zI wt):=aO 4 (by omega);have W:zC wr g (j*9+5) (zI ev):=aO 5 (by omega);have V:zC wr g (j*9+6) (zI rp):=aO 6 (by omega);have U:zC wr g (j*9+7) iJ:=aO 7 (by omega);have T:zC wr g (j*9+8) (.bool co):=aO 8 (by omega);obtain⟨q,cb,eb⟩:=s.Im.shape;obtain⟨ai,ci,ei⟩:=aW s.ifs;have We:=s.d;have P:=s.rc;have Sz:=s.co;simp only at eb ei We P Sz;subst eb ei We P Sz;clear aO lz s L u r;have A:=bD wr (Obj.cells #[Value.int IntKind.i64 c.d,Value.string (bs c.rc),Value.bool tb,Value.slice q c.jM.length cb,Value.int IntKind.i64 wt,Value.int IntKind.i64 ev,Value.int IntKind.i64 rp,Value.slice ai c.ifs.length ci,Value.bool c.co] 81);have HN:Z_ (RT (wr.alloc (Obj.cells #[Value.int IntKind.i64 c.d,Value.string (bs c.rc),Value.bool tb,Value.slice q c.jM.length cb,Value.int IntKind.i64 wt,Value.int IntKind.i64 ev,Value.int IntKind.i64 rp,Value.slice ai c.ifs.length ci,Value.bool c.co] 81)) wr.heap.size ⟨c.d,c.rc,tb,.slice q c.jM.length cb,wt,ev,rp,.slice ai c.ifs.length ci,c.co⟩):=A;clear A;have z:Z_ (iX C=if !(if j==0 then nW c else jN c.d m)||decide (16<=j) then j+2 else lD (C.drop (j+1)) (j+1) c.d):=by show _=_;rw[<-KG.o,Hd.o];rfl
   clear KG Hd;go_wp2_with fail
   refine(aak c.d c.rc tb q _ cb wt ev rp ai _ ci c.co m _ (by omega) (by omega)).mono ?_;rintro e f ⟨rfl,I⟩;have D:Z_ (aB [] w f):=(KF.o.alloc _).trans I;have b:=HN.o.aC I (by simp);have N:Z_ (RT f wr.heap.size ⟨c.d,c.rc,tb,.slice q c.jM.length cb,wt,ev,rp,.slice ai c.ifs.length ci,c.co⟩):=b;have q0:zC f wr.heap.size 0 (zI c.d):=b.cell 0;have q1:zC f wr.heap.size 1 (zT c.rc):=b.cell 1;have Z:zC f wr.heap.size 2 (.bool tb):=b.cell 2;have Y:zC f wr.heap.size 3 (.slice q c.jM.length cb):=b.cell 3;have X:zC f wr.heap.size 4 (zI wt):=b.cell 4;have W:zC f wr.heap.size 5 (zI ev):=b.cell 5;have V:zC f wr.heap.size 6 (zI rp):=b.cell 6;have U:zC f wr.heap.size 7 (.slice ai c.ifs.length ci):=b.cell 7;have T:zC f wr.heap.size 8 (.bool c.co):=b.cell 8;clear I b HN
   by_cases S:j=0
   .subst S
    have M:nW c=(((c.d:Int)==0)&&(c.ifs.length==0)&&!c.co&&!(c.rc == [45])):=by
     unfold nW;have e1:((c.d:Int)==0)=(c.d==0):=by rw[a0T];simp
     have e2:(c.ifs.length==0)=c.ifs.isEmpty:=by cases c.ifs<;>rfl
     rw[e1,e2]
    go_wp2_with fail
    refine(aam c.d c.rc tb q _ cb wt ev rp ai _ ci c.co _).mono ?_;rintro e O ⟨rfl,J⟩;have B:Z_ (aB [] w O):=D.o.trans J;have q0':zC O wr.heap.size 0 (zI c.d):=(N.o.aC J (by simp)).cell 0;rw[<-M];clear J q0 q1 Z Y X W V U T;cases t:nW c
    .have i:Z_ (iX C=2):=by show _=_;rw[z.o,t];rfl
     go_wp2_with (go_at_call 28;refine(zW _ _ (by omega) (by omega)).mono ?_;rintro e w' ⟨rfl,rfl⟩)
     go_ret;exact⟨mJ (by rw[i.o];rfl),B⟩
    have i:Z_ (lD (C.drop 1) 1 c.d=iX C):=by show _=_;rw[z.o,t];rfl
    go_wp2;go_roundg (gk-1);exact⟨1,c.d,by omega,by go_num,rfl,x,i,B⟩;omega
   have axU:((j:Int)==0)=false:=a0j.2 (by omega);have p:(j==0)=false:=a0j.2 S;cases t:jN c.d m
   .have i:Z_ (iX C=j+2):=by show _=_;rw[z.o,t,p];rfl
    go_wp2_with (go_at_call 28;refine(zW _ _ (by omega) (by omega)).mono ?_;rintro e w' ⟨rfl,rfl⟩)
    go_ret;exact⟨mJ (by rw[i.o];simp),D⟩
   by_cases y:16<=j
   .have i:Z_ (iX C=j+2):=by show _=_;rw[z.o,t,p];simp[y]
    go_wp2_with (go_at_call 28;refine(zW _ _ (by omega) (by omega)).mono ?_;rintro e w' ⟨rfl,rfl⟩)
    go_ret;exact⟨mJ (by rw[i.o];simp),D⟩
   have i:Z_ (lD (C.drop (j+1)) (j+1) c.d=iX C):=by show _=_;rw[z.o,t,p];simp[y]
   go_wp2;go_roundg (gk-1);exact⟨j+1,c.d,by omega,by go_num,rfl,x,i,D⟩;omega
  have G:Z_ (iX C=0):=by show _=_;rw[<-KG.o,a0i (by have:=Ao.o;omega)];rfl
  go_wp2;go_ret;exact⟨mJ (by rw[G.o];rfl),KF⟩
def mq:List LB->List LB->Bool
 | _,[]=>false
 | pre,x::r=>if pre.contains x then true else mq (pre++[x]) r
def xM(L:List LB):List CR->Nat->Nat
 | [],_=>0
 | c::r,i=>if !(c.rc == [45])&&!(L.contains c.rc) then i+2 else xM L r (i+1)
def mr(L:List LB)(C:List CR):Nat:=if mq [] L then 1 else xM L C 0
theorem RS.take {base:Nat} {L:List LB}(h:RS base w (.slice a n cap) L)(k:Nat)(m:k<=L.length):RS base w (.slice a k cap) (L.take k):=by obtain⟨q,l,e,p,o,i⟩:=h;simp at e;obtain⟨rfl,rfl,rfl⟩:=e;refine⟨a,cap,by simp;omega,by simp;omega,by simp;omega,λj b=>?_⟩;simp at b;obtain⟨g,off,f,d,c⟩:=i j (by omega);exact⟨g,off,f,d,by simpa using c⟩
def aap(base:Nat)(vr vt:Value)(L:List LB)(R:List RV)(C:List CR)(w:World)(D:SL base w vr L)(E:RL base w vt R)(F:qL base w R C)(hR:R.length<=1048576)(hL:L.length<=1048576) :
 zF 25 #[.agg #[vr,vt]] w λe w'=>e=zR (zI (mr L C))/\aB [] w w':=by
 obtain⟨a,cap,rfl⟩:=aW E;obtain⟨b,f,rfl⟩:=D.shape;have X:Z_ (R.length=C.length):=F.1;have HR:Z_ (RL base w (.slice a R.length cap) R):=E;have W:Z_ (RS 0 w (.slice b L.length f) L):=(D.rs hL).base (a1G _);have HP:Z_ (qL base w R C):=F;clear E F D;have hl:=aT;have avW:({ data:=#[45] }:ByteArray).toList=[45]:=aT [45];have P:=bD w (Obj.cells #[.slice b L.length f,.slice a R.length cap] 47);have Y:Z_ (CB (w.alloc (Obj.cells #[.slice b L.length f,.slice a R.length cap] 47)) w.heap.size (.slice b L.length f) (.slice a R.length cap)):=P;clear P;delta zF;go_in
 go_wp2_with fail
 go_loopg [10] L.length (λk A wr=>∃(j:Nat),j+k=L.length/\A=zI j/\mq (L.take j) (L.drop j)=mq [] L/\CB wr w.heap.size (.slice b L.length f) (.slice a R.length cap)/\aB [] w wr)
 exact⟨0,by omega,rfl,rfl,Y,zJ⟩
 .obtain⟨j,T,rfl,s,i,t⟩:=hrel;have z:Z_ (mq (L.take j) (L.drop j)=mq [] L):=s;have p:Z_ (CB wr w.heap.size (.slice b L.length f) (.slice a R.length cap)):=i;have KF:Z_ (aB [] w wr):=t;have d0:=i.c0;have d1:=i.c1;clear s i t
  by_cases n:j<L.length
  .have q:RS 0 wr (.slice b L.length f) L:=W.o.aC KF.o (by simp)
   have N:Z_ (RS 0 wr (.slice b L.length f) L):=q;obtain⟨a',xK,e,h1,h2,U⟩:=q;simp at e;obtain⟨e1,e2⟩:=e;subst e1 e2;obtain⟨g,off,h4,h5,h6⟩:=U j n;subst h4;clear U;have v:Z_ (L.drop j=L[j]::L.drop (j+1)):=a0k n;have Ht:Z_ (L.take (j+1)=L.take j++[L[j]]):=a0F n;generalize L[j]=x at *;go_wp2_with fail
   refine(aaa _ (L.take j) x _ (N.o.take j (by omega))).mono ?_;rintro e w' ⟨rfl,rfl⟩;cases u:(L.take j).contains x
   .have J:Z_ (mq (L.take (j+1)) (L.drop (j+1))=mq [] L):=by
     show _=_;rw[<-z.o,v.o,Ht.o];conv=>rhs;unfold mq
     rw[u];rfl
    go_wp2;go_roundg (gk-1);exact⟨j+1,by omega,by go_num,J,p,KF⟩;omega
   have m:Z_ (mr L C=1):=by show _=_;unfold mr;rw[<-z.o,v.o];unfold mq;rw[u];rfl
   go_wp2;go_ret;exact⟨mJ (by rw[m.o];rfl),KF⟩
  have M:Z_ (mr L C=xM L C 0):=by show _=_;unfold mr;rw[<-z.o,a0i (by omega)];rfl
  clear z;go_wp2_with fail
  go_loopg [25] R.length (λk A wr=>∃(j:Nat),j+k=R.length/\A=zI j/\xM L (C.drop j) j=mr L C/\CB wr w.heap.size (.slice b L.length f) (.slice a R.length cap)/\aB [] w wr)
  exact⟨0,by omega,rfl,M.o.symm,p,KF⟩
  .clear d0 d1 p KF n T;obtain⟨j,T,rfl,S,i,t⟩:=hrel;have KG:Z_ (xM L (C.drop j) j=mr L C):=S;have p:Z_ (CB wr w.heap.size (.slice b L.length f) (.slice a R.length cap)):=i;have KF:Z_ (aB [] w wr):=t;have d0:=i.c0;have d1:=i.c1;have pY:=i.lt;clear S i t
   by_cases n:j<R.length
   .have Z:=X.o
    have I:R[j]?=some R[j]:=a0a n;have r:C[j]?=some (C[j]'(by omega)):=a0a (by omega);have y:=HP.o.2 j _ _ I r;have v:Z_ (C.drop j=(C[j]'(by omega))::C.drop (j+1)):=a0k (by omega);generalize (C[j]'(by omega))=c at *;have B:RL base wr (.slice a R.length cap) R:=fG HR.o KF.o (by simp);obtain⟨g,hg⟩:∃g,a=some (zA g):=by
     rcases B.2 with⟨e,h⟩|⟨g,c,cur,e,_⟩
     .omega
     simp at e;exact⟨g,e.1⟩
    subst hg;have aO:=λk hk=>B.cell I k hk
    generalize R[j]=rv at *;obtain⟨d,rc,tb,ek,wt,ev,rp,iJ,co⟩:=rv;have q0:zC wr g (j*9) (zI d):=aO 0 (by omega);have q1:zC wr g (j*9+1) (zT rc):=aO 1 (by omega);have q2:zC wr g (j*9+2) (.bool tb):=aO 2 (by omega);have q3:zC wr g (j*9+3) ek:=aO 3 (by omega);have q4:zC wr g (j*9+4) (zI wt):=aO 4 (by omega);have q5:zC wr g (j*9+5) (zI ev):=aO 5 (by omega);have q6:zC wr g (j*9+6) (zI rp):=aO 6 (by omega);have q7:zC wr g (j*9+7) iJ:=aO 7 (by omega);have q8:zC wr g (j*9+8) (.bool co):=aO 8 (by omega);obtain⟨ab,cb,eb⟩:=y.Im.shape;obtain⟨ai,ci,V⟩:=aW y.ifs;have O:=y.rc;simp only at eb V O;subst eb V O;clear aO B y I r Z;have H:Z_ (mr L C=if !(c.rc == [45])&&!(L.contains c.rc) then j+2 else xM L (C.drop (j+1)) (j+1)):=by show _=_;rw[<-KG.o,v.o];rfl
    have q:∀o,RS 0 (wr.alloc o) (.slice b L.length f) L:=λo=>W.o.aC (KF.o.alloc o) (by simp)
    have N:=aj q;clear KG v q;cases l:(c.rc == [45])
    .go_wp2_with fail
     refine(aaa _ L c.rc _ (N.o _)).mono ?_;rintro e w' ⟨rfl,rfl⟩;cases u:L.contains c.rc
     .have m:Z_ (mr L C=j+2):=by show _=_;rw[H.o,l,u];rfl
      go_wp2_with (go_at_call 28;refine(zW _ _ (by omega) (by omega)).mono ?_;rintro e w' ⟨rfl,rfl⟩)
      go_ret;exact⟨mJ (by rw[m.o];simp),KF.o.alloc _⟩
     have m:Z_ (xM L (C.drop (j+1)) (j+1)=mr L C):=by show _=_;rw[H.o,l,u];rfl
     go_wp2;go_roundg (gk-1);exact⟨j+1,by omega,by go_num,m,p.o.aC zG (by simp),KF.o.alloc _⟩;omega
    have m:Z_ (xM L (C.drop (j+1)) (j+1)=mr L C):=by show _=_;rw[H.o,l];rfl
    go_wp2;go_roundg (gk-1);exact⟨j+1,by omega,by go_num,m,p.o.aC zG (by simp),KF.o.alloc _⟩;omega
   have G:Z_ (mr L C=0):=by show _=_;rw[<-KG.o,a0i (by have:=X.o;omega)];rfl
   go_wp2;go_ret;exact⟨mJ (by rw[G.o];rfl),KF⟩
structure Qf(m:CM):Prop where
 name:aJ m.1=true
 kind:m.2.1<=3
 val:m.2.2.length<=40
structure xN(c:CR):Prop where
 d:c.d<=1048576
 rc:c.rc=[45]\/aJ c.rc=true
 jM:∀n∈c.jM,aJ n=true
 byl:c.jM.length<=4
 wt:-1<=c.wt/\c.wt<=99999
 ev:-1<=c.ev/\c.ev<=99999
 rp:-1<=c.rp/\c.rp<=99999
 ifs:∀m∈c.ifs,Qf m
 ifl:c.ifs.length<=4
def xO {n:LB}(h:aJ n=true):n.length<=8:=by grind [aJ]
theorem ade:∀(k:Nat) (acc l:LB),acc.length<=40->(tZ k acc l).1.length<=40
 | 0,acc,l,_=>by simp[tZ]
 | k+1,acc,l,h=>by
   unfold tZ
   split
   .exact h
   split
   .simp
   rename_i a
   simp at a;exact ade k _ _ (by simp;omega)
def amP(l:LB):(qm l).1.length<=40:=by grind [qm,ade]
def adf(l:LB):(jq l).1<=3:=by grind [jq]
def ajN(l:LB)(h:(kF l).2.1=true):Qf (kF l).1:=by unfold kF at h |-;simp only[a0O]at h;exact⟨h.1.1,adf _,amP _⟩
def aaq:∀(k:Nat) (acc:List CM) (l:LB),(∀m∈acc,Qf m)->acc.length<=4->(∀m∈(wP k acc l).1,Qf m)/\(wP k acc l).1.length<=4
 | 0,acc,l,h,b=>⟨h,b⟩
 | k+1,acc,l,h,b=>by
   unfold wP
   split
   .dsimp only
    split
    .exact⟨h,b⟩
    rename_i c
    simp at c;refine aaq k _ _ ?_ (by simp;omega);intro m a;rw[a0e,a0w]at a;rcases a with a|rfl
    .exact h m a
    exact ajN _ c.1
   exact⟨h,b⟩
theorem ag1:∀(l:LB) (n:Nat),n<=99999->(uP l n).1<=99999
 | [],n,h=>h
 | c::r,n,h=>by
   unfold uP
   split
   .split
    .exact a1G _
    exact ag1 r _ (by omega)
   exact h
def apf(l:LB):(lI l).1<=99999:=by grind [lI,ag1]
def Ve(wd l:LB):-1<=(bZ wd l).1/\(bZ wd l).1<=99999:=by
 unfold bZ;split
 .have:=apf (aK wd l);dsimp only;omega
 dsimp only;omega
def aar:∀(k:Nat) (acc:List LB) (l:LB),(∀m∈acc,aJ m=true)->acc.length<=4->(∀m∈(uQ k acc l).1,aJ m=true)/\(uQ k acc l).1.length<=4
 | 0,acc,l,h,c=>by simp[uQ]
 | k+1,acc,l,h,c=>by
   unfold uQ
   split
   .exact⟨h,c⟩
   dsimp only;generalize (if acc.isEmpty=true then l else aK [44] l)=l1
   split
   .simp
   rename_i b
   rw[a1a,not_or]at b;simp only[Bool.not_eq_true,Bool.not_eq_false',a1g]at b;refine aar k _ _ ?_ (by simp;omega);intro m a;rw[a0e,a0w]at a;rcases a with a|rfl
   .exact h m a
   exact b.1
def adg(n:LB)(p:LB->Prop)(c:p n):∀(L:List LB) (s:List LB × Bool),(∀x∈L,p x)->(∀x∈s.1,p x)->∀x∈(lJ n L s).1,p x
 | [],s,_,a=>a
 | y::r,s,d,a=>by
   unfold lJ;refine adg n p c r _ (λx b=>d x (by simp[b])) ?_
   split
   .grind
   grind
def ajO(n:LB)(p:LB->Prop)(a:p n)(L:List LB)(h:∀x∈L,p x):∀x∈uf L n,p x:=by
 have b:=adg n p a L ([],false) h (by simp);unfold uf;split
 .exact b
 grind
def aas(p:LB->Prop):∀(L acc:List LB) ,(∀x∈L,p x)->(∀x∈acc,p x)->(∀x∈L.foldl oH acc,p x)/\(L.foldl oH acc).length<=acc.length+L.length
 | [],acc,_,h=>⟨h,by simp⟩
 | y::r,acc,b,a=>by
   have d:∀x∈oH acc y,p x:=by
    unfold oH;split
    .exact a
    exact ajO y p (b y (by simp)) acc a
   have:=aas p r (oH acc y) (λx c=>b x (by simp[c])) d;have e:=ajL acc y;refine⟨this.1,?_⟩;have f:=this.2;simp only[a1R,a0r];omega
def amQ(l:LB):(∀m∈(lK l).names,aJ m=true)/\(lK l).names.length<=4:=by
 unfold lK;split
 .dsimp only
  split
  .simp
  have h:=aar 6 [] (aK [32,98,121,32] l) (by simp) (by simp);have a:=aas (λm=>aJ m=true) (gL (aK [32,98,121,32] l)).1 [] h.1 (by simp);refine⟨a.1,?_⟩;have b:=a.2;have c:(gL (aK [32,98,121,32] l)).1.length<=4:=h.2;simp at b;show(DV (gL (aK [32,98,121,32] l)).1).length<=4;unfold DV;omega
 simp
def ag2(l:LB)(h:(eZ l).2.1=true):(eZ l).1=[45]\/aJ (eZ l).1=true:=by grind [eZ]
def Kr:∀(t:LB),(bO t).1<=t.length
 | []=>by simp[bO]
 | c::r=>by unfold bO;have:=Kr r;split<;>simp<;>omega
def srA(t:LB):=eZ (aK lC (bO t).2)
def Mo(t:LB):=lK (srA t).2.2
def Ym(t:LB):=dN (Mo t).rest
def Ut(t:LB):=mo (Ym t).rest
theorem aat(t:LB):gM t=if aQ lC (bO t).2 then (if (srA t).2.1 then (if (Mo t).ok then (if (Ym t).ok then (if (Ut t).2.1 then (if (aK iq (Ut t).2.2).isEmpty then some ⟨(bO t).1,(srA t).1,(Mo t).tells,(Mo t).names,(Ym t).wt,(Ym t).ev,(Ym t).rp,(Ut t).1,aQ iq (Ut t).2.2⟩ else none) else none) else none) else none) else none) else none:=rfl
def BA {b:Bool} {o:Option α} {c:α}(h:(if b then o else none)=some c):b=true/\o=some c:=by grind
def ae8(t:LB)(c:CR)(h:gM t=some c):aQ lC (bO t).2=true/\(srA t).2.1=true/\(Mo t).ok=true/\(Ym t).ok=true/\(Ut t).2.1=true/\(aK iq (Ut t).2.2).isEmpty=true /\
 (⟨(bO t).1,(srA t).1,(Mo t).tells,(Mo t).names,(Ym t).wt,(Ym t).ev,(Ym t).rp,(Ut t).1,aQ iq (Ut t).2.2⟩:CR)=c:=by
 rw[aat]at h;obtain⟨g,h⟩:=BA h;obtain⟨f,h⟩:=BA h;obtain⟨e,h⟩:=BA h;obtain⟨d,h⟩:=BA h;obtain⟨b,h⟩:=BA h;obtain⟨a,h⟩:=BA h;exact⟨g,f,e,d,b,a,Option.some.inj h⟩
def ae9(t:LB)(c:CR)(ht:t.length<=1048576)(h:gM t=some c):xN c:=by obtain⟨i,b,g,f,e,d,rfl⟩:=ae8 t c h;have hb:=amQ (eZ (aK lC (bO t).2)).2.2;have a:=aaq 6 [] (dN (lK (eZ (aK lC (bO t).2)).2.2).rest).rest (by simp) (by simp);exact⟨a0h (Kr t) ht,ag2 _ b,hb.1,hb.2,Ve _ _,Ve _ _,Ve _ _,a.1,a.2⟩
def aau:∀(k:Nat) (acc:List LB) (l:LB) (L:List LB),(∀m∈acc,aJ m=true)->acc.length<=8->DW k acc l=some L->(∀m∈L,aJ m=true)/\L.length<=8
 | 0,acc,l,L,_,_,h=>by simp[DW]at h
 | k+1,acc,l,L,c,d,h=>by
   unfold DW at h
   split at h
   .dsimp only at h
    split at h
    .cases h
    rename_i b
    rw[a1a,not_or]at b;simp only[Bool.not_eq_true,Bool.not_eq_false',a1g]at b;refine aau k _ _ L ?_ (by simp;omega) h;intro m a;rw[a0e,a0w]at a;rcases a with a|rfl
    .exact c m a
    exact b.1
   grind
def afa(t:LB)(L:List LB)(h:iW t=some L):(∀m∈L,aJ m=true)/\L.length<=8:=by
 unfold iW at h
 split at h
 .exact aau 10 [] _ L (by simp) (by simp) h
 cases h
def Ir:∀(t:LB) (ln:Nat) (cur:LB) (L:List LB) (C:List CR) (a:List LB) (b:List CR),t.length+cur.length<=1048576->(∀m∈L,aJ m=true)->L.length<=8->(∀c∈C,xN c)->yw t ln cur L C=.ok (a,b)->(∀m∈a,aJ m=true)/\a.length<=8/\(∀c∈b,xN c)
 | [],ln,cur,L,C,a,b,_,g,f,e,h=>by grind [yw]
 | c::r,ln,cur,L,C,a,b,j,g,f,e,h=>by
   simp only[a0r]at j;unfold yw at h
   split at h
   .split at h
    .split at h
     .cases h
     rename_i l k
     have:=afa _ _ k;exact Ir r 2 [] l C a b (by simp;omega) this.1 this.2 e h
    split at h
    .cases h
    rename_i x i
    have:=ae9 _ _ (by omega) i;refine Ir r (ln+1) [] L (C++[x]) a b (by simp;omega) g f ?_ h;intro c d;rw[a0e,a0w]at d;rcases d with d|rfl
    .exact e c d
    exact this
   exact Ir r ln (cur++[c]) L C a b (by simp;omega) g f e h
def qT(t:LB)(L:List LB)(C:List CR)(ht:t.length<=1048576)(h:oV t=.ok (L,C)):(∀m∈L,aJ m=true)/\L.length<=8/\(∀c∈C,xN c) :=
 Ir t 1 [] [] [] L C (by simpa using ht) (by simp) (by simp) (by simp) h
def jH(t:LB):Except (Nat × Nat) (List LB × List CR) :=
 if 1200<t.length then .error (1,0) else
 match oV t with
 | .error n=>.error (2,n)
 | .ok (L,C)=>if 0<iX C then .error (3,iX C) else if 0<mr L C then .error (4,mr L C) else .ok (L,C)
def apg(base:Nat)(w:World)(vr vt:Value)(e ln:Int):Except (Nat × Nat) (List LB × List CR)->Prop
 | .error (n,l)=>vr=zN/\vt=zN/\e=n/\ln=l/\1<=n
 | .ok (R,C)=>e=0/\ln=0/\SL base w vr R/\∃a,RL base w vt a/\qL base w a C/\a.length<=1048576
def results_read {rb:Nat} {vr vt:Value} {e ln:Int} {tmps:Array Value}(h:CB w rb vr vt)(g:tmps.getD 2 undef=zP rb)(f:tmps.getD 3 undef=zI e)(d:tmps.getD 4 undef=zI ln) :
 (results Tryz.f13 tmps).run Tryz.prog w=.ok (.tuple #[.agg #[vr,vt],zI e,zI ln]) w:=by
 have c:tmps[2]?.getD undef=zP rb:=by simpa using g
 have b:tmps[3]?.getD undef=zI e:=by simpa using f
 have a:tmps[4]?.getD undef=zI ln:=by simpa using d
 simp only[results,Tryz.results13];simp[Sem.run_bind,Result.andThen,c,b,a,asAddr,adb h]
def afb(t:LB)(w:World)(ht:t.length<=1048576) :
 zF 13 #[zT t] w λe w'=>aB [] w w'/\∃vr vt er ln,e=zQ #[.agg #[vr,vt],zI er,zI ln]/\apg w.heap.size w' vr vt er ln (jH t):=by
 have eG:=bL t;have kM:=bD w (Obj.cells #[zN,zN] 47);have T:CB (w.alloc (Obj.cells #[zN,zN] 47)) w.heap.size zN zN:=kM;clear kM
 by_cases I:1200<t.length
 .have D:jH t=.error (1,0):=by unfold jH;rw[a0m I]
  delta zF;go_in
  go_wp2;refine bodyPost_ret (results_read (vr:=zN) (vt:=zN) (e:=1) (ln:=0) (rb:=w.heap.size) ?_ (by rfl) (by rfl) (by rfl)) rfl ?_
  .exact T
  rw[D];exact⟨zJ,_,_,_,_,rfl,rfl,rfl,rfl,rfl,a0b _⟩
 have G:jH t=match oV t with
  | .error n=>.error (2,n)
  | .ok (L,C)=>if 0<iX C then .error (3,iX C) else if 0<mr L C then .error (4,mr L C) else .ok (L,C):=by
  unfold jH;rw[a0n I]
 delta zF;go_in
 go_wp2_with fail
 refine(aah t _ (by omega)).mono ?_;rintro e g ⟨S,vr,vt,ln,rfl,R⟩;have fM:w.heap.size<g.heap.size:=by have:=S.size;simp at this;omega
 have E:CB g w.heap.size zN zN:=T.aC S (by simp);have KF:aB [] w g:=zJ.trans S;clear S T;cases P:oV t with
 | error n =>
   rw[P]at R G;obtain⟨rfl,rfl,rfl,hn⟩:=R;have d0:=E.c0;have d1:=E.c1;have df:=E.fz;have dZ:(0:Int)<(n:Int):=by omega
   go_wp2;refine bodyPost_ret (results_read (vr:=zN) (vt:=zN) (e:=2) (ln:=n) (rb:=w.heap.size) ?_ (by rfl) (by rfl) (by rfl)) rfl ?_
   .exact((E.set0 _).set1 _).aC zG (by simp)
   rw[G];exact⟨((KF.setCell (by simp) _).setCell (by simp) _).alloc _,_,_,_,_,rfl,rfl,rfl,rfl,rfl,by omega⟩
 | ok LC =>
   obtain⟨L,C⟩:=LC;have J:=qT t L C (by omega) P;rw[P]at R G;obtain⟨rfl,V,a,X,Qe,U⟩:=R;obtain⟨o,j,rfl⟩:=V.shape;obtain⟨l,n1,rfl⟩:=aW X;have KS:SL (w.heap.size+1) g (.slice o L.length j) L:=(by simpa using V);have KL:RL (w.heap.size+1) g (.slice l a.length n1) a:=(by simpa using X);have KP:qL (w.heap.size+1) g a C:=(by simpa using Qe);have KG:(∀m∈L,aJ m=true)/\L.length<=8/\(∀c∈C,xN c):=J;clear V X Qe J P;have M:=bD g (Obj.cells #[.slice o L.length j,.slice l a.length n1] 47);have HN:CB (g.alloc (Obj.cells #[.slice o L.length j,.slice l a.length n1] 47)) g.heap.size (.slice o L.length j) (.slice l a.length n1):=M;clear M;go_wp2_with fail
   refine(aan (w.heap.size+1) _ a C _ (KL.aC zG (by simp)) (KP.aC zG (by intro k v;simp at v)) U (λc hc=>(KG.2.2 c hc).d)).mono ?_;rintro e r ⟨rfl,W⟩;have f:aB [] g r:=zJ.trans W;have p:CB r g.heap.size (.slice o L.length j) (.slice l a.length n1):=HN.aC W (by simp);have b:CB r w.heap.size zN zN:=E.aC f (by simp);have B:aB [] w r:=KF.trans f;have y:SL (w.heap.size+1) r (.slice o L.length j) L:=KS.aC f (by simp);have A:RL (w.heap.size+1) r (.slice l a.length n1) a:=KL.aC f (by simp);have z:qL (w.heap.size+1) r a C:=KP.aC f (by intro k v;simp at v);clear W f HN E KF KS KL KP
   by_cases s:0<iX C
   .have D:jH t=.error (3,iX C):=by rw[G];simp[s]
    have d0:=b.c0;have d1:=b.c1;have df:=b.fz;have dZ:(0:Int)<(iX C:Int):=by omega
    generalize iX C=tf at *;go_wp2;refine bodyPost_ret (results_read (vr:=zN) (vt:=zN) (e:=3) (ln:=tf) (rb:=w.heap.size) ?_ (by rfl) (by rfl) (by rfl)) rfl ?_
    .exact(b.set0 _).set1 _
    rw[D];exact⟨(B.setCell (by simp) _).setCell (by simp) _,_,_,_,_,rfl,rfl,rfl,rfl,rfl,by omega⟩
   have h:iX C=0:=by omega
   have e0:=p.c0;have e1:=p.c1;rw[h];go_wp2_with fail
   refine(aap (w.heap.size+1) _ _ L a C _ y A z U (by have:=KG.2.1;omega)).mono ?_;rintro e q ⟨rfl,x⟩;have N:CB q g.heap.size (.slice o L.length j) (.slice l a.length n1):=p.aC x (by simp);have i:CB q w.heap.size zN zN:=b.aC x (by simp);have O:aB [] w q:=B.trans x;have Y:SL (w.heap.size+1) q (.slice o L.length j) L:=y.aC x (by simp);have KL3:RL (w.heap.size+1) q (.slice l a.length n1) a:=A.aC x (by simp);have Z:qL (w.heap.size+1) q a C:=z.aC x (by intro k v;simp at v);clear x p b B y A z e0 e1;have d0:=i.c0;have d1:=i.c1;have df:=i.fz
   by_cases H:0<mr L C
   .have D:jH t=.error (4,mr L C):=by rw[G];simp[h,H]
    have dZ:(0:Int)<(mr L C:Int):=by omega
    generalize mr L C=nf at *;clear h s;go_wp2;refine bodyPost_ret (results_read (vr:=zN) (vt:=zN) (e:=4) (ln:=nf) (rb:=w.heap.size) ?_ (by rfl) (by rfl) (by rfl)) rfl ?_
    .exact(i.set0 _).set1 _
    rw[D];exact⟨(O.setCell (by simp) _).setCell (by simp) _,_,_,_,_,rfl,rfl,rfl,rfl,rfl,by omega⟩
   have u:mr L C=0:=by omega
   have D:jH t=.ok (L,C):=by rw[G];simp[h,u]
   rw[u];have e0:=N.c0;have e1:=N.c1;clear h s u H;go_wp2;refine bodyPost_ret (results_read (vr:=.slice o L.length j) (vt:=.slice l a.length n1) (e:=0) (ln:=0) (rb:=w.heap.size) ?_ (by rfl) (by rfl) (by rfl)) rfl ?_
   .exact(i.set0 _).set1 _
   have F:aB [w.heap.size] q ((q.setCell (zA w.heap.size) (.slice o L.length j)).setCell (zB w.heap.size 1) (.slice l a.length n1)):=(zK.setCell (by simp) _).setCell (by simp) _;rw[D];refine⟨(O.setCell (by simp) _).setCell (by simp) _,_,_,_,_,rfl,rfl,rfl,(Y.aC F (by simp)).base (by omega),a,wQ (KL3.aC F (by simp)) (by omega),(Z.aC F (by intro k v;simp at v;exact Or.inl (by omega))).base (by omega),U⟩
def sG(n:Nat):UInt8:=if n<10 then UInt8.ofNat (48+n) else UInt8.ofNat (97+n-10)
def jr(k:Nat):LB:=if k=1 then [33,61] else if k=2 then [61,126] else if k=3 then [33,126] else [61]
def lv(c:UInt8):LB :=
 if !(mR c.toNat) then [92,120,sG (c.toNat / 16),sG (c.toNat % 16)]
 else if c==34||c==92 then [92,c] else [c]
def kY(v:LB):LB:=[34]++v.flatMap lv++[34]
def aeO(c:UInt8):(lv c).length<=4:=by grind [lv]
def I1:∀(v:LB),(v.flatMap lv).length<=4*v.length
 | []=>by simp
 | c::r=>by have:=I1 r;have:=aeO c;simp only[a1i,a0p,a0r];omega
def my(x y:UInt8):((x.toNat:Int)==(y.toNat:Int))=(x==y):=by
 rw[a0T,a0W,a0W]
 constructor
 .intro h;exact a1w.1 (a2N.1 h)
 intro h;rw[h]
def oI(L:List LB)(n:LB):Int:=match L.findIdx? (·==n) with | some i=>(i:Int)|none=>-1
def wh(v:Value)(L:List LB)(n:LB)(w:World)(h:RS 0 w v L) :
 zF 71 #[v,zT n] w λe w'=>e=zR (zI (oI L n))/\w=w':=by
 obtain⟨a,cap,rfl,B,A,l⟩:=h;have r:∀j (h:j<L.length),∃g off,a=some (zB g off)/\0<=g/\zC w g (off+j) (.string (bs L[j])):=l;clear l;have s:=aT;delta zF;go_in
 go_wp2;go_loopg [5] L.length (λk i wr=>∃j,j+k=L.length/\i=zI j/\wr=w/\(∀x∈L.take j,(x==n)=false))
 exact⟨0,by omega,rfl,rfl,by simp⟩
 .obtain⟨j,t,rfl,o,c⟩:=hrel;subst o
  by_cases f:j<L.length
  .obtain⟨g,off,rfl,_,z⟩:=r j f
   have p:L.take (j+1)=L.take j++[L[j]]:=a0F f;have q:(L[j]==n)=true->L.findIdx? (·==n)=some j:=by intro he;rw[a2e];refine⟨f,he,λi u=>?_⟩;have:=c (L[i]'(by omega)) (by rw[a3r];exact⟨i,by omega,rfl⟩);rw[this];simp
   generalize L[j]=x at *;cases he:(x==n)
   .have m:∀y∈L.take (j+1),(y==n)=false:=by
     intro y b;rw[p,a0e,a0w]at b;rcases b with b|rfl
     .exact c y b
     exact he
    go_wp2;go_roundg (gk-1);exact⟨j+1,by omega,by go_num,rfl,m⟩;omega
   have d:oI L n=(j:Int):=by unfold oI;rw[q he]
   go_wp2;go_ret;rw[d];exact⟨rfl,rfl⟩
  have d:oI L n=-1:=by
   have h:L.findIdx? (·==n)=none:=by rw[a2C];have:=c;rw[a0C (by omega)]at this;exact this
   unfold oI;rw[h]
  go_wp2;go_ret;rw[d];exact⟨rfl,rfl⟩
def Jz(w:World)(c:UInt8):(convert 91 9 (zS w.heap.size 1 1)).run Tryz.prog (w.alloc (.cells #[.int .u8 c.toNat] 5))=.ok (.string (bs [c])) (w.alloc (.cells #[.int .u8 c.toNat] 5)):=by
 have:=run_convert_bytes_back (P:=Tryz.prog) (w.alloc (.cells #[.int .u8 c.toNat] 5)) 91 9 5 (zA w.heap.size) 1 [c] Tryz.underlying91 Tryz.underlying5 Tryz.underlying9 (λj a=>by
  have:j=0:=by simp at a;exact a
  subst this;rw[add0];unfold World.cell?;simp only[bD];rfl)
 exact this
def lL(c:UInt8):Int:=match xw.findIdx? (·==c) with | some i=>(i:Int)|none=>-1
def ag3(c:UInt8):-1<=lL c/\lL c<=15:=by
 unfold lL;cases h:xw.findIdx? (·==c) with
 | none=>simp
 | some i=>have:=(a2e.1 h).1;have:xw.length=16:=rfl;simp only;omega
def aaw(c:UInt8)(w:World) :
 zF 143 #[.int .u8 c.toNat] w λe w'=>e=zR (zI (lL c))/\w=w':=by
 have g:xw.length=16:=rfl;have o:=bL xw;have p:({ data:=#[48,49,50,51,52,53,54,55,56,57,97,98,99,100,101,102] }:ByteArray)=bs xw:=rfl;delta zF;go_in
 go_wp2;go_loopg [3] 16 (λk i wr=>∃j,j+k=16/\i=zI j/\wr=w/\(∀x∈xw.take j,(x==c)=false))
 exact⟨0,by omega,rfl,rfl,by simp⟩
 .obtain⟨j,u,rfl,n,b⟩:=hrel;subst n
  by_cases q:j<16
  .have d:j<xw.length:=q
   have t:(bs xw)[j]'(by rw[o];exact d)=xw[j]:=rfl;have r:xw.take (j+1)=xw.take j++[xw[j]]:=a0F d;have s:(xw[j]==c)=true->lL c=(j:Int):=by
    intro he;have:xw.findIdx? (·==c)=some j:=by rw[a2e];refine⟨d,he,λi v=>?_⟩;have:=b (xw[i]'(by omega)) (by rw[a3r];exact⟨i,by omega,rfl⟩);rw[this];simp
    unfold lL;rw[this]
   generalize xw[j]=x at *;have l:((x.toNat:Int)==(c.toNat:Int))=(x==c):=by
    rw[a0T,a0W,a0W]
    constructor
    .intro h;exact a1w.1 (a2N.1 h)
    intro h;rw[h]
   cases he:(x==c)
   .rw[he]at l
    have m:∀y∈xw.take (j+1),(y==c)=false:=by
     intro y a;rw[r,a0e,a0w]at a;rcases a with a|rfl
     .exact b y a
     exact he
    go_wp2;go_roundg (gk-1);exact⟨j+1,by omega,by go_num,rfl,m⟩;omega
   rw[he]at l;have f:=s he;go_wp2;go_ret;rw[f];exact⟨rfl,rfl⟩
  have f:lL c=-1:=by
   have h:xw.findIdx? (·==c)=none:=by rw[a2C];have:=b;rw[a0C (by rw[g];omega)]at this;exact this
   unfold lL;rw[h]
  go_wp2;go_ret;rw[f];exact⟨rfl,rfl⟩
def Ap:LB->Int->Int
 | [],n=>n
 | c::r,n=>if lW c.toNat then Ap r (10*n+c.toNat-48) else -1
def iR(l:LB):Int :=
 if l.isEmpty then -1
 else if decide (5<l.length) then -1
 else if !(l.all nG) then -1
 else if (hd l==48)&&!(l == [48]) then -1 else Ap l 0
abbrev apj:ByteArray:=⟨#[48,49,50,51,52,53,54,55,56,57,97,98,99,100,101,102]⟩
def alp:∀(k:Nat) (h:k<apj.size),apj[k]'h=sI k:=by
 have h:∀k:Fin 16,apj[k.1]'(by have:=k.2;exact this)=sI k.1:=by decide +kernel
 intro k a;exact h ⟨k,a⟩
theorem Ow(s k:Nat):setName s (k+1)=setName s k++(if s.testBit k then [sI (k / 16),sI (k % 16)] else []):=rfl
theorem EE:∀(s k:Nat),(∀i,i<k->s.testBit i=false)↔(setName s k).isEmpty=true
 | s,0=>by simp[setName]
 | s,k+1=>by
   have d:=EE s k;have g:∀a b:LB,(a++b).isEmpty=(a.isEmpty&&b.isEmpty):=by intro a b;cases a<;>simp
   rw[Ow,g,a0O,<-d]
   constructor
   .intro h
    exact⟨λi f=>h i (by omega),by rw[h k (by omega)];rfl⟩
   intro⟨j,c⟩ i f
   by_cases e:i=k
   .subst e
    cases hb:s.testBit i
    .rfl
    rw[hb]at c;simp at c
   exact j i (by omega)
def amR(w:World)(x y:UInt8):(convert 91 9 (zS w.heap.size 2 2)).run Tryz.prog (w.alloc (.cells #[.int .u8 x.toNat,.int .u8 y.toNat] 5))=.ok (.string (bs [x,y])) (w.alloc (.cells #[.int .u8 x.toNat,.int .u8 y.toNat] 5)):=by
 have:=run_convert_bytes_back (P:=Tryz.prog) (w.alloc (.cells #[.int .u8 x.toNat,.int .u8 y.toNat] 5)) 91 9 5 (zA w.heap.size) 2 [x,y] Tryz.underlying91 Tryz.underlying5 Tryz.underlying9 (λj a=>by
  have:j=0\/j=1:=by simp at a;omega
  rcases this with rfl|rfl
  .rw[add0];unfold World.cell?;simp only[bD];rfl
  rw[add0];unfold World.cell?;simp only[bD];rfl)
 exact this
def Vf(s:Nat):NF:=if s=0 then .zero else .set s
def amS:(Tryz.prog.info? 206).map (·.size)=some 256:=by kernel_rfl
def ajP(b o s:Nat)(w wr:World)(z:ByteArray)(H:∀i,i<256->zC w b (o+i) (.bool (s.testBit i)))(F:aB [] w wr) :
 ∃LB:List Value,wr.rangeAt b o LB/\(Tryz.prog.info? 206).map (·.size)=some LB.length /\
  Tryz.prog.built 214 [(0,.int .u8 115),(1,.agg LB.toArray),(5,.string z)]=some (Km 115 (bl s) sM sM AM z.data.toList):=by
 refine⟨(bl s).map Value.bool,?_,by rw[a0y,MK];exact amS,avV s z⟩;intro j v a;rw[a0Q]at a;cases d:(bl s)[j]? with
 | none=>rw[d]at a;simp at a
 | some x=>have c:=(a0d.1 d).1;rw[MK]at c;rw[Ib s j c]at a;simp only[a1x,Option.some.injEq]at a;rw[<-a];exact(F.cell (p:=(zB b (o+j))) (bY (H j c)) (by simp)).trans (H j c)
def SG(b o s:Nat)(w:World)(h:∀i,i<256->zC w b (o+i) (.bool (s.testBit i)))(u:s<2 ^ 256) :
 zF 126 #[.pointer (some (zB b o))] w (zU w (Vf s)):=by
 have H:=aj h;clear h;delta zF;go_in
 go_wp2_with fail
 go_loopg [3,4,5] 256 (λk t r q wr=>∃(c:Nat),c+k=256/\q=zI c/\t=zT (115::setName s c)/\r=.bool (!(setName s c).isEmpty)/\aB [] w wr)
 case atStart=>exact⟨0,rfl,rfl,rfl,rfl,aB.refl _ _⟩
 case round =>
  obtain⟨c,x,rfl,rfl,rfl,d⟩:=hrel;have F:=aj d;clear d;have a:=aj (Ow s c)
  by_cases n:c<256
  .have aO:zC wr b (o+c) (.bool (s.testBit c)):=(F.o.cell (p:=(zB b (o+c))) (bY (H.o c n)) (by simp)).trans (H.o c n)
   cases hb:s.testBit c
   .rw[hb]at aO a
    simp only[a0A,a0I,a0R]at a;go_wp2;go_roundg (gk-1)
    case measure=>omega
    case rel=>exact⟨c+1,by omega,by go_num,by rw[a.o],by rw[a.o],F⟩
   rw[hb]at aO a;simp only[a0G]at a;have hq:(c:Int).tdiv 16=((c / 16:Nat):Int):=by rw[a2z (by omega)];omega
   have O:(c:Int).tmod 16=((c % 16:Nat):Int):=by rw[a2f (by omega)];omega
   have j:c / 16<16:=by omega
   have g:c % 16<16:=by omega
   have M:=alp (c / 16) j;have L:=alp (c % 16) g;have R:=Ia s c;have T:bs (115::setName s c)++bs [sI (c / 16),sI (c % 16)]=bs (115::setName s (c+1)):=by rw[mf,a.o];rfl
   have s1:(bs (115::setName s c)).size=(setName s c).length+1:=bL _;have s2:(bs [sI (c / 16),sI (c % 16)]).size=2:=rfl;have J:¬ (9223372036854775807<(setName s c).length+1+2):=by omega
   have v:(convert 91 9 (zS wr.heap.size 2 2)).run Tryz.prog (wr.alloc (.cells #[.int .u8 (sI (c / 16)).toNat,.int .u8 (sI (c % 16)).toNat] 5)).drew=.ok (.string (bs [sI (c / 16),sI (c % 16)])) (wr.alloc (.cells #[.int .u8 (sI (c / 16)).toNat,.int .u8 (sI (c % 16)).toNat] 5)).drew:=amR wr.drew (sI (c / 16)) (sI (c % 16));have G:=(sI (c / 16)).toNat_lt;have E:=(sI (c % 16)).toNat_lt;generalize c / 16=cq at *;generalize c % 16=U at *;go_wp2_with fail
   go_region
   go_wp2;go_roundg (gk-1)
   case measure=>omega
   case rel=>exact⟨c+1,by omega,by go_num,rfl,by rw[a.o];simp,(F.o.drew).alloc _⟩
  have B:c=256:=by omega
  subst B;have hz:(setName s 256).isEmpty=decide (s=0):=by
   by_cases e:s=0
   .subst e
    rw[(EE 0 256).1 (λi _=>Nat.zero_testBit i)];rfl
   have:¬ (setName s 256).isEmpty=true:=by
    rw[<-EE s 256];intro y;obtain⟨i,f⟩:=Nat.exists_testBit_of_ne_zero e
    by_cases D:i<256
    .rw[y i D]at f;simp at f
    have A:s<2 ^ i:=a0t u (a1r (by decide) (by omega));rw[a1z A]at f;simp at f
   simp only[Bool.not_eq_true]at this;rw[this];simp[e]
  by_cases e:s=0
  .rw[a0g e]at hz
   have HR:Z_ (Vf s=.zero):=a0m e;have N:=aj (oQ wr);rw[hz];clear a hz;simp only[a2O];go_wp2_with fail
   refine(N.o).mono ?_;rintro S I ⟨p,rfl,m,d⟩;have P:=aj m;have F2:=aj (F.o.trans d);clear m d N;unfold aM;go_wp2;go_ret;rw[HR.o];exact⟨p,rfl,P,F2⟩
  rw[a0f e]at hz;have HR:Z_ (Vf s=.set s):=a0n e;rw[hz];obtain⟨LB,l,z,ST⟩:=ajP b o s w wr (bs (115::setName s 256)) H.o F;have fin:Z_ (TN (wr.alloc (Obj.cells (Km 115 (bl s) sM sM AM (bs (115::setName s 256)).data.toList) 214)) wr.heap.size (.set s)):=by
   show TN _ _ _;simp only[TN];refine TK.of ?_ (MK s);rw[MN];simp only[name]
  obtain⟨C,hC⟩:∃C,Km 115 (bl s) sM sM AM (bs (115::setName s 256)).data.toList=C:=⟨_,rfl⟩;rw[hC]at ST fin;clear a hz hC;simp only[a1K];go_wp2_with (first | refine wpList_load_mid rfl 206 _ rfl b o rfl LB _ l Tryz.underlying206 rfl z ?_|refine wpList_buildTo rfl 214 _ rfl _ rfl C (by rw[Array.toList_map];exact ST) ?_)
  go_ret;rw[HR.o];exact⟨_,rfl,fin,F.o.alloc _⟩
theorem adi:∀(a b:LB),Op.bytesLess a b=blt a b
 | [],[]=>rfl
 | [],_::_=>rfl
 | _::_,[]=>rfl
 | a::x,b::y=>by
   simp only[Op.bytesLess,blt,adi x y];cases c:decide (a<b)
   .have:¬ a<b:=by simpa using c
    rw[a0n this];cases d:(a==b)<;>simp
   have:a<b:=by simpa using c
   rw[a0m this];simp
def afc:∀(l:List NF) (x:NF) (j:Nat),(∀y∈l.take j,blt (name y) (name x)=true)->(∀y,l[j]?=some y->blt (name y) (name x)=false)->j<=l.length ->
 put l x=(match l[j]? with | some y=>if name y==name x then l else l.take j++x::l.drop j|none=>l.take j++x::l.drop j)
 | [],x,j,_,_,a=>by
   have:j=0:=by simpa using a
   subst this;simp[put]
 | y::r,x,0,_,c,_=>by have b:=c y rfl;simp only[put,b,a0A,a0I,List.getElem?_cons_zero,a3w,a0V,a2j]
 | y::r,x,j+1,d,c,a=>by
   have b:=d y (by simp);have e:=afc r x j (λz hz=>d z (by simp[hz])) (λz hz=>c z (by simpa using hz)) (by simpa using a);simp only[put,b,a0G,a1m,a2J,List.drop_succ_cons,a0L];rw[e];cases r[j]? with
   | none=>rfl
   | some z=>simp only[];split<;>rfl
def DY:(Tryz.prog.info? 210).map (λi=>(i.zero,i.size,i.bytes))=some (some (.pointer none),1,8):=by kernel_rfl
def SI {ops:Array Oper} {rest:List Oper} {o:Oper} {a:Act} {Q:Exit->Act->World->Prop}(w:World)(f:o.guard=none)(s x:Operand)
 (ho:o.op=.call { callee:=.builtin .append,args:=#[s,x],argTypes:=#[212,212] })
 (base:Nat) (v:Value) (xs news:List Value) (N d b m c:Nat) (z:N=xs.length+m) (F:news.length=m) (n:a.eval s=v) (E:OV 210 base w v xs) (k:a.eval x=.slice (some (zB d b)) m c)
 (t:∀j u,news[j]?=some u->zC w d (b+j) u) (l:∀u∈news,u.oneCell'=true) (p:0<m) (hlen:(xs.length+m)*8<=140737488355328) (e:base<=w.heap.size)
 (h:∀g cap w',OV 210 base w' (zS g N cap) (xs++news)->w.grownBy w' v.ownBlock->wpList Tryz.prog ops Q rest (a.put o.dst (zS g N cap)) w') :
 wpList Tryz.prog ops Q (o::rest) a w:=by
 subst z;obtain⟨i,r,gT,D,C⟩:=info_parts DY;refine wpList_append_lies w f s x 212 ho base 210 i (.pointer none) 1 8 Tryz.underlying212 r gT D C rfl (by decide) v xs.length xs n E (zB d b) m c news k (by omega) ?_ l p (by unfold maxLen;omega) hlen e w.heap.size rfl ?_
 .intro j y q
  rw[Addr.add_mid];exact t j y q
 intro g cap w' B A H G;exact h g cap w' (by unfold OV;rw[a0p,F];exact B) A
def OV.alq {e:TypeId} {base:Nat} {xs:List Value}(h:OV e base w (.slice a n cap) xs):n<=cap:=by
 rcases h.2 with⟨e,j⟩|⟨g,c,cur,e,hb,d,b,rest⟩
 .simp only[Value.slice.injEq]at e;omega
 simp only[Value.slice.injEq]at e;obtain⟨_,i,f⟩:=e;omega
def Ks(L:LN):∀u∈L.map aM,u.oneCell'=true:=by
 intro u a;obtain⟨n,_,rfl⟩:=a0q.1 a
 rfl
def TV(w:World)(v:Value)(l:List NF):Prop:=∃a,RVq w v (a.map aM)/\jC w a l
theorem TV.aC(h:TV w v l)(f:aB [] w w'):TV w' v l:=by obtain⟨a,c,b⟩:=h;exact⟨a,c.aC f,b.aC f⟩
def PtQ(w:World)(l:List NF)(e:Ending)(w':World):Prop:=∃v,e=zR v/\TV w' v l/\aB [] w w'
def adj(w:World)(v:Value)(l:List NF)(p:Nat)(x:NF)(hv:TV w v l)(hx:TN w p x)(hl:l.length<=10000000000000) :
 zF 146 #[v,aM p] w (PtQ w (put l x)):=by
 obtain⟨a,⟨Ml,av,n,cap,rfl,hn,Fz,uz,hc⟩,hs⟩:=hv;have hlen:=hs.len;rw[a0y]at hn;have uD:n=l.length:=hn.trans hlen;subst uD;have L:=hx.nm;have X:=aj hx;have P:=aj hc;have I:=aj hs;have DZ:=aj hlen;have Hbd:=aj Ml;have Hab:=aj uz;clear uz;have jE:=aT;unfold aM;clear hc hs hx hn hlen Ml;delta zF;go_in
 go_wp2_with fail
 go_loopg [5] l.length (λk v5 wr=>∃(j:Nat),j+k=l.length/\v5=zI j/\aB [] w wr/\(∀y∈l.take j,blt (name y) (name x)=true))
 case atStart=>exact⟨0,by omega,rfl,aB.refl _ _,by simp⟩
 case round =>
  obtain⟨j,lU,rfl,hf,ja⟩:=hrel;have F:=aj hf;have Z:=aj ja;have axW:=(hf.cell (p:=(zB p 260)) (bY L) (by simp)).trans L;clear hf ja
  by_cases hj:j<l.length
  .obtain⟨y,H⟩:∃y,l[j]?=some y:=⟨l[j],a0a hj⟩
   obtain⟨q,hq,Ij⟩:=I.o.get j y H;obtain⟨g,rfl,aO⟩:=P.o j (aM q) (by rw[a0Q,hq];rfl);have alr:=(F.o.cell (p:=(zB g j)) (bY aO) (by simp)).trans aO;have nmy:=(Ij.aC F).nm;have B:decide ((j:Int)<(l.length:Int))=true:=a0g (by omega);have hji:(j:Int)<(l.length:Int):=by omega
   have Hy:=aj H;have aL:=adi (name y) (name x);unfold aM at alr;clear aO hq Ij H;cases hb:blt (name y) (name x)
   case true =>
    rw[hb]at aL;have Ht:Z_ (l.take (j+1)=l.take j++[y]):=by show _=_;rw[a1c,Hy.o];rfl
    go_wp2_with fail
    go_quiet (fail)
    go_wp2;go_roundg (gk-1)
    case measure=>omega
    case rel =>
     refine⟨j+1,by omega,by go_num,F.o.drewN _,?_⟩;intro z hz;rw[Ht.o,a0e,a0w]at hz;rcases hz with hz|rfl
     .exact Z.o z hz
     exact hb
   case false =>
    rw[hb]at aL;have m:=aj (afc l x j Z.o (λz hz=>by rw[Hy.o]at hz;simp at hz;subst hz;exact hb) (by omega));rw[Hy.o]at m;simp only[]at m;cases UA:(name y==name x)
    case true =>
     rw[UA]at m;simp only[a0G]at m;go_wp2_with fail
     go_quiet (fail)
     go_wp2_with fail
     go_quiet (fail)
     go_wp2;go_ret;rw[m.o];exact⟨_,rfl,TV.aC ⟨a,⟨Hbd,_,_,cap,rfl,by rw[a0y,DZ.o],Fz,.inr ⟨g,rfl⟩,P⟩,I⟩ ((F.o.drewN _).drewN _),(F.o.drewN _).drewN _⟩
    case false =>
     rw[UA]at m;simp only[a0A,a0I]at m;go_wp2_with fail
     go_quiet (fail)
     go_wp2_with fail
     go_quiet (fail)
     have T:∀i u,(a.map aM)[i]?=some u->zC w g i u:=by
      intro i u f;obtain⟨g',e,h⟩:=P.o i u f;simp at e;subst e;exact h
     have s:Z_ (∀n,aB [] w (wr.drewN n)):=λn=>F.o.drewN n
     have lV:=DZ.o;have zw:=F.o.size;have E:Z_ (∀n i u,((a.take j).map aM)[i]?=some u->zC (wr.drewN n) g (0+i) u):=by
      intro n i u f;rw[a1n];rw[List.map_take,List.getElem?_take]at f
      split at f
      .have h:=T i u f
       exact((s.o n).cell (p:=(zB g i)) (bY h) (by simp)).trans h
      simp at f
     have HC2:Z_ (∀W,aB [] w W->∀i u,((a.drop j).map aM)[i]?=some u->zC W g (j+i) u):=by
      intro W C i u f;rw[List.map_drop,a3u]at f;have h:=T (j+i) u f;exact(C.cell (p:=(zB g (j+i))) (bY h) (by simp)).trans h
     have HC3:Z_ (∀W,aB [] w W->∀i u,(a.map aM)[i]?=some u->zC W g (0+i) u):=by
      intro W C i u f;rw[a1n];have h:=T i u f;exact(C.cell (p:=(zB g i)) (bY h) (by simp)).trans h
     clear T
     by_cases j0:j=0
     .subst j0
      go_wp2_with (first | (at_builtin;refine DL _ rfl _ _ 212 210 _ 8 DY Tryz.underlying212 rfl rfl w.heap.size zN [] 1 wr.heap.size (aM p) rfl rfl (OV.nil _ _ _) rfl (mi _ _ _ _ rfl) rfl (by simp) (by simp) (by simp;omega) ?_;intro M c8 U b c D A;have t:=aj b;have r:=aj (((s.o _).alloc _).grown c (λk d=>by simp[Value.ownBlock]at d));have J:=r.o.size;have k8:=OV.alq b;clear b c D A)|(at_builtin;refine SI _ rfl _ _ rfl w.heap.size (zS M 1 c8) ([]++[aM p]) (a.map aM) (l.length+1) _ _ _ _ (by simp;omega) (by simp;omega) rfl t.o rfl (HC3.o _ r) (Ks _) (by omega) (by simp;omega) J ?_;intro g9 c9 w9 b c;have O9:=aj b;have G:=aj (r.o.grown c (λk d=>.inr (t.o.base k d)));clear b c))
      go_ret;rw[m.o];have e:(([]:List Value)++[aM p])++a.map aM=(p::a).map aM:=rfl;refine⟨_,rfl,⟨p::a,?_,?_⟩,G⟩
      .rw[<-e];exact O9.o.rv (by simp;omega)
      show jC _ _ (x::l);simp only[jC];exact⟨X.o.aC G,I.o.aC G⟩
     go_wp2_with (first | (at_builtin;refine SI _ rfl _ _ rfl w.heap.size zN [] ((a.take j).map aM) j _ _ _ _ (by simp) (by simp;omega) rfl (OV.nil _ _ _) rfl (E.o _) (Ks _) (by omega) (by simp;omega) (s.o _).size ?_;intro g7 c7 V b c;have O:=aj b;have F7:=aj ((s.o _).grown c (λk d=>by simp[Value.ownBlock]at d));have z7:=a0h (s.o _).size c.size;clear b c)|(at_builtin;refine DL _ rfl _ _ 212 210 _ 8 DY Tryz.underlying212 rfl rfl w.heap.size (zS g7 j c7) ([]++(a.take j).map aM) (j+1) V.heap.size (aM p) (by simp;omega) rfl (O.o.aC (S:=[]) ((aB.refl [] _).alloc _) (by simp)) rfl (mi _ _ _ _ rfl) rfl (by simp;omega) (by simp;omega) (by simp;omega) ?_;intro M c8 U b c D A;have t:=aj b;have r:=aj ((F7.o.alloc _).grown c (λk d=>.inr (O.o.base k d)));have J:=r.o.size;have k8:=OV.alq b;clear b c D A)|(at_builtin;refine SI _ rfl _ _ rfl w.heap.size (zS M (j+1) c8) ([]++(a.take j).map aM++[aM p]) ((a.drop j).map aM) (l.length+1) _ _ _ _ (by simp;omega) (by simp;omega) rfl t.o rfl (HC2.o _ r) (Ks _) (by omega) (by simp;omega) J ?_;intro g9 c9 w9 b c;have O9:=aj b;have G:=aj (r.o.grown c (λk d=>.inr (t.o.base k d)));clear b c))
     go_ret;rw[m.o];have e:([]++(a.take j).map aM++[aM p])++(a.drop j).map aM=(a.take j++p::a.drop j).map aM:=by simp
     have ht:=(I.o.aC G).take j;refine⟨_,rfl,⟨a.take j++p::a.drop j,?_,?_⟩,G⟩
     .rw[<-e];exact O9.o.rv (by simp;omega)
     refine ht.1.app ?_;simp only[jC];exact⟨X.o.aC G,ht.2⟩
  have R:j=l.length:=by omega
  have B:decide ((j:Int)<(l.length:Int))=false:=a0f (by omega);have m:=aj (afc l x j Z.o (λz hz=>by rw[a1Z (by omega)]at hz;simp at hz) (by omega));rw[a1Z (by omega)]at m;simp only[]at m;rw[a0C (by omega),a0i (by omega)]at m;have s:Z_ (∀n,aB [] w (wr.drewN n)):=λn=>F.o.drewN n
  have lV:=DZ.o;have zw:=F.o.size;have fin:Z_ (∀W Y,aB [] w W->OV 210 w.heap.size W Y ((a++[p]).map aM)->PtQ w (put l x) (zR Y) W):=by
   intro W Y C hO;rw[m.o];refine⟨_,rfl,⟨a++[p],hO.rv (by simp;omega),(I.o.aC C).app ?_⟩,C⟩;simp only[jC];exact⟨X.o.aC C,trivial⟩
  by_cases l0:l.length=0
  .have avZ:a=[]:=List.length_eq_zero_iff.1 (by omega)
   have rC:j=0:=by omega
   subst rC;rw[l0]at B |-;clear R l0 hj lV lU;rcases Hab.o with⟨rfl,rfl⟩|⟨g,rfl⟩
   all_goals
    go_wp2_with fail
    go_quiet (fail)
    go_wp2_with fail
    go_quiet (fail)
    go_wp2_with (first | (at_builtin;refine DL _ rfl _ _ 212 210 _ 8 DY Tryz.underlying212 rfl rfl w.heap.size zN [] 1 wr.heap.size (aM p) rfl rfl (OV.nil _ _ _) rfl (mi _ _ _ _ rfl) rfl (by simp) (by simp) (by simp;omega) ?_;intro M c8 U b c D A;have t:=aj b;have r:=aj (((s.o _).alloc _).grown c (λk d=>by simp[Value.ownBlock]at d));have J:=r.o.size;have k8:=OV.alq b;clear b c D A))
    all_goals
     go_ret;refine fin.o _ _ r.o ?_;rw[avZ];exact t
  obtain⟨y,H⟩:∃y,l[0]?=some y:=⟨l[0]'(by omega),a0a (by omega)⟩;obtain⟨q,hq,_⟩:=I.o.get 0 y H;obtain⟨g,rfl,_⟩:=P.o 0 (aM q) (by rw[a0Q,hq];rfl);clear hq H;have E:Z_ (∀n i u,((a.take j).map aM)[i]?=some u->zC (wr.drewN n) g (0+i) u):=by
   intro n i u f;rw[a1n];rw[a0C (by omega)]at f;obtain⟨g',e,h⟩:=P.o i u f;simp at e;subst e;exact((s.o n).cell (p:=(zB g i)) (bY h) (by simp)).trans h
  have rC:¬ j=0:=by omega
  have N:l.length=j:=R.symm;rw[N]at B |-;have axO:j<=cap:=by omega
  clear N;have hpj:a.length=j:=by omega
  have hlj:j<=10000000000000:=by omega
  have Hje:=aj R;clear R;go_wp2_with fail
  go_quiet (fail)
  go_wp2_with fail
  go_quiet (fail)
  go_wp2_with (first | (at_builtin;refine SI _ rfl _ _ rfl w.heap.size zN [] ((a.take j).map aM) j _ _ _ _ (by simp) (by simp;omega) rfl (OV.nil _ _ _) rfl (E.o _) (Ks _) (by omega) (by simp;omega) (s.o _).size ?_;intro g7 c7 V b c;have O:=aj b;have F7:=aj ((s.o _).grown c (λk d=>by simp[Value.ownBlock]at d));have z7:=a0h (s.o _).size c.size;clear b c)|(at_builtin;refine DL _ rfl _ _ 212 210 _ 8 DY Tryz.underlying212 rfl rfl w.heap.size (zS g7 j c7) ([]++(a.take j).map aM) (j+1) V.heap.size (aM p) (by simp;omega) rfl (O.o.aC (S:=[]) ((aB.refl [] _).alloc _) (by simp)) rfl (mi _ _ _ _ rfl) rfl (by simp;omega) (by simp;omega) (by simp;omega) ?_;intro M c8 U b c D A;have t:=aj b;have r:=aj ((F7.o.alloc _).grown c (λk d=>.inr (O.o.base k d)));have J:=r.o.size;have k8:=OV.alq b;clear b c D A))
  all_goals
   go_ret;refine fin.o _ _ r.o ?_;have e:[]++(a.take j).map aM++[aM p]=(a++[p]).map aM:=by rw[a0C (by have:=Hje.o;omega)];simp
   rw[<-e];exact t
def kH:NF->List NF
 | .sum l=>l
 | x=>[x]
def kS(st:Nat × List NF):NF->Nat × List NF
 | .zero=>st
 | .set s=>(st.1 ||| s,st.2)
 | x=>(st.1,put st.2 x)
theorem WQ:∀(l:List NF) (st:Nat × List NF),l.foldl kS st=(st.1 ||| bf l,((l.filter λx=>match x with | .zero=>false|x=>!dF x).foldl put st.2))
 | [],st=>by simp[bf]
 | x::r,st=>by rw[a1R,WQ r,tH];cases x<;>simp[kS,bits,dF,Nat.or_assoc]
theorem apl {a b:NF}(c:wf a)(hb:wf b):(kH a++kH b).foldl kS (0,[])=(bf (parts a++parts b),((parts a++parts b).filter λx=>!dF x).foldl put []):=by
 have key:∀x:NF,wf x->(kH x).filter (λx=>match x with | .zero=>false|x=>!dF x)=(parts x).filter (λx=>!dF x)/\bf (kH x)=bf (parts x):=by
  intro x e;cases x with
  | sum l=>refine⟨?_,rfl⟩;simp only[kH,parts];apply List.filter_congr;intro y d;have:=e.2 y d;cases y<;>simp[iU]at this<;>rfl
  | zero=>exact⟨rfl,rfl⟩
  | one=>exact⟨rfl,rfl⟩
  | set s=>exact⟨rfl,rfl⟩
  | pair x y=>exact⟨rfl,rfl⟩
  | star x=>exact⟨rfl,rfl⟩
 rw[WQ,a3v,(key a c).1,(key b hb).1,zh,(key a c).2,(key b hb).2,<-zh,<-a3v];simp
def adk(st:Nat × List NF):List NF:=if st.1=0 then st.2 else put st.2 (.set st.1)
def ar0 {a b:NF}(c:wf a)(hb:wf b):iw a b=mkS (adk ((kH a++kH b).foldl kS (0,[]))):=by grind [apl,hb,iw,bQ,adk,gU,bN]
def WR(x:NF):(kH x).length<=np x+1:=by cases x<;>simp[kH,np,parts]
def aax:∀(l:List NF) (st:Nat × List NF),(l.foldl kS st).2.length<=st.2.length+l.length
 | [],st=>by simp
 | x::r,st=>by
   have h:=aax r (kS st x);have c:(kS st x).2.length<=st.2.length+1:=by
    have a:∀(l:List NF) (x:NF),(put l x).length<=l.length+1:=by
     intro l
     induction l with
     | nil=>intro x;simp[put]
     | cons y r b =>
       intro x;simp only[put]
       split
       .grind
       split<;>simp
    cases x<;>simp[kS]<;>exact a _ _
   simp only[a1R,a0r];omega
def adl:∀(l:List NF) (st:Nat × List NF),(∀x∈l,wf x)->st.1<2 ^ 256->(l.foldl kS st).1<2 ^ 256
 | [],st,_,h=>h
 | x::r,st,a,h=>by
   rw[a1R];refine adl r _ (λy b=>a y (by simp[b])) ?_;cases x with
   | set s=>exact Nat.or_lt_two_pow h (a (.set s) (by simp)).2
   | _=>exact h
structure KT(w w':World):Prop where
 tm:∀(k:Nat) (cur:Array Value) (fz:Nat × Nat),w.heap[k]?=some (Obj.cells cur 214 fz)->w'.heap[k]?=w.heap[k]?
 pt:∀(g j:Nat) (q:Addr),w.cell? (zB g j)=some (.pointer (some q))->w'.cell? (zB g j)=some (.pointer (some q))
theorem KT.aC(f:aB [] w w'):KT w w' :=
 ⟨λk cur fz h=>f.block k (a0c.1 h).1 (by simp),λg j q h=>(f.cell (p:=(zB g j)) (bY h) (by simp)).trans h⟩
def TK.kt {p k:Nat} {a b l:Value} {nm:LB}(h:TK w p k L a b l nm)(f:KT w w'):TK w' p k L a b l nm:=⟨(f.tm p _ _ h.1).trans h.1,h.2⟩
def RVq.kt {b:LN}(h:RVq w v (b.map aM))(f:KT w w'):RVq w' v (b.map aM):=by obtain⟨q,a,n,cap,p,o,l,d,k⟩:=h;refine⟨q,a,n,cap,p,o,l,d,λj u c=>?_⟩;obtain⟨g,i,e⟩:=k j u c;obtain⟨m,_,rfl⟩:=a0q.1 (a0B c);exact⟨g,i,f.pt g j _ e⟩
mutual
theorem TN.kt(f:KT w w'):∀{p:Nat} {x:NF},TN w p x->TN w' p x
 | p,.zero,h=>by simp only[TN]at h |-;exact h.kt f
 | p,.one,h=>by simp only[TN]at h |-;exact h.kt f
 | p,.set s,h=>by simp only[TN]at h |-;exact h.kt f
 | p,.pair x y,h=>by simp only[TN]at h |-;obtain⟨a,b,d,c,e⟩:=h;exact⟨a,b,d.kt f,TN.kt f c,TN.kt f e⟩
 | p,.sum l,h=>by simp only[TN]at h |-;obtain⟨v,g,d,c,e⟩:=h;exact⟨v,g,d.kt f,c.kt f,jC.kt f e⟩
 | p,.star x,h=>by simp only[TN]at h |-;obtain⟨a,d,c⟩:=h;exact⟨a,d.kt f,TN.kt f c⟩
theorem jC.kt(f:KT w w'):∀{a:LN} {l:List NF},jC w a l->jC w' a l
 | [],[],_=>by simp only[jC]
 | p::a,x::l,h=>by simp only[jC]at h |-;exact⟨TN.kt f h.1,jC.kt f h.2⟩
 | [],_::_,h=>by simp only[jC]at h
 | _::_,[],h=>by simp only[jC]at h
end
def TV.kt(h:TV w v l)(f:KT w w'):TV w' v l:=by obtain⟨a,c,b⟩:=h;exact⟨a,c.kt f,b.kt f⟩
def IB(w:World)(b:Nat)(L:List Bool):Prop:=w.heap[b]?=some (.cells (L.map Value.bool).toArray 206 (0,0))/\L.length=256
theorem IB.lt(h:IB w b L):b<w.heap.size:=(a0c.1 h.1).1
theorem IB.aC {S:LN}(h:IB w b L)(f:aB S w w')(a:b∉S):IB w' b L:=⟨(f.block b h.lt a).trans h.1,h.2⟩
theorem IB.cell(h:IB w b L)(c:Nat)(x:Bool)(a:L[c]?=some x):w.cell? ⟨b,c,none⟩=some (.bool x):=by simp only[World.cell?,h.1];simp[a]
theorem IB.fz(h:IB w b L)(o:Nat):w.frozen? (zB b o)=false:=by simp[World.frozen?,h.1]
theorem IB.set(h:IB w b L)(c:Nat)(x:Bool):IB (w.setCell (zB b c) (.bool x)) b (L.set c x):=by
 refine⟨?_,by rw[a3p];exact h.2⟩;have a:=h.1;simp only[World.setCell,a0v,a,a0G,a1x];have:(L.map Value.bool).toArray.setIfInBounds c (.bool x)=((L.set c x).map Value.bool).toArray:=by grind
 simp[this]
def IB.kt(h:IB w b L)(c:Nat)(x:Bool):KT w (w.setCell (zB b c) (.bool x)):=by
 have far:∀k,k≠b->(w.setCell (zB b c) (.bool x)).heap[k]?=w.heap[k]?:=by intro k d;simp only[World.setCell,a0v];rw[a0n (λe=>d e.symm)]
 refine⟨λk cur fz d=>far k ?_,λg j q a=>?_⟩
 .rintro rfl
  rw[h.1]at d;simp at d
 have i:g≠b:=by
  rintro rfl;unfold World.cell? at a;simp only[h.1]at a;simp only[List.getElem?_toArray,a0Q]at a;cases f:L[j]? with
  | none=>rw[f]at a;simp at a
  | some y=>rw[f]at a;simp at a
 have:=far g i;unfold World.cell? at a |-;simp only[this];exact a
theorem auJ:Tryz.zeroCells206=(nF.map Value.bool).toArray:=by kernel_rfl
def YZ(s t c:Nat):List Bool:=(List.range 256).map λi=>if i<c then s.testBit i||t.testBit i else s.testBit i
theorem amT(s t:Nat):YZ s t 0=bl s:=by simp[YZ,bl]
theorem apn(s t:Nat):YZ s t 256=bl (s ||| t):=by simp_all[YZ,bl]
theorem apo(s t c i:Nat)(h:i<256):(YZ s t c)[i]?=some (if i<c then s.testBit i||t.testBit i else s.testBit i):=by simp[YZ,h]
theorem apq(s t c:Nat)(h:c<256):(YZ s t c).set c (s.testBit c||t.testBit c)=YZ s t (c+1):=by
 apply a3g (by simp[YZ]);intro i b a;simp only[YZ,List.getElem_set,List.getElem_map,List.getElem_range]
 by_cases e:c=i
 .subst e;simp
 grind
end
section
variable {L l:List NF} {N b b' i ib j k m m' n p q t u w w':Nat} {X x y:NF} {ps:LN} {v5 v9:Value} {B:List Bool} {hi:Option Nat} {a:TR} {α:Type}
def apr(e:wf (.sum l))(f:can (.sum l)):2<=l.length:=by
 have c:mkS (gU (bN ([NF.sum l].flatMap parts)))=.sum l:=f.2;simp only[a1i,a2E,a0R,parts]at c;generalize g:gU (bN l)=L at c
 match L,c with
 | [],c=>simp[mkS]at c
 | [z],c =>
   have hz:z∈gU (bN l):=by rw[g];simp
   have d:z=.sum l:=c;rcases wI (kK hz) with h|h
   .rw[d]at h;simp[dF]at h
   have:=e.2 z h;rw[d]at this;simp[iU]at this
 | a::b::r,c=>simp only[mkS,NF.sum.injEq]at c;rw[<-c];simp
def take2(a b:NF):Nat->List NF
 | 0=>[]
 | 1=>kH a
 | _=>kH a++kH b
theorem av0(av:Option Addr)(n cap:Nat)(s:ByteArray):((Tryz.zeroCells214.setIfInBounds 0 (.int .u8 97)).setIfInBounds 259 (.slice av n cap)).setIfInBounds 260 (.string s)=Km 97 nF sM sM (.slice av n cap) s.data.toList:=by cases s;kernel_rfl
theorem Qg:∀(a b:List NF),ed (a++b)=ed a++ed b
 | [],b=>by simp[ed]
 | x::a,b=>by simp only[a0L,ed,Qg a b,a0M,a0L]
def ag5 {E:List NF}(h:E[j]?=some y):ed (E.take (j+1))=ed (E.take j)++name y++[124]:=by rw[a1c,h,Qg];simp[ed]
def adm {E:List NF}:(ed (E.take j)).length<=(ed E).length:=by
 have h:ed E=ed (E.take j)++ed (E.drop j):=by rw[<-Qg,a1C]
 rw[h,a0p];omega
def amU(t:Nat):(t=0/\Vf t=.zero)\/(t≠0/\Vf t=.set t):=by
 unfold Vf
 by_cases h:t=0
 .exact .inl ⟨h,a0m h⟩
 exact .inr ⟨h,a0n h⟩
def ar1(h:∀l,x≠.sum l):(((j5 x:Nat):Int)==97)=false/\kH x=[x]:=by
 cases x with
 | sum l=>exact absurd rfl (h l)
 | _=>exact⟨by simp[j5],rfl⟩
structure Or2(w:World)(L:List NF)(ps:LN)(ib:Nat)(v5:Value)(wr:World)(v9:Value)(i:Nat)(B:List Bool):Prop where
 oot:TV wr v9 ((L.take i).foldl kS (0,[])).2
 Y2:IB wr ib B
 row:OV 210 (w.heap.size+1) wr v5 (ps.map aM)
 fr:aB [] w wr
theorem Or2.go {w wr w':World}(h:Or2 w L ps ib v5 wr v9 i B)(f:aB [] wr w'):Or2 w L ps ib v5 w' v9 i B :=
 ⟨h.oot.aC f,h.Y2.aC f (by simp),h.row.aC f (by simp),h.fr.trans f⟩
theorem Or2.set {w wr:World}(h:Or2 w L ps ib v5 wr v9 i B)(hi:w.heap.size<=ib)(c:Nat)(x:Bool):Or2 w L ps ib v5 (wr.setCell (zB ib c) (.bool x)) v9 i (B.set c x):=by refine⟨h.oot.kt (h.Y2.kt c x),h.Y2.set c x,?_,h.fr.setCell (.inr hi) _⟩;refine jJ h.row ((aB.refl [ib] wr).setCell (p:=(zB ib c)) (.inl (by simp)) (.bool x)) ?_;intro k a;simp only[a0w]at a;subst a;exact .inr ⟨_,_,_,h.Y2.1,by decide⟩
def ajQ(h:L[i]?=some x):(L.take (i+1)).foldl kS (0,[])=kS ((L.take i).foldl kS (0,[])) x:=by rw[a1c,h,List.foldl_append];rfl
def ar2(b:x≠.zero)(a:∀s,x≠.set s):(((j5 x:Nat):Int)==48)=false/\(((j5 x:Nat):Int)==115)=false/\∀st,kS st x=(st.1,put st.2 x):=by
 cases x with
 | zero=>exact absurd rfl b
 | set s=>exact absurd rfl (a s)
 | _=>exact⟨by simp[j5],by simp[j5],λ_=>rfl⟩
structure Or1(w:World)(a b:NF)(wr:World)(v5:Value)(i:Nat):Prop where
 row:∃ps,OV 210 (w.heap.size+1) wr v5 (ps.map aM)/\jC w ps (take2 a b i)
 fr:aB [] w wr
theorem SK(a b:NF)(w:World)(pa pb:Nat)(ha:TN w pa a)(hb:TN w pb b)(wa:WC a)(wb:WC b)(hn:nl (iw a b)<9223372036854775807)(hc:np (iw a b)<=1000000000000) :
 Calls Tryz.prog 128 #[aM pa,aM pb] w (zU w (iw a b)):=by
 have JW:∀x ∈ [a,b],wf x:=by simp;exact⟨wa.1,wb.1⟩
 have ca:np a<=1000000000000:=a0h (MH JW (by simp) wa.2) hc;have cb:np b<=1000000000000:=a0h (MH JW (by simp) wb.2) hc;have la:=WR a;have lb:=WR b;have A:=aj ha;have B:=aj hb;have WA:=aj wa;have WB:=aj wb;have t:=aj (ar0 wa.1 wb.1);have HN:=aj hn;clear ha hb wa wb JW hn hc;unfold aM;go_in
 go_wp2_with fail
 have FA:Z_ (aB [] w (w.alloc (Obj.cells #[.pointer (some ⟨pa,0,none⟩),.pointer (some ⟨pb,0,none⟩)] 210))):=(aB.refl _ _).alloc _;have HA0:Z_ ((w.alloc (Obj.cells #[.pointer (some ⟨pa,0,none⟩),.pointer (some ⟨pb,0,none⟩)] 210)).heap[w.heap.size]?=some (.cells #[.pointer (some ⟨pa,0,none⟩),.pointer (some ⟨pb,0,none⟩)] 210 (0,0))):=bD _ _;go_loopg [5,7] 2 (λk v5 v7 wr=>∃(i:Nat),i+k=2/\v7=.int .i64 i/\Or1 w a b wr v5 i/\wr.heap[w.heap.size]?=some (.cells #[.pointer (some ⟨pa,0,none⟩),.pointer (some ⟨pb,0,none⟩)] 210 (0,0)))
 case atStart=>exact⟨0,rfl,rfl,⟨⟨[],OV.nil _ _ _,by simp[take2,jC]⟩,FA⟩,HA0⟩
 case round =>
  clear FA HA0;obtain⟨i,Ku,rfl,hO,hH⟩:=hrel;obtain⟨⟨ps,hov,Z⟩,bH⟩:=hO;have zr2:w.heap.size+1<=wr.heap.size:=(a0c.1 hH).1;have O:=aj hov;have T:=aj Z;have F:=aj bH;have HH:=aj hH;have zr:=bH.size;obtain⟨a5,R,c5,rfl,NV⟩:=hov.open;rw[a0y]at NV;have hlen:=Z.len;clear hov Z bH hH
  by_cases hi:i<2
  .obtain⟨x,px,f,aO,htk,wx,lx⟩:∃x px,TN w px x/\wr.cell? ⟨w.heap.size,i,none⟩=some (.pointer (some ⟨px,0,none⟩))/\take2 a b (i+1)=take2 a b i++kH x/\WC x/\(take2 a b i).length+(kH x).length<=2000000000002:=by
    rcases(by omega:i=0\/i=1) with rfl|rfl
    .exact⟨a,pa,A,by simp[World.cell?,HH.o],by simp[take2],WA,by simp[take2];omega⟩
    exact⟨b,pb,B,by simp[World.cell?,HH.o],by simp[take2],WB,by simp only[take2];omega⟩
   have kx:=(f.aC F).kd;have X:=aj f;have W:=aj htk;have WX:=aj wx;have DZ:=aj hlen;have Y9:=aj NV;have hlz:R<=2000000000002:=by omega
   clear f htk wx hlen NV
   by_cases ag6:∃l,x=.sum l
   .obtain⟨l,rfl⟩:=ag6
    have h2:=apr WX.o.1 WX.o.2;have hX:=X.o;simp only[TN]at hX;obtain⟨v,qs,H,⟨Ml,av,n,cap,rfl,hnq,Fz,uz,pY⟩,J⟩:=hX;obtain⟨_,_,UY,_⟩:=(H.aC F.o (by simp)).ends;have Kv:=J.len;rw[a0y]at hnq;have uD:n=l.length:=hnq.trans Kv;subst uD;obtain⟨y,d⟩:∃y,l[0]?=some y:=⟨l[0]'(by omega),a0a (by omega)⟩;obtain⟨q0,EC,_⟩:=J.get 0 y d;obtain⟨g,rfl,_⟩:=pY 0 (aM q0) (by rw[a0Q,EC];rfl);have HC:Z_ (∀j u,(qs.map aM)[j]?=some u->wr.cell? ⟨g,0+j,none⟩=some u):=by
     intro j u hu;rw[a1n];obtain⟨g',e,h⟩:=pY j u hu;simp at e;subst e;exact(F.o.cell (p:=⟨g,j,none⟩) (bY h) (by simp)).trans h
    have HQ:=aj J;have Hql:=aj Kv;have lx2:(take2 a b i).length+l.length<=2000000000002:=lx;have hl8:l.length<=2000000000002:=by omega
    have Hpg:Z_ (kH (.sum l)=l):=rfl;have auK:Z_ (ps.length+l.length<=2000000000002):=by show _<=_;have:=DZ.o;omega
    clear H pY J Kv hnq EC d uz Ml lx;simp only[j5]at kx;have aps:Z_ (∀k,(Value.slice a5 R c5).ownBlock=some k->k≠w.heap.size):=λk H e=>by have:=O.o.base k H;omega
    go_wp2_with (at_builtin;refine SI _ rfl _ _ rfl (w.heap.size+1) (.slice a5 R c5) (ps.map aM) (qs.map aM) (R+l.length) g 0 l.length cap (by rw[a0y];exact congrArg (·+l.length) Y9) (by rw[a0y];exact Hql) rfl O.o rfl HC.o (Ks _) (by omega) (by rw[a0y];have:=auK.o;omega) zr2 ?_;intro g7 c7 w7 aS aH;have O7:=aj aS;have F7:=aj (F.o.grown aH (λk H=>.inr (Nat.le_of_succ_le (O.o.base k H))));have H7:=aj ((aH.block w.heap.size (by omega) (λe=>aps.o _ e.symm rfl)).trans HH);clear aS aH)
    go_roundg (gk-1)
    case measure=>omega
    case rel =>
     refine⟨i+1,by omega,by go_num,⟨⟨ps++qs,by rw[a0P];exact O7,?_⟩,F7⟩,H7⟩;rw[W.o,Hpg.o];exact T.o.app HQ
   obtain⟨k97,hpg⟩:=ar1 (λl e=>ag6 ⟨l,e⟩);have k8:j5 x<256:=by cases x<;>simp[j5]
   rw[hpg]at W lx;clear hpg ag6;generalize j5 x=kdx at *;have aps:Z_ (∀k,(Value.slice a5 R c5).ownBlock=some k->k≠w.heap.size):=λk H e=>by have:=O.o.base k H;omega
   go_wp2_with (at_builtin;refine DL _ rfl _ _ 212 210 _ 8 DY Tryz.underlying212 rfl rfl (w.heap.size+1) (.slice a5 R c5) (ps.map aM) (R+1) wr.heap.size (aM px) (by rw[a0y];exact congrArg (·+1) Y9) rfl (O.o.aC (S:=[]) ((aB.refl [] _).alloc _) (by simp)) rfl (mi _ _ _ _ rfl) rfl (by rw[a0y,<-Y9.o];omega) (by rw[a0y,<-Y9.o];omega) (by simp;omega) ?_;intro g7 c7 w7 aS aH bq iE;have O7:=aj aS;have F7:=aj ((F.o.alloc _).grown aH (λk H=>.inr (Nat.le_of_succ_le (O.o.base k H))));have H7:=aj ((aH.block w.heap.size (by simp;omega) (λe=>aps.o _ e.symm rfl)).trans ((((aB.refl [] wr).alloc _).block w.heap.size (by omega) (by simp)).trans HH));clear aS aH bq iE)
   go_roundg (gk-1)
   case measure=>omega
   case rel =>
    refine⟨i+1,by omega,by go_num,⟨⟨ps++[px],by rw[a0P];exact O7,?_⟩,F7⟩,H7⟩;rw[W.o];refine T.o.app ?_;simp only[jC];exact⟨X,trivial⟩
  have Ic:i=2:=by omega
  subst Ic;have HL:Z_ (take2 a b 2=kH a++kH b):=rfl;rw[HL.o]at T hlen;obtain⟨L,hL⟩:∃L,kH a++kH b=L:=⟨_,rfl⟩;have hLl:L.length<=2000000000002:=by rw[<-hL,a0p];omega
  have hLw:∀x∈L,wf x:=by
   rw[<-hL];have key:∀y:NF,wf y->∀x∈kH y,wf x:=by
    intro y d x f;cases y with
    | sum l=>exact kJ.1 d.1 x f
    | _=>simp only[kH,a0w]at f;rw[f];exact d
   intro x f;rcases a0e.1 f with h|h
   .exact key a WA.o.1 x h
   exact key b WB.o.1 x h
  rw[hL]at T t hlen;have hnL:R=L.length:=NV.trans hlen;subst hnL;have HLw:=aj hLw;clear hL hLw HL HH hlen NV;go_wp2_with fail
  have zib:w.heap.size<=wr.heap.size:=zr;have Q0:Z_ (Or2 w L ps wr.heap.size (.slice a5 L.length c5) (wr.alloc (Obj.cells Tryz.zeroCells206 206)) AM 0 (bl 0)):=by
   refine⟨⟨[],⟨by simp,none,0,0,rfl,rfl,a0b _,.inl ⟨rfl,rfl⟩,λj u hj=>by simp at hj⟩,by simp[jC]⟩,?_,O.o.aC ((aB.refl [] _).alloc _) (by simp),F.o.alloc _⟩;rw[auJ,Rz];exact⟨bD _ _,qQ⟩
  have hTl:=T.o.len;obtain⟨ib,hib⟩:∃ib,wr.heap.size=ib:=⟨_,rfl⟩;rw[hib]at Q0 zib |-;generalize wr.alloc (Obj.cells Tryz.zeroCells206 206)=wB at Q0 |-;clear O F zr zr2 hib;go_loopg [9,10] L.length (λk v9 v10 wq=>∃(i:Nat) (vo:Value),i+k=L.length/\v10=.int .i64 i/\v9=vo/\Or2 w L ps ib (.slice a5 L.length c5) wq vo i (bl ((L.take i).foldl kS (0,[])).1))
  case atStart=>exact⟨0,AM,by omega,rfl,rfl,Q0⟩
  case round =>
   clear Q0;obtain⟨i,vo,av3,rfl,rfl,hQ⟩:=hrel;obtain⟨pso,⟨_,ao,no,co,rfl,hno,_⟩,uU⟩:=hQ.oot;have P:Z_ (no=((L.take i).foldl kS (0,[])).2.length):=by show _=_;rw[hno,a0y];exact uU.len
   have Q:=aj hQ;have zq:=hQ.fr.size;have m:((L.take i).foldl kS (0,[])).2.length<=10000000000000:=a0h (aax (L.take i) (0,[])) (by simp;omega);clear hQ hno uU;obtain⟨wo,Vg⟩:∃wo,wo=wr:=⟨_,rfl⟩;subst Vg;obtain⟨go,iD⟩:∃go,go=gk:=⟨_,rfl⟩;subst iD
   by_cases hi3:i<L.length
   .obtain⟨x,f⟩:∃x,L[i]?=some x:=⟨L[i],a0a hi3⟩
    obtain⟨q,hq,I⟩:=T.o.get i x f;obtain⟨g,rfl,_,_,aO⟩:=Q.o.row.cell (j:=i) (u:=aM q) (by rw[a0Q,hq];rfl);have apt:=I.aC Q.o.fr;have kx:=apt.kd;have HX:=aj apt;have HS:=aj (ajQ f);have hxw:=HLw.o x (a0B f);unfold aM at aO;have HXc:=aj aO;have Hpq:Z_ ((ps.map aM)[i]?=some (aM q)):=by show _=_;rw[a0Q,hq];rfl
    clear hq I apt f
    by_cases hz:x=.zero
    .subst hz
     simp only[j5]at kx;have U:Z_ ((L.take (i+1)).foldl kS (0,[])=(L.take i).foldl kS (0,[])):=HS.o;go_wp2;go_roundg (go-1)
     case measure=>omega
     case rel =>
      refine⟨i+1,_,by omega,by go_num,rfl,?_⟩;have:=Q.o;refine⟨?_,?_,this.row,this.fr⟩
      .rw[U.o];exact this.oot
      rw[U.o];exact this.Y2
    by_cases Ju:∃s,x=.set s
    .obtain⟨s,rfl⟩:=Ju
     simp only[j5]at kx;have hs8:s<2 ^ 256:=hxw.2;obtain⟨t0,Qh⟩:∃t0,((L.take i).foldl kS (0,[])).1=t0:=⟨_,rfl⟩;have U:Z_ ((L.take (i+1)).foldl kS (0,[])=(t0 ||| s,((L.take i).foldl kS (0,[])).2)):=by show _=_;rw[HS.o,<-Qh];rfl
     rw[Qh]at Q;clear HS Qh m;go_wp2_with fail
     go_loopg [11] 256 (λk v11 wz=>∃(c:Nat),c+k=256/\v11=.int .i64 c/\Or2 w L ps ib (.slice (some ⟨g,0,none⟩) L.length c5) wz (.slice ao no co) i (YZ t0 s c)/\TN wz q (.set s))
     case atStart=>exact⟨0,rfl,rfl,by rw[amT];exact Q,HX⟩
     case round =>
      clear Q HX;obtain⟨c,hck,rfl,hQ2,hX2⟩:=hrel;have Q2:=aj hQ2;have X2:=aj hX2;have alr:wr.cell? ⟨g,i,none⟩=some (.pointer (some ⟨q,0,none⟩)):=by
       obtain⟨g',e,_,_,h⟩:=hQ2.row.cell (j:=i) (u:=aM q) Hpq;simp only[Option.some.injEq,Addr.mk.injEq]at e;obtain⟨rfl,_⟩:=e;exact h
      clear hQ2 hX2
      by_cases YT:c<256
      .have EF:=Q2.o.Y2.cell c (t0.testBit c) (by rw[apo _ _ _ _ YT,a0n (by omega)])
       have Sv:=Q2.o.Y2.fz c;have hX3:=X2.o;simp only[TN]at hX3;have axX:=hX3.cin c (s.testBit c) (Ib s c YT);have Q3:=aj (Q2.o.set zib c (t0.testBit c||s.testBit c));have X3:=aj (X2.o.kt (Q2.o.Y2.kt c (t0.testBit c||s.testBit c)));rw[apq _ _ _ YT]at Q3;clear hX3;cases zH:t0.testBit c
       all_goals
        rw[zH]at EF Q3 X3;simp only[Bool.true_or,a3l]at Q3 X3;go_wp2;go_roundg (gk-1)
        case measure=>omega
        case rel=>exact⟨c+1,by omega,by go_num,Q3,X3⟩
      have hce:c=256:=by omega
      subst hce;rw[apn]at Q2;go_wp2;go_roundg (go-1)
      case measure=>omega
      case rel =>
       refine⟨i+1,_,by omega,by go_num,rfl,?_⟩;have:=Q2.o;refine⟨?_,?_,this.row,this.fr⟩
       .rw[U.o];exact this.oot
       rw[U.o];exact this.Y2
    obtain⟨k48,axY,dY⟩:=ar2 hz (λs e=>Ju ⟨s,e⟩);have k8:j5 x<256:=by cases x<;>simp[j5]
    have U:Z_ ((L.take (i+1)).foldl kS (0,[])=(((L.take i).foldl kS (0,[])).1,put ((L.take i).foldl kS (0,[])).2 x)):=by show _=_;rw[HS.o,dY]
    have N:=aj (adj wo (.slice ao no co) _ q x Q.o.oot HX.o m);unfold aM at N;clear HS dY hz Ju m;generalize j5 x=kdx at *;go_wp2_with fail
    refine(N.o).mono ?_;rintro e w3 ⟨v3,rfl,D,bW⟩;have Q3:=aj (Q.o.go bW);have V3:=aj D;obtain⟨ps3,⟨_,a3,n3,c3,rfl,h3,_⟩,_⟩:=D;clear bW N Q h3;go_wp2;go_roundg (go-1)
    case measure=>omega
    case rel =>
     refine⟨i+1,_,by omega,by go_num,rfl,?_⟩;have:=Q3.o;refine⟨?_,?_,this.row,this.fr⟩
     .rw[U.o];exact V3
     rw[U.o];exact this.Y2
   have hiL:i=L.length:=by omega
   subst hiL;rw[a0C (a0b _)]at Q P m;have ht8:=adl L (0,[]) HLw.o (by decide);obtain⟨st,dY⟩:∃st,L.foldl kS (0,[])=st:=⟨_,rfl⟩;rw[dY]at Q P m ht8 t;have Qi:=aj dY;clear dY av3 T HLw A B hTl;have NB:=aj (SG ib 0 st.1 wo (λc hc=>by rw[a1n];exact Q.o.Y2.cell c _ (Ib _ _ hc)) ht8);go_wp2_with fail
   refine(NB.o).mono ?_;rintro e w1 ⟨p1,rfl,jb,aZ⟩;have kp:=jb.kd;have V1:=aj (Q.o.oot.aC aZ);rw[show(L.take L.length)=L from a0C (a0b _)]at V1;have F1:=aj (Q.o.fr.trans aZ);have P1:=aj jb;clear jb aZ NB Q;unfold aM;have HEs:Z_ ((L.foldl kS (0,[])).2=st.2):=by show _=_;rw[Qi.o]
   rw[HEs.o]at V1;rcases amU st.1 with⟨h0,h1⟩|⟨h0,h1⟩
   case' inl =>
    rw[h1]at kp;simp only[j5]at kp;have G:Z_ (adk st=st.2):=by show _=_;unfold adk;rw[a0m h0]
    rw[G.o]at t;obtain⟨E,hE⟩:∃E,st.2=E:=⟨_,rfl⟩;rw[hE]at t V1 P;clear G hE h1 h0 P1;obtain⟨C,Y⟩:∃C,C=w1:=⟨_,rfl⟩;have V:=V1;have FF:=F1;rw[<-Y]at V FF kp;clear V1 F1;rw[<-Y];obtain⟨af,haf⟩:∃x,x=ao:=⟨_,rfl⟩;obtain⟨cf,hcf⟩:∃x,x=co:=⟨_,rfl⟩;obtain⟨nf,hnf⟩:∃x,x=no:=⟨_,rfl⟩;rw[<-haf,<-hcf,<-hnf]at V |-;clear haf hcf Y P hnf
   case' inr =>
    rw[h1]at kp;simp only[j5]at kp;have G:Z_ (adk st=put st.2 (.set st.1)):=by show _=_;unfold adk;rw[a0n h0]
    rw[G.o]at t;rw[h1]at P1;have NP:=aj (adj w1 (.slice ao no co) st.2 p1 (.set st.1) V1.o P1.o m);unfold aM at NP;clear G h1 h0 P1 V1;go_wp2_with fail
    refine(NP.o).mono ?_;rintro e C ⟨v3,rfl,D,bW⟩;have V:=aj D;have FF:=aj (F1.o.trans bW);obtain⟨ps3,⟨_,af,nf,cf,rfl,h3,_⟩,_⟩:=D;clear bW F1 h3 NP;generalize put st.2 (.set st.1)=E at t V
   all_goals
    obtain⟨psE,⟨hbE,af',nf',cf',eV,M,hcE,atc,SN⟩,hTE⟩:=V.o;simp only[Value.slice.injEq]at eV;obtain⟨rfl,rfl,rfl⟩:=eV;rw[a0y]at M hbE;have hlE:=hTE.len;have av4:nf=E.length:=M.trans hlE;have HC:=aj SN;have W:=aj hTE;have axZ:E.length<=140737488355328:=by omega
    have Hlp:Z_ (psE.length=E.length):=hlE;have HbE:Z_ ((psE.map aM).length<=140737488355328):=by show _<=_;rw[a0y];exact hbE
    have HhE:=aj atc;clear SN hTE M hlE hbE atc;have get:Z_ (∀j y,E[j]?=some y->∃q g,af=some ⟨g,0,none⟩/\C.cell? ⟨g,j,none⟩=some (.pointer (some ⟨q,0,none⟩))/\TN C q y):=by
     intro j y d;obtain⟨q,hq,I⟩:=W.o.get j y d;obtain⟨g,hg,hc⟩:=HC.o j (aM q) (by rw[a0Q,hq];rfl);exact⟨q,g,hg,hc,I⟩
    subst av4
    by_cases e0:E.length=0
    .have hE0:E=[]:=List.length_eq_zero_iff.1 e0
     have HZ:Z_ (iw a b=.zero):=by show _=_;rw[t.o,hE0];rfl
     have b0:(((E.length:Nat):Int)==0)=true:=by rw[e0];rfl
     have N:=aj (oQ C);clear t hE0 e0 HC W get;go_wp2_with fail
     refine(N.o).mono ?_;rintro e w9 ⟨p9,rfl,hp9,hf9⟩;have P9:=aj hp9;have F9:=aj (FF.o.trans hf9);clear hp9 hf9 N;unfold aM;go_wp2;go_ret;rw[HZ.o];exact⟨p9,rfl,P9,F9⟩
    have b0:(((E.length:Nat):Int)==0)=false:=by rw[a0j];omega
    by_cases e1:E.length=1
    .obtain⟨y,d⟩:∃y,E=[y]:=List.length_eq_one_iff.1 e1
     have HZ:Z_ (iw a b=y):=by show _=_;rw[t.o,d];rfl
     have b1:(((E.length:Nat):Int)==1)=true:=by rw[e1];rfl
     obtain⟨q,g,rfl,aO,I⟩:=get.o 0 y (by rw[d];rfl);have QN:=aj I;have Ox:(0:Int)<(E.length:Int):=by omega
     clear t d e1 HC W get I;go_wp2;go_ret;rw[HZ.o];exact⟨q,rfl,QN,FF⟩
    have b1:(((E.length:Nat):Int)==1)=false:=by rw[a0j];omega
    have HZ:Z_ (iw a b=.sum E):=by
     show _=_;rw[t.o]
     match E,e0,e1 with
     | [],e0,_=>exact absurd rfl e0
     | [z],_,e1=>exact absurd rfl e1
     | y::z::r,_,_=>rfl
    have M:(ed E).length+2<9223372036854775807:=by
     have:=HN.o;rw[HZ.o]at this;simp only[nl,name,a0r,a0p,a1e]at this;omega
    clear t HC;go_wp2_with fail
    go_loopg [13,14] E.length (λk v13 v14 wq=>∃(j:Nat),j+k=E.length/\v14=.int .i64 j/\v13=.string (bs (91::ed (E.take j)))/\C=wq)
    case atStart=>exact⟨0,by omega,rfl,rfl,rfl⟩
    case round =>
     obtain⟨j,lU,rfl,rfl,rfl⟩:=hrel;have hle:=adm (E:=E) (j:=j);have s1:(bs (91::ed (E.take j))).size=(ed (E.take j)).length+1:=bL _
     by_cases hj:j<E.length
     .obtain⟨y,d⟩:∃y,E[j]?=some y:=⟨E[j],a0a hj⟩
      obtain⟨q,g,rfl,aO,I⟩:=get.o j y d;have nmy:=I.nm;have Hnt:=aj (ag5 d);have as9:=adm (E:=E) (j:=j+1);have uD:(ed (E.take (j+1))).length=(ed (E.take j)).length+(name y).length+1:=by rw[Hnt.o];simp;omega
      have e1':bs (91::ed (E.take j))++bs (name y)=bs (91::ed (E.take j)++name y):=mf _ _;have e2':bs (91::ed (E.take j)++name y)++⟨#[124]⟩=bs (91::ed (E.take (j+1))):=by rw[Hnt.o];exact mf (91::ed (E.take j)++name y) [124]
      have s2:=bL (name y);have s3:(bs (91::ed (E.take j)++name y)).size=(ed (E.take j)).length+1+(name y).length:=by rw[bL];simp;omega
      have q1:¬ (9223372036854775807<(ed (E.take j)).length+1+(name y).length):=by omega
      have q2:¬ (9223372036854775807<(ed (E.take j)).length+1+(name y).length+1):=by omega
      have hji:(j:Int)<(E.length:Int):=by omega
      clear d I hle as9 uD;generalize bs (91::ed (E.take j)++name y)=z2 at e1' e2' s3;go_wp2;go_roundg (gk-1)
      case measure=>omega
      case rel=>exact⟨j+1,by omega,by go_num,rfl,rfl⟩
     have qI:E.take j=E:=a0C (by omega);rw[qI]at s1 |-;have e3:bs (91::ed E)++⟨#[93]⟩=bs (91::ed E++[93]):=mf _ [93];have q3:¬ (9223372036854775807<(ed E).length+1+1):=by omega
     have q4:¬ (9223372036854775807<(ed E).length+2):=by omega
     have fin:Z_ (TN (C.alloc (Obj.cells (((Tryz.zeroCells214.setIfInBounds 0 (.int .u8 97)).setIfInBounds 259 (.slice af E.length cf)).setIfInBounds 260 (.string (bs (91::ed E++[93])))) 214)) C.heap.size (.sum E)):=by
      show TN _ _ _;simp only[TN];have ff:aB [] C (C.alloc (Obj.cells (((Tryz.zeroCells214.setIfInBounds 0 (.int .u8 97)).setIfInBounds 259 (.slice af E.length cf)).setIfInBounds 260 (.string (bs (91::ed E++[93])))) 214)):=(aB.refl _ _).alloc _;obtain⟨psV,hv1,hv2⟩:=V.o;refine⟨.slice af E.length cf,psV,TK.of ?_ qQ,hv1.aC ff,hv2.aC ff⟩;rw[av0,MN];simp only[name];rfl
     generalize bs (91::ed E++[93])=z9 at e3 fin;clear hle qI get W;go_wp2;go_ret;rw[HZ.o];exact⟨_,rfl,fin,FF.o.alloc _⟩
mutual
def xP(c:Nat):NF->Prop
 | .zero=>True
 | .one=>True
 | .set _=>True
 | .pair a b=>xP c a/\xP c b/\np (left c (.pair a b))<=1000000000000
 | .sum l=>aay c l/\np (left c (.sum l))<=1000000000000
 | .star a=>xP c a
def aay(c:Nat):List NF->Prop
 | []=>True
 | x::r=>xP c x/\aay c r
end
def adp {c:Nat}:∀{l:List NF},aay c l->∀x∈l,xP c x
 | x::r,h,y,a=>by
   simp only[aay]at h;rcases a0l.1 a with e|e
   .rw[e];exact h.1
   exact adp h.2 y e
def Vh(c:Nat)(x:NF):Prop:=∀(w:World) (p:Nat),TN w p x->WC x->xP c x->nl (left c x)<9223372036854775807 ->
 zF 104 #[aM p,zI c] w (zU w (left c x))
def ag7{c:Nat}(b:j5 x=k)(a:left c x=.zero)(h:∀(w:World) (p:Nat),zC w p 0 (.int .u8 (k:Nat))->zF 104 #[zP p,zI c] w (zU w .zero)):Vh c x:=by intro w p ht _ _ _;have k0:=ht.kd;rw[b]at k0;rw[a];exact h w p k0
def ag8(c:Nat):Vh c .zero/\Vh c .one:=by
 constructor
 refine ag7 (k:=48) rfl (by simp only[left]) (λw p k0=>?_)
 rotate_left
 refine ag7 (k:=49) rfl (by simp only[left]) (λw p k0=>?_)
 all_goals
  have N:=oQ w;delta zF;go_in
  go_wp2_with fail
  refine N.mono ?_;rintro e a ⟨q,rfl,P,F⟩;clear N;unfold aM;go_wp2;go_ret;exact⟨q,rfl,P,F⟩
def ar3(c s:Nat)(d:c<256):Vh c (.set s):=by
 intro w p ht _ _ _;have k0:=ht.kd;simp only[j5]at k0;simp only[TN]at ht;have b:=ht.cin c (s.testBit c) (Ib s c d);have a:left c (.set s)=if s.testBit c then .one else .zero:=by simp only[left]
 unfold aM;clear ht;cases hb:s.testBit c
 case' false=>rw[hb]at b a;have N:=oQ w
 case' true=>rw[hb]at b a;have N:=wO w
 all_goals
  delta zF;go_in
  go_wp2_with fail
  refine N.mono ?_;rintro e f ⟨q,rfl,P,F⟩;clear N;unfold aM;go_wp2;go_ret;rw[a];exact⟨q,rfl,P,F⟩
def apu(c:Nat)(a:NF)(x:c<256)(t:Vh c a):Vh c (.star a):=by
 intro w p ht d m g;have k0:=ht.kd;simp only[j5]at k0;have T:=aj ht;simp only[TN]at ht;obtain⟨pa,j,k⟩:=ht;obtain⟨u,_⟩:=j.ends;have h:WC a:=⟨d.1.1,d.2⟩;have n:Z_ (left c (.star a)=aG (left c a) (.star a)):=by show _=_;simp only[left]
 have A:=aj (t w pa k h (by simpa only[xP] using m) (a2i (agB d) g));rw[n.o]at g;have i:Z_ (∀(w':World) (q:Nat),aB [] w w'->TN w' q (left c a)->zF 127 #[aM q,aM p] w' (zU w' (aG (left c a) (.star a)))):=λw' q b hq=>yP (left c a) (.star a) w' q p hq (T.o.aC b) (h.left c).1 d.1 g
 unfold aM at u A i |-;clear j k T d h g m;delta zF;go_in
 go_wp2_with fail
 refine(A.o).mono ?_;rintro e r ⟨q,rfl,f,b⟩;have l:=aj (i.o r q b f);have F:=aj b;clear f b A i;unfold aM;go_wp2_with fail
 refine(l.o).mono ?_;rintro e v ⟨s,rfl,f,b⟩;have P:=aj f;have F2:=aj (F.o.trans b);clear f b l F;unfold aM;go_wp2;go_ret;rw[n.o];exact⟨s,rfl,P,F2⟩
def apv(c:Nat)(a b:NF)(hc:c<256)(v:Vh c a)(u:Vh c b):Vh c (.pair a b):=by
 intro w p ht h k x;have k0:=ht.kd;simp only[j5]at k0;simp only[TN]at ht;obtain⟨pa,pb,I,y,hb⟩:=ht;obtain⟨z,f,_⟩:=I.ends;have m:WC a:=⟨h.1.1,h.2.1⟩;have wb:WC b:=⟨h.1.2.1,h.2.2⟩;simp only[xP]at k;have T:=agz (c:=c) h;have A:=v w pa y m k.1 (by omega);have B:Z_ (∀(w':World) (q:Nat),aB [] w w'->TN w' q (left c a)->zF 127 #[aM q,aM pb] w' (zU w' (aG (left c a) b))):=λw' q d hq=>yP (left c a) b w' q pb hq (hb.aC d) (m.left c).1 wb.1 (by omega)
 have D:Z_ (∀(w':World),aB [] w w'->zF 131 #[aM pa] w' λe t=>e=zR (.bool (dK a))/\w'=t):=λw' d=>ajH a w' pa (y.aC d)
 have E:Z_ (dK a=true->∀(w':World),aB [] w w'->zF 104 #[aM pb,zI c] w' (zU w' (left c b))):=λg w' d=>u w' pb (hb.aC d) wb k.2.1 (a2i (agA h g) x)
 have C:Z_ (dK a=true->∀(w':World) (q r:Nat),TN w' q (aG (left c a) b)->TN w' r (left c b)->zF 128 #[aM q,aM r] w' (zU w' (iw (aG (left c a) b) (left c b)))):=by
  intro g w' q r hq U;have e:left c (.pair a b)=iw (aG (left c a) b) (left c b):=by simp only[left];rw[a0m g]
  exact SK _ _ w' q r hq U ((m.left c).then wb) (wb.left c) (by rw[<-e];exact x) (by rw[<-e];exact k.2.2)
 have s:Z_ (left c (.pair a b)=if dK a then iw (aG (left c a) b) (left c b) else aG (left c a) b):=by show _=_;simp only[left]
 have l:Z_ (∀w',aB [] w w'->zC w' p 257 (aM pa)):=λw' d=>(d.cell (p:=(zB p 257)) (bY z) (by simp)).trans z
 have i:Z_ (∀w',aB [] w w'->zC w' p 258 (aM pb)):=λw' d=>(d.cell (p:=(zB p 258)) (bY f) (by simp)).trans f
 unfold aM at z A B D E C l i |-;clear I y hb h m wb x k T f;delta zF;go_in
 go_wp2_with fail
 refine A.mono ?_;rintro e G ⟨q,rfl,j,F⟩;have J:=B.o G q F j;have f:=i.o G F;clear j A B;unfold aM;go_wp2_with fail
 refine J.mono ?_;rintro e n ⟨H,rfl,L,d⟩;have F2:=F.trans d;have W:=l.o n F2;have V:=i.o n F2;have Y:=D.o n F2;clear d J F D;unfold aM;go_wp2_with fail
 refine Y.mono ?_;rintro e w3 ⟨rfl,rfl⟩;cases g:dK a
 case false=>rw[g]at s;go_wp2;go_ret;rw[s.o];exact⟨H,rfl,L,F2⟩
 case true =>
  rw[g]at s;have O:=E.o g n F2;have N:=C.o g;clear E C;go_wp2_with fail
  refine O.mono ?_;rintro e P ⟨S,rfl,j,d⟩;have M:=N P H S (L.aC d) j;have F4:=F2.trans d;clear j d O N;unfold aM;go_wp2_with fail
  refine M.mono ?_;rintro e Z ⟨R,rfl,X,d⟩;have F5:=F4.trans d;clear d M;unfold aM;go_wp2;go_ret;rw[s.o];exact⟨R,rfl,X,F5⟩
def apw {xs a:List NF}(d:∀x∈xs,WC x)(c:∀x∈a,WC x):nl (bQ xs)<=nl (bQ (xs++a))/\np (bQ xs)<=np (bQ (xs++a)):=by
 have b:WC (bQ xs):=WC.bQ d;have e:=Ri (UK:=xs) (bs:=a) (λx h=>(d x h).1) (λx h=>(c x h).1);have f:∀x∈bQ xs::a,wf x:=by
  intro x h;rcases a0l.1 h with rfl|h
  .exact b.1
  exact(c x h).1
 rw[<-e];exact⟨or_mono f (by simp) b.2,MH f (by simp) b.2⟩
def Kw(c:Nat)(l:List NF)(j:Nat):NF:=bQ ((l.take j).map (left c))
def ajR {c:Nat}(a:∀x∈l,WC x)(h:l[j]?=some y):Kw c l (j+1)=iw (Kw c l j) (left c y):=by
 unfold Kw;have e:∀x∈(l.take j).map (left c),wf x:=by intro x d;obtain⟨z,hz,rfl⟩:=a0q.1 d;exact((a z (a3h hz)).left c).1
 have b:=((a y (a0B h)).left c).1;rw[a1c,h,a0P];exact(Ri e (bs:=[left c y]) (by simp;exact b)).symm
def apx {c:Nat}(b:∀x∈l,WC x)(j:Nat):WC (Kw c l j):=by refine WC.bQ ?_;intro x a;obtain⟨z,hz,rfl⟩:=a0q.1 a;exact(b z (a3h hz)).left c
def apy {c:Nat}(b:∀x∈l,WC x)(j:Nat):nl (Kw c l j)<=nl (left c (.sum l))/\np (Kw c l j)<=np (left c (.sum l)):=by
 have e:left c (.sum l)=bQ ((l.take j).map (left c)++(l.drop j).map (left c)):=by simp only[left];rw[fP,<-a0P,a1C]
 rw[e];refine apw ?_ ?_
 .intro x a
  obtain⟨z,hz,rfl⟩:=a0q.1 a;exact(b z (a3h hz)).left c
 intro x a;obtain⟨z,hz,rfl⟩:=a0q.1 a;exact(b z (a1f hz)).left c
theorem amV {c:Nat}:Kw c l l.length=left c (.sum l):=by unfold Kw;simp only[left];rw[fP,a0C (a0b _)]
def apz {c:Nat}(b:∀x∈l,WC x)(a:y∈l):nl (left c y)<=nl (left c (.sum l)):=by simp only[left];rw[fP];refine or_mono ?_ (a0q.2 ⟨y,a,rfl⟩) ((b y a).left c).2;intro x d;obtain⟨z,hz,rfl⟩:=a0q.1 d;exact((b z hz).left c).1
def ar4(h:WC (.sum l)):∀x∈l,WC x:=λx a=>⟨kJ.1 h.1.1 x a,wM.1 h.2.1 x a⟩
def ar5(c:Nat)(l:List NF)(hc:c<256)(Y:∀y∈l,Vh c y):Vh c (.sum l):=by
 intro w p ht G m S;have k0:=ht.kd;simp only[j5]at k0;simp only[TN]at ht;obtain⟨v,ps,I,Z,R⟩:=ht;obtain⟨_,_,A,_⟩:=I.ends;obtain⟨P,av,n,cap,rfl,a,Fz,_,HC⟩:=Z;have hlen:=R.len;rw[a0y]at a P;have U:n=l.length:=a.trans hlen;subst U;simp only[xP]at m;have h:=ar4 G;have FL:=adp m.1;have NP:=m.2;rw[hlen]at P;have C:∀w',aB [] w w'->zC w' p 259 (.slice av l.length cap):=λw' u=>(u.cell (p:=(zB p 259)) (bY A) (by simp)).trans A
 have O:=oQ w;unfold aM;clear I a hlen G m A;delta zF;go_in
 go_wp2_with fail
 refine O.mono ?_;rintro e w1 ⟨X,rfl,M,F1⟩;clear O;unfold aM;go_wp2_with fail
 go_loopg [9,10] l.length (λk v9 t wr=>∃(j q:Nat),j+k=l.length/\t=zI j/\v9=zP q/\TN wr q (Kw c l j)/\aB [] w wr)
 exact⟨0,X,by omega,rfl,rfl,M,F1⟩
 .clear M F1;obtain⟨j,q,lU,rfl,rfl,Q,F⟩:=hrel;have c59:=C wr F
  by_cases hj:j<l.length
  .obtain⟨y,i⟩:∃y,l[j]?=some y:=⟨l[j],a0a hj⟩
   have f:=a0B i;obtain⟨r,H,E⟩:=R.get j y i;obtain⟨g,rfl,d⟩:=HC j (aM r) (by rw[a0Q,H];rfl);have aO:=(F.cell (p:=(zB g j)) (bY d) (by simp)).trans d;have o:=h y f;have D:=Y y f wr r (E.aC F) o (FL y f) (a2i (apz h f) S);have x:=ajR (c:=c) h i;have b:=apy (c:=c) h (j+1);have B:∀(w':World) (s:Nat),aB [] wr w'->TN w' s (left c y)->zF 128 #[aM q,aM s] w' (zU w' (iw (Kw c l j) (left c y))):=by
    intro w' s u hs;refine SK _ _ w' q s (Q.aC u) hs (apx h j) (o.left c) ?_ ?_
    .rw[<-x];exact a2i b.1 S
    rw[<-x];exact a0h b.2 NP
   have hji:(j:Int)<(l.length:Int):=by omega
   unfold aM at aO D B;clear d H E i f o b;go_wp2_with fail
   refine D.mono ?_;rintro e T ⟨s2,rfl,J,z⟩;have N:=B T s2 z J;have F2:=F.trans z;clear J z D B;unfold aM;go_wp2_with fail
   refine N.mono ?_;rintro e w3 ⟨V,rfl,P3,L⟩;have F3:=F2.trans L;clear L N;unfold aM;go_wp2;go_roundg (gk-1);exact⟨j+1,V,by omega,by go_num,rfl,by rw[x];exact P3,F3⟩;omega
  have W:j=l.length:=by omega
  have HL:Kw c l j=left c (.sum l):=by rw[W,amV]
  rw[HL]at Q;go_wp2;go_ret;exact⟨q,rfl,Q,F⟩
def afe(c:Nat)(e:c<256)(x:NF):Vh c x:=by
 refine NF.ind (P:=Vh c) ?_ x;intro x d;cases x with
 | zero=>exact(ag8 c).1
 | one=>exact(ag8 c).2
 | set s=>exact ar3 c s e
 | star a=>exact apu c a e (d a (by simp[NF.size]))
 | pair a b=>exact apv c a b e (d a (by simp[NF.size];omega)) (d b (by simp[NF.size];omega))
 | sum l=>exact ar5 c l e (λy f=>d y (by have:=dx f;simp[NF.size];omega))
def amW(f:WC X)(p:X.size*dZ X<=524800) {u:LN}(o:u.length<=40)(c:Nat)(g:NF):(dF g=true\/g=.one\/sV X u g)->xP c g:=by
 refine NF.ind (P:=λg=>(dF g=true\/g=.one\/sV X u g)->xP c g) ?_ g;intro g j h;have e:=ao2 (c:=c) f p o h;cases g with
 | zero=>simp only[xP]
 | one=>simp only[xP]
 | set s=>simp only[xP]
 | pair a b =>
   have d:sV X u (.pair a b):=by grind [dF]
   simp only[xP];exact⟨j a (by simp[NF.size];omega) (.inr (.inr (Zs f.1 d))),j b (by simp[NF.size];omega) (.inr (.inr (Pw f.1 d))),e⟩
 | star a =>
   have d:sV X u (.star a):=by grind [dF]
   simp only[xP];exact j a (by simp[NF.size]) (.inr (.inr (Zt f.1 d)))
 | sum l =>
   have d:sV X u (.sum l):=by grind [dF]
   simp only[xP];refine⟨?_,e⟩;have key:∀i:List NF,(∀y∈i,y∈l)->aay c i:=by
    intro i
    induction i with
    | nil=>intro _;simp only[aay]
    | cons y r k=>intro m;have n:=m y (by simp);simp only[aay];refine⟨j y (by have:=dx n;simp[NF.size];omega) (Zu f.1 d n),k (λz hz=>m z (by simp[hz]))⟩
   exact key l (λ_ h=>h)
def apA(x:NF):nl x+1<=515*x.size:=by
 refine NF.ind (P:=λx=>nl x+1<=515*x.size) ?_ x;intro x d;cases x with
 | zero=>simp[nl,name,NF.size]
 | one=>simp[nl,name,NF.size]
 | set s=>have:=YO s;simp only[NF.size];omega
 | pair a b=>have g:=d a (by simp[NF.size];omega);have i:=d b (by simp[NF.size];omega);rw[Fb];simp only[NF.size];omega
 | star a=>have g:=d a (by simp[NF.size]);rw[ZE];simp only[NF.size];omega
 | sum l =>
   have key:∀c:List NF,(∀y∈c,y∈l)->sW c<=515*bP c:=by
    intro c
    induction c with
    | nil=>intro _;simp[sW,bP]
    | cons y r e=>intro f;have g:=d y (by have:=dx (f y (by simp));simp[NF.size];omega);have i:=e (λz hz=>f z (by simp[hz]));rw[Ca];simp only[bP];omega
   have:=key l (λ_ h=>h);rw[MF];simp only[NF.size];omega
def GT(t:TR):Prop:=∃e,tL e/\uO e/\dI e<=40/\jX e<=40/\gW e=t
def Et.sz(h:Et x p t):x.size<=1+2*p*(t+1):=by
 by_cases a:p=0
 .rw[h.2.1 a];simp[NF.size]
 have:=(h.2.2 (by omega)).sz;omega
theorem GT.bd {t:TR}(h:GT t):∃p u,p<=40/\u<=40/\Et (dJ t) p u/\(1<=p->1<=u):=by obtain⟨e,b,d,a,c,rfl⟩:=h;refine⟨mh e,jX e,by rw[rZ a];exact a,c,?_,J9⟩;rw[Fj e b];exact rF b
theorem Kz:∀(a b:List RX),bV (a++b)=bV a+bV b
 | [],b=>by simp[bV]
 | x::a,b=>by simp only[a0L,bV,Kz a b];omega
def EG(e:RX):Prop:=tL e/\uO e/\dI e<=40/\jX e<=40
def EG.seq {l:List RX} {x:RX}(h:EG (.seq (l++[x]))):EG (.seq l)/\EG x:=by
 obtain⟨f,e,d,c⟩:=h;have b:=Bv.1 (show jm (l++[x]) from f);have a:=By.1 (show mZ (l++[x]) from e);simp only[dI,Kz]at d;simp only[jX,Bw]at c;have i:bV [x]=dI x:=by simp[bV]
 have g:gu [x]=jX x:=by simp[gu]
 exact⟨⟨b.1,a.1,by simp only[dI];omega,by simp only[jX];omega⟩,b.2.1,a.2.1,by omega,by omega⟩
def EG.av5 {x:RX}(h:EG (.alt [x])):EG x:=by
 obtain⟨c,b,d,a⟩:=h;refine⟨c.1.1,b.1,?_,?_⟩
 .grind [dI,bV]
 simp[jX,gu]at a;omega
def EG.alt {l:List RX} {x:RX}(a:l≠[])(h:EG (.alt (l++[x]))):EG (.alt l)/\EG x:=by
 obtain⟨g,f,e,d⟩:=h;have c:=Bv.1 (show jm (l++[x]) from g.1);have b:=By.1 (show mZ (l++[x]) from f);simp only[dI,Kz]at e;simp only[jX,Bw,a0p,a0r,a1e]at d;have k:bV [x]=dI x:=by simp[bV]
 have j:gu [x]=jX x:=by simp[gu]
 have i:1<=l.length:=a1O.2 a;exact⟨⟨⟨c.1,a⟩,b.1,by simp only[dI];omega,by simp only[jX];omega⟩,c.2.1,b.2.1,by omega,by omega⟩
def EG.rep {x:RX} {lo:Nat}(h:EG (.rep x lo hi)):EG x/\lo<=9/\(∀n,hi=some n->n<=9)/\(∀n,hi=some n->lo<=n):=by
 obtain⟨b,a,e,d⟩:=h;have c:dI x<=40:=by grind [dI]
 exact⟨⟨b.1,a.1,c,by simp only[jX]at d;omega⟩,a.2.1,a.2.2,b.2⟩
def GT.of {e:RX}(h:EG e):GT (gW e):=⟨e,h.1,h.2.1,h.2.2.1,h.2.2.2,rfl⟩
def EG.inv:∀(n:Nat) (e:RX),SizeOf.sizeOf e<=n->EG e ->
 (∀a b,gW e=.both a b->GT a/\GT b)/\(∀a b,gW e=.either a b->GT a/\GT b)/\(∀a lo hi,gW e=.often a lo hi->GT a/\lo<=9/\(∀n,hi=some n->n<=9)/\(∀n,hi=some n->lo<=n))
 | 0,e,c,_=>by cases e<;>simp at c
 | n+1,.one s,_,_=>by simp[gW]
 | n+1,.rep x lo hi,_,h=>by refine⟨by simp[gW],by simp[gW],?_⟩;intro a g i e;simp only[gW,TR.often.injEq]at e;obtain⟨rfl,rfl,rfl⟩:=e;have:=h.rep;exact⟨GT.of this.1,this.2⟩
 | n+1,.seq l,_,h=>by
   rcases List.eq_nil_or_concat l with rfl|⟨f,x,rfl⟩
   .simp[gW,Ag]
   rw[List.concat_eq_append]at h |-;rw[agK];have:=h.seq;refine⟨?_,by simp,by simp⟩;intro a b e;simp only[TR.both.injEq]at e;obtain⟨rfl,rfl⟩:=e;exact⟨GT.of this.1,GT.of this.2⟩
 | n+1,.alt l,c,h=>by
   rcases List.eq_nil_or_concat l with rfl|⟨f,x,rfl⟩
   .exact absurd rfl h.1.2
   rw[List.concat_eq_append]at h c |-
   by_cases d:f=[]
   .subst d
    simp only[a0V]at h c |-;rw[ac4];exact EG.inv n x (by simp at c;omega) h.av5
   rw[agL d];have:=h.alt d;refine⟨by simp,?_,by simp⟩;intro a b e;simp only[TR.either.injEq]at e;obtain⟨rfl,rfl⟩:=e;exact⟨GT.of this.1,GT.of this.2⟩
def GT.both{b:TR}(h:GT (.both a b)):GT a/\GT b:=by obtain⟨e,i,g,f,d,c⟩:=h;exact(EG.inv _ e (a0b _) ⟨i,g,f,d⟩).1 a b c
def GT.either{b:TR}(h:GT (.either a b)):GT a/\GT b:=by obtain⟨e,i,g,f,d,c⟩:=h;exact(EG.inv _ e (a0b _) ⟨i,g,f,d⟩).2.1 a b c
def GT.often {lo:Nat}(h:GT (.often a lo hi)):GT a/\lo<=9/\(∀n,hi=some n->n<=9)/\(∀n,hi=some n->lo<=n):=by obtain⟨e,g,f,d,c,b⟩:=h;exact(EG.inv _ e (a0b _) ⟨g,f,d,c⟩).2.2 a lo hi b
theorem GT.wc {t:TR}(h:GT t):WC (dJ t):=by obtain⟨p,u,_,_,a,_⟩:=h.bd;exact a.1
def Et.few(h:Et x p u)(b:p<=1000)(a:u<=1000):nl x<9223372036854775807/\np x<=1000000000000:=by have f:=h.sz;have e:=apA x;have d:=ZY x;have c:2*p*(u+1)<=2000*1001:=a0D (by omega) (by omega);omega
theorem Qj(a:NF):∀(j:Nat) (t:NF),dG a (j+1) t=iw (aG a (dG a j t)) .one
 | 0,t=>rfl
 | j+1,t=>by have:=Qj a j (iw (aG a t) .one);exact this
theorem Cq(a:NF):∀(j:Nat) (t:NF),eQ a (j+1) t=aG a (eQ a j t)
 | 0,t=>rfl
 | j+1,t=>Cq a j (aG a t)
def ajS(lo:Nat)(hi:Option Nat):iV lo hi<=10:=by cases hi<;>simp only[iV]<;>(repeat' split)<;>omega
theorem GT.one {s:Nat}(h:GT (.one s)):s<2 ^ 256:=by
 have:=h.wc.1;simp only[dJ]at this
 split at this
 .rename_i a;rw[a];decide
 exact this.2
def KE {a:NF}(d:p<=40)(g:u<=40)(h:Et a p u)(b:1<=p->1<=u)(lo:Nat)(hi:Option Nat)(f:lo<=20)(c:∀n,hi=some n->n<=20/\lo<=n) :
 WC (kD a lo hi)/\nl (kD a lo hi)<9223372036854775807/\np (kD a lo hi)<=1000000000000:=by
 have hb:=aeY h b lo hi (λn e=>(c n e).2);have ht:times lo hi<=21:=by
  cases hi with
  | none=>simp only[times];omega
  | some n=>have:=c n rfl;simp only[times];omega
 have i:p*times lo hi<=40*21:=a0D d ht;have ho:=ajS lo hi;exact⟨hb.1,hb.few (by omega) (by omega)⟩
def ajT {a:NF}(d:p<=40)(c:u<=40)(h:Et a p u)(b:1<=p->1<=u)(j:Nat)(f:j<=19) :
 nl (aG a (dG a j .one))<9223372036854775807:=by
 have e:aG a (dG a j .one)=kD a 1 (some (1+j)):=by simp[kD,eQ]
 rw[e];exact(KE d c h b 1 (some (1+j)) (by omega) (λn e=>by simp at e;omega)).2.1
def Vi(t:TR):Prop:=∀(w:World) (p:Nat),RN w p t->GT t->zF 103 #[aM p] w (zU w (dJ t))
def ar6:Vi .nil:=by
 intro w p h b;have c0:=RK.c0 h;have N:=wO w;unfold aM;clear h;delta zF;go_in
 go_wp2_with fail
 refine N.mono ?_;rintro e a ⟨q,rfl,P,F⟩;clear N;unfold aM;go_wp2;go_ret;exact⟨q,rfl,P,F⟩
def ar7(s:Nat):Vi (.one s):=by
 intro w p h a;have c0:=RK.c0 h;have N:=SG p 1 s w (λi hi=>RK.cin h i _ (Ib s i hi)) a.one;unfold aM;clear h;delta zF;go_in
 go_wp2_with fail
 refine N.mono ?_;rintro e b ⟨q,rfl,P,F⟩;clear N;unfold aM;go_wp2;go_ret;exact⟨q,rfl,P,F⟩
def apB(x y:TR)(f:Vi x)(d:Vi y):Vi (.both x y):=by
 intro w p h i;obtain⟨a,b,g,n,m⟩:=h;have c0:=g.c0;obtain⟨ca,cb,_⟩:=g.ends;obtain⟨k,j⟩:=i.both;have A:=f w a n k;obtain⟨I,u1,L,J,t,E⟩:=i.bd;have u:=(t.few (by omega) (by omega)).1;have v:∀(w':World) (q r:Nat),TN w' q (dJ x)->TN w' r (dJ y)->zF 127 #[aM q,aM r] w' (zU w' (dJ (.both x y))):=λw' q r hq D=>yP (dJ x) (dJ y) w' q r hq D k.wc.1 j.wc.1 u
 have B:∀w',aB [] w w'->zF 103 #[aM b] w' (zU w' (dJ y)):=λw' c=>d w' b (RN.aY (dX.nil c) m) j
 have CB:∀w',aB [] w w'->zC w' p 258 (pq (some b)):=λw' c=>(c.cell (p:=(zB p 258)) (bY cb) (by simp)).trans cb
 unfold pq at ca CB;unfold aM at A v B |-;clear g n m k j i t E u cb;delta zF;go_in
 go_wp2_with fail
 refine A.mono ?_;rintro e l ⟨q,rfl,P,F⟩;have cb:=CB l F;have z:=B l F;clear A;unfold aM;go_wp2_with fail
 refine z.mono ?_;rintro e C ⟨r,rfl,o,c⟩;have T:=v C q r (P.aC c) o;have F2:=F.trans c;clear o c z;unfold aM;go_wp2_with fail
 refine T.mono ?_;rintro e H ⟨s,rfl,G,c⟩;have F3:=F2.trans c;clear c T;unfold aM;go_wp2;go_ret;exact⟨s,rfl,G,F3⟩
def ajU(x y:TR)(f:Vi x)(d:Vi y):Vi (.either x y):=by
 intro w p h i;obtain⟨a,b,g,o,n⟩:=h;have c0:=g.c0;obtain⟨ca,cb,_⟩:=g.ends;obtain⟨k,j⟩:=i.either;have A:=f w a o k;obtain⟨I,u1,L,J,u,E⟩:=i.bd;have l:=u.few (by omega) (by omega);have v:∀(w':World) (q r:Nat),TN w' q (dJ x)->TN w' r (dJ y)->zF 128 #[aM q,aM r] w' (zU w' (dJ (.either x y))):=λw' q r hq D=>SK (dJ x) (dJ y) w' q r hq D k.wc j.wc l.1 l.2
 have B:∀w',aB [] w w'->zF 103 #[aM b] w' (zU w' (dJ y)):=λw' c=>d w' b (RN.aY (dX.nil c) n) j
 have CB:∀w',aB [] w w'->zC w' p 258 (pq (some b)):=λw' c=>(c.cell (p:=(zB p 258)) (bY cb) (by simp)).trans cb
 unfold pq at ca CB;unfold aM at A v B |-;clear g o n k j i u E l cb;delta zF;go_in
 go_wp2_with fail
 refine A.mono ?_;rintro e m ⟨q,rfl,P,F⟩;have cb:=CB m F;have z:=B m F;clear A;unfold aM;go_wp2_with fail
 refine z.mono ?_;rintro e C ⟨r,rfl,t,c⟩;have T:=v C q r (P.aC c) t;have F2:=F.trans c;clear t c z;unfold aM;go_wp2_with fail
 refine T.mono ?_;rintro e H ⟨s,rfl,G,c⟩;have F3:=F2.trans c;clear c T;unfold aM;go_wp2;go_ret;exact⟨s,rfl,G,F3⟩
def apC(x:TR)(lo:Nat)(Y:Vi x):Vi (.often x lo none):=by
 intro w p h O;obtain⟨a,v,M⟩:=h;have c0:=v.c0;obtain⟨ca,_,d,f⟩:=v.ends;obtain⟨o,jU,_,_⟩:=O.often;obtain⟨p1,u1,S,R,B,z⟩:=o.bd;have A:=Y w a M o;have l:=o.wc;obtain⟨T,c⟩:∃T,iH (dJ x)=T:=⟨_,rfl⟩;have g:nl T<9223372036854775807:=by rw[<-c];exact(KE S R B z 0 none (by omega) (λn e=>by simp at e)).2.1
 have J:WC T:=by rw[<-c];exact l.star
 have H:∀(w':World) (q:Nat),TN w' q (dJ x)->zF 130 #[aM q] w' (zU w' T):=λw' q hq=>by rw[<-c];exact ajG _ w' q hq (by rw[c];exact g)
 have HR:dJ (.often x lo none)=eQ (dJ x) lo T:=by rw[<-c];rfl
 have E:∀j,j<lo->∀(w':World) (q r:Nat),TN w' q (dJ x)->TN w' r (eQ (dJ x) j T)->zF 127 #[aM q,aM r] w' (zU w' (eQ (dJ x) (j+1) T)):=by intro j N w' q r hq Z;rw[Cq];refine yP _ _ w' q r hq Z l.1 (J8 l j T J).1 ?_;rw[<-Cq,<-c];exact(KE S R B z (j+1) none (by omega) (λn e=>by simp at e)).2.1
 have I:∀w',aB [] w w'->zC w' p 259 (zI lo)/\zC w' p 260 (zI (-1)):=λw' b=>⟨(b.cell (p:=(zB p 259)) (bY d) (by simp)).trans d,(b.cell (p:=(zB p 260)) (bY f) (by simp)).trans f⟩
 unfold pq at ca;unfold aM at A H |-;clear v M o O B z l c d f J g;delta zF;go_in
 go_wp2_with fail
 refine A.mono ?_;rintro e W ⟨q,rfl,U,F1⟩;clear A;unfold aM;go_wp2_with fail
 refine(wO W).mono ?_;rintro e L ⟨pe,rfl,hp,b⟩;have D:=U.aC b;have F2:=F1.trans b;obtain⟨cl2,ch2⟩:=I L F2;have V:=H L q D;clear hp b U F1 H;unfold aM;go_wp2_with fail
 refine V.mono ?_;rintro e m ⟨ps,rfl,PT,i⟩;have FT:=F2.trans i;have Q:∀w',aB [] m w'->TN w' q (dJ x):=λw' y=>(D.aC i).aC y
 obtain⟨cl3,ch3⟩:=I m FT;clear V D F2;unfold aM;go_wp2_with fail
 go_loopg [8,9] 1 (λk t v9 wr=>k=1/\t=zP ps/\v9=zI lo/\m=wr)
 exact⟨rfl,rfl,rfl,rfl⟩
 case round =>
 obtain⟨hk1,rfl,rfl,rfl⟩:=hrel;have aL:decide ((lo:Int) < -1)=false:=a0f (by omega);go_wp2_with fail
 go_loopg [8,12] lo (λk t u wr=>∃(j pt:Nat),j+k=lo/\u=zI j/\t=zP pt/\TN wr pt (eQ (dJ x) j T)/\aB [] w wr/\aB [] m wr)
 exact⟨0,_,by omega,rfl,rfl,PT,FT,zK⟩
 .clear PT FT;obtain⟨j,pt,lU,rfl,rfl,P,F,G⟩:=hrel;obtain⟨cl,ch⟩:=I wr F
  by_cases N:j<lo
  .have C:=E j N wr q pt (Q wr G) P
   unfold aM at C;go_wp2_with fail
   refine C.mono ?_;rintro e w5 ⟨s,rfl,P5,b⟩;have F5:=F.trans b;have G5:=G.trans b;clear b C;unfold aM;go_wp2;go_roundg (gk-1);exact⟨j+1,s,by omega,by go_num,rfl,P5,F5,G5⟩;omega
  have X:j=lo:=by omega
  subst X;go_wp2;go_ret;rw[HR];exact⟨pt,rfl,P,F⟩
def apD(x:TR)(lo n:Nat)(ih:Vi x):Vi (.often x lo (some n)):=by
 intro w p h hg;obtain⟨a,I,hx⟩:=h;have c0:=I.c0;obtain⟨ca,_,i,l⟩:=I.ends;obtain⟨D,jU,u,KH⟩:=hg.often;have u:=u n rfl;have KH:=KH n rfl;obtain⟨p1,u1,M,L,C,B⟩:=D.bd;have A:=aj (ih w a hx D);have f:=D.wc;have HR:Z_ (dJ (.often x lo (some n))=eQ (dJ x) lo (dG (dJ x) (n-lo) .one)):=rfl;have W:Z_ (∀j,j<n-lo->∀(w':World) (q r:Nat),TN w' q (dJ x)->TN w' r (dG (dJ x) j .one)->zF 127 #[aM q,aM r] w' (zU w' (aG (dJ x) (dG (dJ x) j .one)))):=by
  intro j g w' q r hq t;exact yP _ _ w' q r hq t f.1 (E7 f j .one .one).1 (ajT M L C B j (by omega))
 have X:Z_ (∀j,j<n-lo->∀(w':World) (q r:Nat),TN w' q (aG (dJ x) (dG (dJ x) j .one))->TN w' r .one->zF 128 #[aM q,aM r] w' (zU w' (dG (dJ x) (j+1) .one))):=by
  intro j g w' q r hq t;rw[Qj];have b:=KE M L C B 0 (some (j+1)) (by omega) (λm e=>by simp at e;omega);have e:kD (dJ x) 0 (some (j+1))=iw (aG (dJ x) (dG (dJ x) j .one)) .one:=by rw[<-Qj];rfl
  rw[e]at b;exact SK _ _ w' q r hq t (f.then (E7 f j .one .one)) .one b.2.1 b.2.2
 have V:Z_ (∀j,j<lo->∀(w':World) (q r:Nat),TN w' q (dJ x)->TN w' r (eQ (dJ x) j (dG (dJ x) (n-lo) .one))->zF 127 #[aM q,aM r] w' (zU w' (eQ (dJ x) (j+1) (dG (dJ x) (n-lo) .one)))):=by
  intro j g w' q r hq t;rw[Cq];refine yP _ _ w' q r hq t f.1 (J8 f j _ (E7 f _ .one .one)).1 ?_;rw[<-Cq];have b:=KE M L C B (j+1) (some (j+1+(n-lo))) (by omega) (λm e=>by simp at e;omega);have e:kD (dJ x) (j+1) (some (j+1+(n-lo)))=eQ (dJ x) (j+1) (dG (dJ x) (n-lo) .one):=by
   simp only[kD];rw[show j+1+(n-lo)-(j+1)=n-lo by omega]
  rw[e]at b;exact b.2.1
 have Z:Z_ (∀w',aB [] w w'->zC w' p 259 (zI lo)/\zC w' p 260 (zI n)):=λw' b=>⟨(b.cell (p:=(zB p 259)) (bY i) (by simp)).trans i,(b.cell (p:=(zB p 260)) (bY l) (by simp)).trans l⟩
 unfold pq at ca;unfold aM at A |-;clear I hx D hg C B f i l;delta zF;go_in
 go_wp2_with fail
 refine(A.o).mono ?_;rintro e w1 ⟨q,rfl,d,b⟩;have P1:=aj d;have F1:=aj b;clear d b A;unfold aM;go_wp2_with fail
 refine(wO w1).mono ?_;rintro e y ⟨pe,rfl,d,b⟩;have P2:=aj (P1.o.aC b);have F2:=aj (F1.o.trans b);have E2:=aj d;obtain⟨cl2,ch2⟩:=Z.o y F2;have Q:Z_ (∀w',aB [] y w'->TN w' q (dJ x)):=λw' J=>P2.o.aC J
 clear d b P1 F1;unfold aM;go_wp2_with fail
 go_loopg [8,9] (n-lo) (λk E v9 wr=>∃(j c pt:Nat),j+k=n-lo/\c=lo+j/\v9=zI c/\E=zP pt/\TN wr pt (dG (dJ x) j .one)/\aB [] w wr/\aB [] y wr)
 case atStart=>exact⟨0,lo,pe,by omega,rfl,rfl,rfl,E2,F2,aB.refl _ _⟩
 case round =>
 clear E2 F2 P2;obtain⟨j,c,pt,lU,R,rfl,rfl,d,b,v⟩:=hrel;have P:=aj d;have F:=aj b;have G:=aj v;obtain⟨cl,ch⟩:=Z.o wr b;clear d b v
 by_cases g:j<n-lo
 .have PY:c<n:=by omega
  have O:=aj (W.o j g wr q pt (Q.o wr G) P);have U:=aj R;clear R;unfold aM at O;go_wp2_with fail
  refine(O.o).mono ?_;rintro e w3 ⟨s3,rfl,d,b⟩;have P3:=aj d;have F3:=aj (F.o.trans b);have G3:=aj (G.o.trans b);clear d b O;unfold aM;go_wp2_with fail
  refine(wO w3).mono ?_;rintro e w4 ⟨s4,rfl,d,b⟩;have T:=aj (X.o j g w4 s3 s4 (P3.o.aC b) d);have F4:=aj (F3.o.trans b);have G4:=aj (G3.o.trans b);clear d b;unfold aM at T |-;go_wp2_with fail
  refine(T.o).mono ?_;rintro e w5 ⟨s5,rfl,d,b⟩;have S:=aj d;have F5:=aj (F4.o.trans b);have Y:=aj (G4.o.trans b);clear d b T;unfold aM;go_wp2;go_roundg (gk-1)
  case measure=>omega
  case rel=>exact⟨j+1,c+1,s5,by omega,by have:=U.o;omega,by go_num,rfl,S,F5,Y⟩
 have z:j=n-lo:=by omega
 have PY:¬ c<n:=by omega
 have av6:decide ((c:Int)<(n:Int))=false:=a0f (by omega);rw[z]at P;clear R z g lU;go_wp2_with fail
 go_loopg [8,12] lo (λk E H wr=>∃(j pt:Nat),j+k=lo/\H=zI j/\E=zP pt/\TN wr pt (eQ (dJ x) j (dG (dJ x) (n-lo) .one))/\aB [] w wr/\aB [] y wr)
 case atStart=>exact⟨0,_,by omega,rfl,rfl,P,F,G⟩
 case round =>
  clear P F G cl ch;obtain⟨j,pt,lU,rfl,rfl,d,b,v⟩:=hrel;have P:=aj d;have F:=aj b;have G:=aj v;obtain⟨cl,ch⟩:=Z.o wr b;clear d b v
  by_cases g:j<lo
  .have N:=aj (V.o j g wr q pt (Q.o wr G) P)
   unfold aM at N;go_wp2_with fail
   refine(N.o).mono ?_;rintro e w5 ⟨s,rfl,d,b⟩;have S:=aj d;have F5:=aj (F.o.trans b);have Y:=aj (G.o.trans b);clear d b N;unfold aM;go_wp2;go_roundg (gk-1)
   case measure=>omega
   case rel=>exact⟨j+1,s,by omega,by go_num,rfl,S,F5,Y⟩
  have z:j=lo:=by omega
  subst z;go_wp2;go_ret;rw[HR.o];exact⟨pt,rfl,P,F⟩
def qU:∀t:TR,Vi t
 | .nil=>ar6
 | .one s=>ar7 s
 | .both x y=>apB x y (qU x) (qU y)
 | .either x y=>ajU x y (qU x) (qU y)
 | .often x lo none=>apC x lo (qU x)
 | .often x lo (some n)=>apD x lo n (qU x)
theorem MU(F:α->NF)(f:NF->Nat)(c:α->Nat):∀l:List α,(∀a∈l,((parts (F a)).map f).sum<=c a)->(((l.map F).flatMap parts).map f).sum<=(l.map c).sum
 | [],_=>by simp
 | a::r,h=>by have e:=h a (by simp);have d:=MU F f c r (λx b=>h x (by simp[b]));simp only[a0E,a1i,a0P,a1Y,a0Y];omega
theorem FU(e:α->Nat)(k:Nat):∀l:List α,(l.map λa=>e a*k).sum=(l.map e).sum*k
 | []=>by simp
 | a::r=>by simp only[a0E,a0Y,a0J,FU e k r]
theorem sum_add(e f:α->Nat):∀l:List α,(l.map λa=>e a+f a).sum=(l.map e).sum+(l.map f).sum
 | []=>by simp
 | a::r=>by simp only[a0E,a0Y,sum_add e f r];omega
theorem KP.bQ {l:List α} {F:α->NF} {t:α->Nat} {C E e:α->Nat->Nat}(i:∀a∈l,wf (F a))(h:∀a∈l,KP (F a) (t a) (C a) (E a) (e a)) :
 KP (bQ (l.map F)) (l.map t).sum (λn=>(l.map λa=>C a n).sum) (λn=>(l.map λa=>E a n).sum) (λn=>(l.map λa=>e a n).sum):=by
 have f:∀x∈l.map F,wf x:=λx g=>by obtain⟨a,b,rfl⟩:=a0q.1 g;exact i a b
 refine⟨?_,λn=>?_,λk n j=>?_⟩
 .exact a0h (DN f pn 514 (λy d=>by simp[pn,d])) (MU F pn t l λa b=>(h a b).t)
 .exact a0h (DN f (pc 0 n) 514 (λy d=>by simp[pc,d])) (MU F _ _ l λa b=>(h a b).c n)
 refine a0h (DN f (pc k n) (514+k) (λy d=>by simp[pc,d])) (a0h (MU F _ (λa=>E a n+e a n*k) l λa b=>(h a b).e k n j) ?_);rw[sum_add,FU];exact a0b _
def KP.or{Y:NF} {f d:Nat} {p m i o j g:Nat->Nat}(r:wf X)(q:wf Y)(v:KP X f p m i)(u:KP Y d o j g) :
 KP (iw X Y) (f+d) (λn=>p n+o n) (λn=>m n+j n) (λn=>i n+g n):=by
 have h:=KP.bQ (l:=[true,false]) (F:=λb=>if b then X else Y) (t:=λb=>if b then f else d) (C:=λb=>if b then p else o) (E:=λb=>if b then m else j) (e:=λb=>if b then i else g)
  (by intro a _;cases a;exact q;exact r) (by intro a _;cases a;exact u;exact v)
 have w:iw X Y=Go.Proofs.YtedmellodofajaaGreatDoor.bQ ([true,false].map λb=>if b then X else Y):=rfl;rw[w];refine⟨by simpa using h.t,λn=>by simpa using h.c n,λk n s=>by simpa using h.e k n s⟩
theorem KP.one:KP .one 2 (λ_=>0) (λ_=>0) (λ_=>0):=by refine⟨by simp[parts,pn,dF,nl,name],λn=>by simp[parts,pc,dF,oG,hG],λk n _=>by simp[parts,pc,dF,oG,hG]⟩
theorem KP.zero:KP .zero 0 (λ_=>0) (λ_=>0) (λ_=>0):=by refine⟨by simp[parts],λn=>by simp[parts],λk n _=>by simp[parts]⟩
theorem KP.set(s:Nat):KP (.set s) 514 (λ_=>514) (λ_=>514) (λ_=>1):=by refine⟨by simp[parts,pn,dF],λn=>by simp[parts,pc,dF],λk n _=>by simp[parts,pc,dF]⟩
def KP.of {C E e:Nat->Nat}(h:zL X t C E e)(d:gF X=true\/∃a,X=.star a):KP X (t+1) C E e:=by
 have b:parts X=[X]/\dF X=false:=by
  rcases d with d|⟨a,rfl⟩
  .cases X<;>simp[gF]at d;exact⟨rfl,rfl⟩
  exact⟨rfl,rfl⟩
 have ht:=h.t;refine⟨?_,λn=>?_,λk n f=>?_⟩
 .grind [pn]
 .rw[b.1];simpa[pc,b.2] using h.c n
 rw[b.1];simpa[pc,b.2] using h.e k n f
theorem KP.mono{a:Nat} {C E e f d b:Nat->Nat}(h:KP X t C E e)(ht:t<=a)(hC:∀n,C n<=f n)(hE:∀n,E n<=d n)(he:∀n,e n<=b n):KP X a f d b :=
 ⟨a0h h.t ht,λn=>a0h (h.c n) (hC n),λk n g=>a0h (h.e k n g) (a2Y (hE n) (a0z k (he n)))⟩
def hh:Nat->Nat->Nat
 | 0,_=>1
 | k+1,n=>hh k n+sumTo (hh k) n
theorem YQ:∀k n,1<=hh k n
 | 0,_=>a0b _
 | k+1,n=>by have:=YQ k n;simp only[hh];omega
theorem ag9(f:Nat->Nat):∀{n},1<=n->f n<=sumTo f n
 | 0,h=>by omega
 | n+1,_=>by simp only[sumTo];omega
def ar8(k:Nat)(a:1<=n):2*hh k n<=hh (k+1) n:=by grind [ag9,hh]
def SV(k:Nat)(a:1<=n):∀j,2 ^ j*hh k n<=hh (k+j) n
 | 0=>by simp
 | j+1=>by have c:=SV k a j;have b:=ar8 (k+j) a;rw[Nat.pow_succ,show k+(j+1)=k+j+1 by omega,Nat.mul_right_comm];omega
theorem ar9(n:Nat):hh 1 n=n+1:=by have:=oO 1 n;simp only[hh];omega
def aff{a:Nat}(b:1<=n)(h:k<=a):hh k n<=hh a n:=by obtain⟨j,rfl⟩:∃j,a=k+j:=⟨a-k,by omega⟩;have d:=SV k b j;have c:1<=2 ^ j:=Nat.one_le_two_pow;have:=a0z (hh k n) c;omega
def asa {C:Nat->Nat}{a:Nat}(h:∀n,1<=n->C n<=a*hh k n)(n:Nat):sumTo C n+a*hh k n<=a*hh (k+1) n:=by
 have b:sumTo C n<=sumTo (λj=>a*hh k j) n:=qJ λj b _=>h j b
 have d:∀n,sumTo (λj=>a*hh k j) n=a*sumTo (hh k) n:=by
  intro n
  induction n with
  | zero=>simp[sumTo]
  | succ n c=>simp only[sumTo,c,a1A]
 rw[d]at b;simp only[hh,a1A];omega
def atd:LN:=[0,1,4,10,18,28,40,54,72,100,112,123,180,193,216,280,324,341,400,419,504,540,562,586,720,784,810,1000,1028,1058,1120,1151,1296,1329,1364,1512,1800,1837,1876,1930,2016]
def dS(p:Nat):Nat:=atd.getD p 0
theorem aha(b:1<=p)(hq:1<=q)(h:p+q<=40):dS p+dS q+p*q<=dS (p+q):=by
 have:((List.range 41).all λp=>(List.range 41).all λq=>!(decide (p+q<=40))||decide (dS p+dS q+p*q<=dS (p+q)))=true:=by decide +kernel
 have a:=a1d.1 (a1d.1 this p (by simp;omega)) q (by simp;omega);simp only[a1a,a1j,a1g,a0U]at a;rcases a with a|a
 .exact absurd h a
 exact a
def apE(e:1<=p)(c:2<=N)(b:N<=10)(h:N*p<=40):(N*N+N-2)*dS p<=dS (N*p):=by
 have:((List.range 41).all λp=>(List.range 11).all λN=>!(decide (2<=N/\N*p<=40))||decide ((N*N+N-2)*dS p<=dS (N*p)))=true:=by decide +kernel
 have d:p<=40:=a0h (a1q p (by omega)) h;have a:=a1d.1 (a1d.1 this p (by simp;omega)) N (by simp;omega);simp only[a1a,a1j,a1g,a0U]at a;rcases a with a|a
 .exact absurd ⟨c,h⟩ a
 exact a
def YR(h:p<=40):p*p<=dS p:=by
 have:((List.range 41).all λp=>decide (p*p<=dS p))=true:=by decide +kernel
 have a:=a1d.1 this p (by simp;omega);simpa using a
theorem auM:hh 10 40=47573905428:=by decide +kernel
def lg(p:Nat):Nat:=Nat.log2 p
def apF(b:1<=p)(h:p<=40):2 ^ lg p<=p/\p<2 ^ (lg p+1):=by
 have:((List.range 41).all λp=>!(decide (1<=p))||decide (2 ^ lg p<=p/\p<2 ^ (lg p+1)))=true:=by decide +kernel
 have a:=a1d.1 this p (by simp;omega);simp only[a1a,a1j,a1g,a0U]at a;rcases a with a|a
 .exact absurd b a
 exact a
def afg(h:p+q<=40):lg p<=lg (p+q):=by
 have:((List.range 41).all λp=>(List.range 41).all λq=>!(decide (p+q<=40))||decide (lg p<=lg (p+q)))=true:=by decide +kernel
 have a:=a1d.1 (a1d.1 this p (by simp;omega)) q (by simp;omega);simp only[a1a,a1j,a1g,a0U]at a;rcases a with a|a
 .exact absurd h a
 exact a
def afh(b:1<=p)(c:2<=N)(h:N*p<=40):lg p+1<=lg (N*p):=by
 have:((List.range 41).all λp=>(List.range 41).all λN=>!(decide (1<=p/\2<=N/\N*p<=40))||decide (lg p+1<=lg (N*p)))=true:=by decide +kernel
 have e:p<=40:=a0h (a1q p (by omega)) h;have d:N<=40:=a0h (a2r N (by omega)) h;have a:=a1d.1 (a1d.1 this p (by simp;omega)) N (by simp;omega);simp only[a1a,a1j,a1g,a0U]at a;rcases a with a|a
 .exact absurd ⟨b,c,h⟩ a
 exact a
def L1(p b n:Nat):Nat:=if b+lg p=0 then 1 else n+1
theorem Iv(p b n:Nat):1<=L1 p b n:=by unfold L1;split<;>omega
def ajV(p b:Nat)(c:1<=n):L1 p b n*2 ^ lg p<=2*hh (b+lg p) n:=by
 unfold L1
 split
 .grind [lg,YQ]
 rename_i h
 obtain⟨j,d⟩:∃j,b+lg p=1+j:=⟨b+lg p-1,by omega⟩;have a:=SV 1 c j;rw[ar9]at a;rw[d];have e:2 ^ lg p<=2*2 ^ j:=by rw[a1b,<-Nat.pow_succ];exact a1r (by omega) (by omega)
 calc (n+1)*2 ^ lg p<=(n+1)*(2*2 ^ j):=a0o _ e
  _=2*(2 ^ j*(n+1)):=by rw[a1b (n+1),a0Z]
  _<=2*hh (1+j) n:=a0o _ a
def Rb(p b w n:Nat):Nat:=964*w*dS p*hh (b+lg p) n
def tails{y:Nat}(f:1<=p)(h:p<=40)(a:1<=n)(ht:t<=964*p) {e:Nat}(he:e<=p*y*L1 p b n):e*t*2 ^ lg p<=Rb p b (2*y) n:=by
 have d:=ajV p b a;have c:=YR h
 calc e*t*2 ^ lg p<=(p*y*L1 p b n)*(964*p)*2 ^ lg p:=a0z _ (a0D he ht)
  _=964*y*(p*p)*(L1 p b n*2 ^ lg p):=by simp only[a1b,a1y,a0Z]
  _<=964*y*dS p*(2*hh (b+lg p) n):=a0D (a0o _ c) d
  _=Rb p b (2*y) n:=by unfold Rb;simp only[a1b,a1y,a0Z]
theorem SX(p b w v n:Nat):Rb p b w n+Rb p b v n=Rb p b (w+v) n:=by unfold Rb;simp only[a1A,a0J]
def vD{v:Nat}(h:w<=v):Rb p b w n<=Rb p b v n:=by unfold Rb;exact a0z _ (a0z _ (a0o _ h))
structure Pt(X:NF)(p b m w:Nat)(t:Nat)(C E e:Nat->Nat):Prop where
 kp:KP X t C E e
 ht:t+10<=p*(524+10*(m+b))
 he:∀n,e n+(if jK X then 1+(if rG X then n else 0) else 0)<=p*(1+m+b)*L1 p b n
 hC:∀n,1<=n->C n*2 ^ lg p<=Rb p b w n
 hE:∀n,1<=n->(t+3+E n+(if rG X then sumTo (λj=>C j+519) n else 0))*2 ^ lg p<=Rb p b w n
 br:rG X=true->1<=b+lg p
theorem Pt.set(s:Nat):Pt (.set s) 1 0 0 2 514 (λ_=>514) (λ_=>514) (λ_=>1):=by
 refine⟨KP.set s,by omega,λn=>?_,λn c=>?_,λn c=>?_,λh=>by simp[rG]at h⟩
 .simp[Iv,jK]
 .have b:lg 1=0:=by decide +kernel
  have a:dS 1=1:=by decide +kernel
  unfold Rb;rw[b,a];simp[hh]
 have b:lg 1=0:=by decide +kernel
 have a:dS 1=1:=by decide +kernel
 unfold Rb;rw[b,a];simp[hh,rG]
theorem Pt.star {C E e:Nat->Nat}(h:Pt X p b m w t C E e)(i:1<=p)(z:p<=40)(M:m+b<=43)(hz:X≠.zero) :
 ∃A J,Pt (.star X) p b (m+1) (w+2*(m+b)+8) (t+4) A A J:=by
 have hb:=h.br;have o:∃tk,tk<=t+2/\zL X tk C (λn=>t+3+E n+(if rG X then if gF X then 0 else sumTo (λj=>C j+519) n else 0)) (λn=>e n+(if jK X then 1+(if rG X then n else 0) else 0)):=by
  cases d:jK X
  .refine⟨t,by omega,(h.kp.plain d hz).mono (a0b _) (λ_=>a0b _) (λn=>by omega) (λn=>by simp)⟩
  cases X with
  | sum l =>
    refine⟨t+2,by omega,h.kp.sum.mono (a0b _) (λ_=>a0b _) (λn=>?_) (λn=>?_)⟩
    .simp[rG,gF]
    show 1+e n+(if JE l=true then n else 0)<=e n+(1+(if JE l=true then n else 0));omega
  | zero=>simp[jK]at d
  | one=>simp[jK]at d
  | set s=>simp[jK]at d
  | pair a c=>simp[jK]at d
  | star a=>simp[jK]at d
 obtain⟨tk,D,o⟩:=o;have G:=o.star
 let F:Nat->Nat:=λn=>t+3+E n+(if rG X then sumTo (λj=>C j+519) n else 0)
 let y:Nat->Nat:=λn=>e n+(if jK X then 1+(if rG X then n else 0) else 0)
 refine⟨λn=>F n+(y n+1+(if gF X then n else 0))*(t+6),λn=>1+y n+(if gF X then n else 0),?_⟩;have B:∀n,1+y n+(if gF X then n else 0)<=p*(1+(m+1)+b)*L1 p b n:=by
  intro n;have u:=h.he n;have r:1+(if gF X then n else 0)<=p*L1 p b n:=by
   have q:L1 p b n<=p*L1 p b n:=a1q _ i;refine a0h ?_ q
   by_cases f:gF X=true
   .have:rG X=true:=by cases X<;>simp[gF]at f;rfl
    have:=hb this;simp only[f,a0G];unfold L1;rw[a0n (by omega)];omega
   grind [Iv]
  have v:p*(1+(m+1)+b)*L1 p b n=p*(1+m+b)*L1 p b n+p*L1 p b n:=by grind
  rw[v];show 1+(e n+(if jK X then 1+(if rG X then n else 0) else 0))+(if gF X then n else 0)<=_;omega
 have g:∀n,tk+2+(t+3+E n+(if rG X then if gF X then 0 else sumTo (λj=>C j+519) n else 0))+(y n)*(tk+4)+(if gF X then sumTo (λj=>C j+(tk+523)) n else 0)<=F n+(y n+1+(if gF X then n else 0))*(t+6):=by
  intro n;have u:y n*(tk+4)<=y n*(t+6):=a0o _ (by omega)
  by_cases f:gF X=true
  .have x:rG X=true:=by cases X<;>simp[gF]at f;rfl
   have r:sumTo (λj=>C j+(tk+523)) n=sumTo (λj=>C j+519) n+n*(tk+4):=by rw[<-oO (tk+4) n,<-yJ];congr 1;funext j;omega
   have q:n*(tk+4)<=n*(t+6):=a0o _ (by omega);simp only[F,f,x,a0G,r,a0J];omega
  grind
 have H:∀n,1<=n->(t+4+3+(F n+(y n+1+(if gF X then n else 0))*(t+6)))*2 ^ lg p<=Rb p b (w+2*(m+b)+8) n:=by
  intro n k;have ht:=h.ht;have L:t+10<=964*p:=by have:p*(524+10*(m+b))<=p*964:=a0o _ (by omega);omega
  have u:=h.hE n k;have r:=tails (y:=1+(m+1)+b) (e:=1+y n+(if gF X then n else 0)) i z k (by omega:t+6<=964*p) (B n);have q:=tails (y:=1) (e:=1) (b:=b) i z k (by omega:t+7<=964*p) (by have:=Iv p b n;have:1*1<=p*L1 p b n:=a0D i this;simpa using this);have v:(t+4+3+(F n+(y n+1+(if gF X then n else 0))*(t+6)))*2 ^ lg p=F n*2 ^ lg p+(1+y n+(if gF X then n else 0))*(t+6)*2 ^ lg p+1*(t+7)*2 ^ lg p:=by grind
  rw[v];have I:Rb p b (w+2*(m+b)+8) n=Rb p b w n+Rb p b (2*(1+(m+1)+b)) n+Rb p b (2*1) n+Rb p b 2 n:=by grind [SX]
  rw[I];have N:F n*2 ^ lg p<=Rb p b w n:=u;omega
 refine⟨?_,?_,?_,?_,?_,?_⟩
 .refine(KP.of G (.inr ⟨X,rfl⟩)).mono (by omega) (λn=>g n) (λn=>g n) (λn=>?_)
  exact a0b _
 .have:=h.ht
  rw[show 524+10*(m+1+b)=(524+10*(m+b))+10 by omega,a1A];have:10<=p*10:=by omega
  omega
 .grind [jK]
 .grind
 .grind [rG]
 intro x;simp[rG]at x
def lift{f a:Nat}(c:1<=n)(h:f*2 ^ lg a<=Rb a b w n)(g:lg a<=lg p):f*2 ^ lg p<=964*w*dS a*hh (b+lg p) n:=by
 obtain⟨j,d⟩:∃j,lg p=lg a+j:=⟨lg p-lg a,by omega⟩;have e:=SV (b+lg a) c j;rw[d,Nat.pow_add,<-a0Z]
 calc f*2 ^ lg a*2 ^ j<=Rb a b w n*2 ^ j:=a0z _ h
  _=964*w*dS a*(2 ^ j*hh (b+lg a) n):=by unfold Rb;rw[a0Z (964*w*dS a),a1b (hh _ _)]
  _<=964*w*dS a*hh (b+(lg a+j)) n:=by rw[<-a2M];exact a0o _ e
def FY(h:lg p<=lg q)(hb:b<=b'):L1 p b n<=L1 q b' n:=by grind [L1]
structure Ct(X:NF)(p b m w:Nat)(t:Nat)(C E e:Nat->Nat):Prop where
 k:zL X t C E e
 ht:t+8<=p*(524+10*(m+b))
 he:∀n,e n<=p*(1+m+b)*L1 p b n
 hC:∀n,1<=n->C n*2 ^ lg p<=Rb p b w n
 hE:∀n,1<=n->E n*2 ^ lg p<=Rb p b w n
def Pt.ct {C E e:Nat->Nat}(h:Pt X p b m w t C E e)(hz:X≠.zero):∃g k j,Ct X p b m w g C k j:=by
 have ht:=h.ht;cases d:jK X
 .refine⟨t,E,e,h.kp.plain d hz,by omega,λn=>by have:=h.he n;omega,h.hC,λn f=>?_⟩
  exact a0h (a0z _ (by omega)) (h.hE n f)
 cases X with
 | sum l =>
   refine⟨t+2,_,_,h.kp.sum,by omega,λn=>?_,h.hC,λn f=>?_⟩
   .have i:=h.he n
    have o:e n+(1+(if JE l=true then n else 0))<=p*(1+m+b)*L1 p b n:=i;show 1+e n+(if JE l=true then n else 0)<=_;omega
   exact h.hE n f
 | zero=>simp[jK]at d
 | one=>simp[jK]at d
 | set s=>simp[jK]at d
 | pair a c=>simp[jK]at d
 | star a=>simp[jK]at d
def ahb(a:1<=n)(h:b<=b'):Rb p b w n<=Rb p b' w n:=by unfold Rb;exact a0o _ (aff a (by omega))
def ahc{e:Nat}(h:e<=p*(1+m+b)*L1 p b n)(a:m<=m')(hb:b<=b'):e<=p*(1+m'+b')*L1 p b' n :=
 a0h h (a0D (a0o _ (by omega)) (FY (a0b _) hb))
theorem Ct.mono {C E e:Nat->Nat}(h:Ct X p b m w t C E e)(hb:b<=b')(d:m<=m')(c:w<=w'):Ct X p b' m' w' t C E e :=
 ⟨h.k,a0h h.ht (a0o _ (by omega)),λn=>ahc (h.he n) d hb,λn a=>a0h (h.hC n a) (a0h (vD c) (ahb a hb)),λn a=>a0h (h.hE n a) (a0h (vD c) (ahb a hb))⟩
theorem Pt.mono {C E e:Nat->Nat}(h:Pt X p b m w t C E e)(hb:b<=b')(f:m<=m')(c:w<=w'):Pt X p b' m' w' t C E e :=
 ⟨h.kp,a0h h.ht (a0o _ (by omega)),λn=>ahc (h.he n) f hb,λn a=>a0h (h.hC n a) (a0h (vD c) (ahb a hb)),λn a=>a0h (h.hE n a) (a0h (vD c) (ahb a hb)),λd=>by have:=h.br d;omega⟩
def Ct.cons {A B:NF}{tA c:Nat} {F r eA CB s j:Nat->Nat}(d:Ct A p b m w tA F r eA)(f:Ct B q b m w c CB s j)(D:1<=p)(hq:1<=q)(e:p+q<=40)(I:m+b<=44)(C:2*(1+m+b)<=w)
 (u:wf A) (v:aP A=true) (t:wf B) (tb:aP B=true) :
 Ct (aG A B) (p+q) b m w (tA+c+3) (λn=>r n+eA n*(c+3)+CB n) (λn=>r n+eA n*(c+3)+s n) (λn=>eA n+j n):=by
 have i:lg p<=lg (p+q):=afg e;have l2:lg q<=lg (p+q):=by rw[a2w];exact afg (by omega)
 have M:=d.ht;have L:=f.ht;have h:∀n,1<=n->eA n*(c+3)*2 ^ lg (p+q)<=964*w*(p*q)*hh (b+lg (p+q)) n:=by
  intro n a;have o:eA n<=p*(1+m+b)*L1 (p+q) b n:=a0h (d.he n) (a0o _ (FY i (a0b _)));have l:c+3<=964*q:=by have:q*(524+10*(m+b))<=q*964:=a0o _ (by omega);omega
  have E:=ajV (p+q) b a
  calc eA n*(c+3)*2 ^ lg (p+q)<=p*(1+m+b)*L1 (p+q) b n*(964*q)*2 ^ lg (p+q):=a0z _ (a0D o l)
   _=964*(1+m+b)*(p*q)*(L1 (p+q) b n*2 ^ lg (p+q)):=by simp only[a1b,a1y,a0Z]
   _<=964*(1+m+b)*(p*q)*(2*hh (b+lg (p+q)) n):=a0o _ E
   _=964*(2*(1+m+b))*(p*q)*hh (b+lg (p+q)) n:=by simp only[a1b,a1y,a0Z]
   _<=964*w*(p*q)*hh (b+lg (p+q)) n:=a0z _ (a0z _ (a0o _ C))
 have g:∀n x y z:Nat,x*2 ^ lg (p+q)<=964*w*dS p*hh (b+lg (p+q)) n->y*2 ^ lg (p+q)<=964*w*(p*q)*hh (b+lg (p+q)) n->z*2 ^ lg (p+q)<=964*w*dS q*hh (b+lg (p+q)) n->(x+y+z)*2 ^ lg (p+q)<=Rb (p+q) b w n:=by
  intro n x y z H G hz;have J:=aha D hq e;have o:964*w*dS p*hh (b+lg (p+q)) n+964*w*(p*q)*hh (b+lg (p+q)) n+964*w*dS q*hh (b+lg (p+q)) n=964*w*(dS p+p*q+dS q)*hh (b+lg (p+q)) n:=by grind
  have l:964*w*(dS p+p*q+dS q)*hh (b+lg (p+q)) n<=Rb (p+q) b w n:=by unfold Rb;exact a0z _ (a0o _ (by omega))
  rw[a0J,a0J];omega
 refine⟨d.k.then f.k u v t tb,?_,λn=>?_,λn a=>?_,λn a=>?_⟩
 .rw[a0J];omega
 .have o:eA n<=p*(1+m+b)*L1 (p+q) b n:=a0h (d.he n) (a0o _ (FY i (a0b _)))
  have l:j n<=q*(1+m+b)*L1 (p+q) b n:=a0h (f.he n) (a0o _ (FY l2 (a0b _)));rw[a0J,a0J];omega
 .exact g n _ _ _ (lift a (d.hE n a) i) (h n a) (lift a (f.hC n a) l2)
 exact g n _ _ _ (lift a (d.hE n a) i) (h n a) (lift a (f.hE n a) l2)
structure Gt(X:NF)(p b m w:Nat)(t:Nat)(C E e:Nat->Nat):Prop where
 kp:KP X t C E e
 ht:t+5<=p*(524+10*(m+b))
 he:∀n,e n<=p*(1+m+b)*L1 p b n
 hC:∀n,1<=n->C n*2 ^ lg p<=Rb p b w n
 hE:∀n,1<=n->(t+3+E n)*2 ^ lg p<=Rb p b w n
def Pt.gt {C E e:Nat->Nat}(h:Pt X p b m w t C E e):Gt X p b m w t C E e :=
 ⟨h.kp,by have:=h.ht;omega,λn=>by have:=h.he n;omega,h.hC,λn a=>a0h (a0z _ (by omega)) (h.hE n a)⟩
def Ct.gt {C E e:Nat->Nat}(h:Ct X p b m w t C E e)(d:1<=p)(i:p<=40)(j:m+b<=44)(f:gF X=true):Gt X p b m (w+2) (t+1) C E e:=by
 have ht:=h.ht;refine⟨KP.of h.k (.inl f),by omega,h.he,λn a=>a0h (h.hC n a) (vD (by omega)),λn a=>?_⟩;have c:t+4<=964*p:=by have:p*(524+10*(m+b))<=p*964:=a0o _ (by omega);omega
 have o:=h.hE n a;have l:=tails (y:=1) (e:=1) (b:=b) d i a c (by have:=Iv p b n;have:1*1<=p*L1 p b n:=a0D d this;simpa using this);have g:(t+1+3+E n)*2 ^ lg p=E n*2 ^ lg p+1*(t+4)*2 ^ lg p:=by rw[<-a0J];congr 1;omega
 rw[g,<-SX];have:Rb p b (2*1) n=Rb p b 2 n:=rfl;omega
theorem Qk(f:Nat->Nat)(a:Nat):∀n,sumTo (λj=>f j*a) n=sumTo f n*a
 | 0=>by simp[sumTo]
 | n+1=>by simp only[sumTo,Qk f a n,a0J]
def atf {C:Nat->Nat}(c:1<=p)(l:p<=40)(f:1<=n)(hC:∀n,1<=n->C n*2 ^ lg p<=Rb p b w n) {x:Nat}(e:x*2 ^ lg p<=Rb p b w n):(x+sumTo (λj=>C j+519) n)*2 ^ lg p<=Rb p (b+1) (w+2) n:=by
 have h:=asa (C:=λj=>C j*2 ^ lg p) (a:=964*w*dS p) (k:=b+lg p) hC n;rw[Qk]at h;have g:sumTo (λj=>C j+519) n=sumTo C n+n*519:=by rw[yJ,oO]
 have o:n*519*2 ^ lg p<=Rb p (b+1) (2*1) n:=by
  refine tails (y:=1) c l f (by omega:519<=964*p) ?_;have:n<=L1 p (b+1) n:=by unfold L1;rw[a0n (by omega)];omega
  have m:L1 p (b+1) n<=p*L1 p (b+1) n:=a1q _ c;rw[a1H];omega
 have i:Rb p (b+1) (w+2) n=964*w*dS p*hh (b+lg p+1) n+Rb p (b+1) (2*1) n:=by rw[<-SX,show b+lg p+1=(b+1)+lg p by omega];rfl
 rw[i,g,a0J,a0J];have d:x*2 ^ lg p<=964*w*dS p*hh (b+lg p) n:=e;omega
def Gt.shut {C E e:Nat->Nat}(h:Gt X p b m w t C E e)(c:1<=p)(g:p<=40):Pt X p (b+1) m (w+2) t C E e:=by
 have f:∀n,L1 p b n<=L1 p (b+1) n:=λn=>FY (a0b _) (by omega)
 refine⟨h.kp,?_,λn=>?_,λn a=>?_,λn a=>?_,λ_=>by omega⟩
 .have:=h.ht
  rw[show 524+10*(m+(b+1))=(524+10*(m+b))+10 by omega,a1A];omega
 .have d:=h.he n
  have k:p*(1+m+b)*L1 p b n<=p*(1+m+b)*L1 p (b+1) n:=a0o _ (f n);have j:L1 p (b+1) n<=p*L1 p (b+1) n:=a1q _ c;have i:(if jK X then 1+(if rG X then n else 0) else 0)<=L1 p (b+1) n:=by grind [L1]
  rw[show 1+m+(b+1)=(1+m+b)+1 by omega,a1A,a0J,a1H];omega
 .exact a0h (h.hC n a) (a0h (vD (by omega)) (ahb a (by omega)))
 have d:=atf c g a h.hC (h.hE n a);refine a0h (a0z _ ?_) d
 split<;>omega
def apG(d:nU x=true)(f:l.Nodup)(j:∀y∈l,y=x\/y=.one)(e:x∈l):JE l=false:=by
 have i:vP x=false:=by cases x<;>simp[nU]at d<;>rfl
 have a:∀y∈l.filter (λy=>!vP y),y=x:=by grind [vP]
 have c:x∈l.filter (λy=>!vP y):=List.mem_filter.2 ⟨e,by simp[i]⟩;have b:(l.filter (λy=>!vP y)).Nodup:=f.filter _;unfold JE;generalize l.filter (λy=>!vP y)=L at *
 match L,a,c,b with
 | [],_,c,_=>simp at c
 | [y],a,_,_=>have:=a y (by simp);subst this;simp[d]
 | y::z::r,a,_,b=>have h:=a y (by simp);have g:=a z (by simp);rw[h,g]at b;simp at b
end
end Go.Proofs.YtedmellodofajaaGreatDoor
